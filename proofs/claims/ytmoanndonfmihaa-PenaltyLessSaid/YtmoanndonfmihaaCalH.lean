/-
  The plain arithmetic of Count: whole weeks, and holidays.
-/
import Derived.Test.YtmoanndonfmihaaCalG
namespace Go.Proofs.Ytmoanndonfmihaa
open Go.RowKit
set_option linter.unusedVariables false

/-- one day apart -/
theorem cnt_point {β γ : Int → Bool} {f t h : Int} (hne : ∀ x, x ≠ h → β x = γ x) (hb : β h = false) :
    cnt γ f t = cnt β f t + (if f < h ∧ h ≤ t ∧ γ h = true then 1 else 0) := by
  by_cases g : f < h ∧ h ≤ t
  · obtain ⟨g1, g2⟩ := g
    rw [cnt_add γ (show f ≤ h - 1 by omega) (show h - 1 ≤ t by omega), cnt_add β (show f ≤ h - 1 by omega) (show h - 1 ≤ t by omega)]
    rw [cnt_add γ (show h - 1 ≤ h by omega) g2, cnt_add β (show h - 1 ≤ h by omega) g2]
    have e1 : cnt β f (h - 1) = cnt γ f (h - 1) := cnt_congr fun x _ _ => hne x (by omega)
    have e2 : cnt β h t = cnt γ h t := cnt_congr fun x _ _ => hne x (by omega)
    have s1 := cnt_succ β (Int.le_refl (h - 1))
    have s2 := cnt_succ γ (Int.le_refl (h - 1))
    rw [show h - 1 + 1 = h by omega, cnt_self] at s1 s2
    rw [hb] at s1
    rw [e1, e2, s1, s2]
    cases hg : γ h with
    | true => simp [g1, g2]; omega
    | false => simp
  · have e1 : cnt β f t = cnt γ f t := cnt_congr fun x _ _ => hne x (by intro e; subst e; omega)
    rw [if_neg (fun k => g ⟨k.1, k.2.1⟩), e1]; rfl

theorem hol_strict {b : Int} {hs : List Int} (h : holE b hs = 0) : hs.Pairwise (· < ·) ∧ ∀ x ∈ hs, b < x ∧ 0 ≤ x ∧ x ≤ 3652058 := by
  induction hs generalizing b with
  | nil => exact ⟨List.Pairwise.nil, by simp⟩
  | cons a t ih =>
    rw [holE] at h
    by_cases h1 : 0 ≤ a ∧ a ≤ 3652058
    · rw [if_neg (by omega)] at h
      by_cases h2 : a = b
      · rw [if_pos h2] at h; cases h
      · rw [if_neg h2] at h
        by_cases h3 : a < b
        · rw [if_pos h3] at h; cases h
        · rw [if_neg h3] at h
          obtain ⟨i1, i2⟩ := ih h
          refine ⟨List.pairwise_cons.2 ⟨fun x hx => (i2 x hx).1, i1⟩, fun x hx => ?_⟩
          rcases List.mem_cons.1 hx with rfl | hx
          · exact ⟨by omega, h1⟩
          · have := i2 x hx; exact ⟨by omega, this.2⟩
    · rw [if_pos h1] at h; cases h
theorem cal_strict {W : Int} {hs : List Int} (h : calE W hs = 0) : hs.Pairwise (· < ·) ∧ ∀ x ∈ hs, 0 ≤ x ∧ x ≤ 3652058 := by
  by_cases hW : W < 0 ∨ 126 < W
  · rw [calE_w hW] at h; cases h
  · by_cases hl : 60 < hs.length
    · rw [calE_m hW hl] at h; cases h
    · rw [calE_h hW (by omega)] at h
      exact ⟨(hol_strict h).1, fun x hx => ((hol_strict h).2 x hx).2⟩

/-- a holiday that counts -/
def holB (W f t h : Int) : Bool := decide (f < h ∧ h ≤ t) && wrkB W h
def holC (W f t : Int) : List Int → Nat
  | [] => 0
  | h :: l => (if holB W f t h = true then 1 else 0) + holC W f t l
theorem holC_le (W f t : Int) (l : List Int) : holC W f t l ≤ l.length := by
  induction l with
  | nil => exact Nat.le_refl _
  | cons h l ih => rw [holC, List.length_cons]; split <;> omega
theorem holC_snoc (W f t x : Int) (l : List Int) : holC W f t (l ++ [x]) = holC W f t l + if holB W f t x = true then 1 else 0 := by
  induction l with
  | nil => rw [List.nil_append, holC, holC, holC]; omega
  | cons h l ih => rw [List.cons_append, holC, ih, holC]; omega
theorem holC_take (W f t : Int) {l : List Int} {k : Nat} (hk : k < l.length) : holC W f t (l.take (k + 1)) = holC W f t (l.take k) + if holB W f t (l.getD k 0) = true then 1 else 0 := by
  rw [List.take_succ_eq_append_getElem hk, holC_snoc, List.getD_eq_getElem?_getD, List.getElem?_eq_getElem hk]; rfl
theorem biz_hols (W f t : Int) {hs : List Int} (hp : hs.Pairwise (· < ·)) : cnt (wrkB W) f t = cnt (bizB W hs) f t + holC W f t hs := by
  induction hs with
  | nil => rw [holC]; exact cnt_congr fun x _ _ => by unfold bizB wrkB; simp
  | cons h l ih =>
    obtain ⟨p1, p2⟩ := List.pairwise_cons.1 hp
    have hn : h ∉ l := fun hx => by have := p1 h hx; omega
    rw [ih p2, cnt_point (β := bizB W (h :: l)) (γ := bizB W l) (h := h), holC]
    · have : (f < h ∧ h ≤ t ∧ bizB W l h = true) ↔ holB W f t h = true := by
        unfold holB bizB wrkB
        simp [hn, and_assoc]
      by_cases e : holB W f t h = true
      · rw [if_pos e, if_pos (this.2 e)]; omega
      · rw [if_neg e, if_neg (fun g => e (this.1 g))]; omega
    · intro x hx
      unfold bizB
      simp [hx]
    · unfold bizB
      simp

/-- a bit of a weekend -/
def wbit (W : Int) (i : Nat) : Nat := W.toNat / 2 ^ i % 2
theorem wbit_01 (W : Int) (i : Nat) : wbit W i ≤ 1 := by unfold wbit; omega
theorem wrk_bit {W n : Int} (h0 : 0 ≤ W) (h1 : W ≤ 126) (hn : 0 ≤ n) : (if wrkB W n = true then 1 else 0 : Nat) = 1 - wbit W (n % 7).toNat := by
  unfold wrkB
  rw [wk_bit h0 h1 hn]
  have e : W / 2 ^ (n % 7).toNat = ((W.toNat / 2 ^ (n % 7).toNat : Nat) : Int) := by
    rw [Int.natCast_ediv, Int.toNat_of_nonneg h0, Int.natCast_pow]; rfl
  rw [e]
  unfold wbit
  generalize W.toNat / 2 ^ (n % 7).toNat = q
  by_cases g : q % 2 = 1
  · rw [decide_eq_true (show ((q : Nat) : Int) % 2 = 1 by omega), g]; rfl
  · rw [decide_eq_false (show ¬ ((q : Nat) : Int) % 2 = 1 by omega)]; simp; omega
theorem ones_bits (W : Int) : ones W.toNat = ((wbit W 0 + wbit W 1 + wbit W 2 + wbit W 3 + wbit W 4 + wbit W 5 + wbit W 6 : Nat) : Int) := by
  unfold ones wbit; simp
theorem cnt_week {W a : Int} (h0 : 0 ≤ W) (h1 : W ≤ 126) (ha : 0 ≤ a) : ((cnt (wrkB W) a (a + 7) : Nat) : Int) = 7 - ones W.toNat := by
  unfold cnt
  rw [show (a + 7 - a).toNat = 7 by omega]
  simp only [cntN]
  rw [wrk_bit h0 h1 (by omega), wrk_bit h0 h1 (by omega), wrk_bit h0 h1 (by omega), wrk_bit h0 h1 (by omega), wrk_bit h0 h1 (by omega), wrk_bit h0 h1 (by omega), wrk_bit h0 h1 (by omega), ones_bits]
  have b0 := wbit_01 W 0
  have b1 := wbit_01 W 1
  have b2 := wbit_01 W 2
  have b3 := wbit_01 W 3
  have b4 := wbit_01 W 4
  have b5 := wbit_01 W 5
  have b6 := wbit_01 W 6
  have hr : a % 7 = 0 ∨ a % 7 = 1 ∨ a % 7 = 2 ∨ a % 7 = 3 ∨ a % 7 = 4 ∨ a % 7 = 5 ∨ a % 7 = 6 := by omega
  have key : ∀ j : Int, (a + j) % 7 = (a % 7 + j) % 7 := by intro j; omega
  simp only [Int.add_assoc, key]
  rcases hr with h | h | h | h | h | h | h <;> rw [h] <;> simp <;> omega
theorem cnt_weeks {W a : Int} (h0 : 0 ≤ W) (h1 : W ≤ 126) (ha : 0 ≤ a) (k : Nat) : ((cnt (wrkB W) a (a + 7 * (k : Int)) : Nat) : Int) = (k : Int) * (7 - ones W.toNat) := by
  induction k with
  | zero => rw [show a + 7 * ((0 : Nat) : Int) = a by omega, cnt_self]; simp
  | succ k ih =>
    rw [cnt_add (wrkB W) (show a ≤ a + 7 * (k : Int) by omega) (show a + 7 * (k : Int) ≤ a + 7 * ((k + 1 : Nat) : Int) by omega), Int.natCast_add, ih,
      show a + 7 * ((k + 1 : Nat) : Int) = a + 7 * (k : Int) + 7 by omega, cnt_week h0 h1 (by omega), Int.natCast_add, Int.add_mul]
    simp
/-- what Count reckons -/
theorem count_is {W f t : Int} {hs : List Int} (hE : calE W hs = 0) (f0 : 0 ≤ f) (ft : f ≤ t) :
    (t - f) / 7 * (7 - ones W.toNat) + ((cnt (wrkB W) (t - (t - f) % 7) t : Nat) : Int) - ((holC W f t hs : Nat) : Int) = ((cnt (bizB W hs) f t : Nat) : Int) := by
  obtain ⟨h0, h1, _, _⟩ := cal_right hE
  have e1 := biz_hols W f t (cal_strict hE).1
  have e2 := cnt_weeks h0 h1 f0 ((t - f) / 7).toNat
  rw [show f + 7 * ((((t - f) / 7).toNat : Nat) : Int) = t - (t - f) % 7 by omega, show ((((t - f) / 7).toNat : Nat) : Int) = (t - f) / 7 by omega] at e2
  have e3 := cnt_add (wrkB W) (show f ≤ t - (t - f) % 7 by omega) (show t - (t - f) % 7 ≤ t by omega)
  rw [← e2]
  omega

end Go.Proofs.Ytmoanndonfmihaa
