/-
  Merged: CalG, CalH, CalI, CalJ, CalK.
-/
import Derived.Test.YtgccipmeiceonaaMp4
import Derived.Deep.RegionHeld3
import Derived.IntWalk
-- CalG
namespace Go.Proofs.Ytgccipmeiceonaa
open Go.RowKit
set_option linter.unusedVariables false

def ones (x : Nat) : Int := ((x % 2 + x / 2 % 2 + x / 4 % 2 + x / 8 % 2 + x / 16 % 2 + x / 32 % 2 + x / 64 % 2 : Nat) : Int)
theorem ones_bd (x : Nat) : 0 ≤ ones x ∧ ones x ≤ 7 := by unfold ones; omega
/-- what the library reckons -/
def onesA (x : Int) : Int := IntKind.u64.wrap (bits BinOp.and IntKind.u64 (x / 2) 6148914691236517205 + bits BinOp.and IntKind.u64 x 6148914691236517205)
def onesB (a : Int) : Int := IntKind.u64.wrap (bits BinOp.and IntKind.u64 (a / 4) 3689348814741910323 + bits BinOp.and IntKind.u64 a 3689348814741910323)
def onesC (b : Int) : Int := bits BinOp.and IntKind.u64 (IntKind.u64.wrap (b / 16 + b)) 1085102592571150095
def onesD (c : Int) : Int := IntKind.u64.wrap (c + c / 256)
def onesF (d : Int) : Int := IntKind.u64.wrap (d + d / 65536)
def onesG (e : Int) : Int := IntKind.u64.wrap (e + e / 4294967296)
def onesE (x : Int) : Int := bits BinOp.and IntKind.i64 (wrap64 (onesG (onesF (onesD (onesC (onesB (onesA x))))))) 127
theorem onesE_is (x : Nat) (h : x ≤ 126) : onesE (x : Int) = ones x := by
  have : ∀ y : Fin 127, onesE ((y.val : Nat) : Int) = ones y.val := by decide +kernel
  exact this ⟨x, by omega⟩
/-- no day of the weekend -/
def wrkB (W n : Int) : Bool := !wkB W n
end Go.Proofs.Ytgccipmeiceonaa

-- CalH
namespace Go.Proofs.Ytgccipmeiceonaa
open Go.RowKit
set_option linter.unusedVariables false

/-- one day apart -/
theorem cnt_point {β γ : Int → Bool} {f t h : Int} (hne : ∀ x, x ≠ h → β x = γ x) (hb : β h = false) :
    cnt γ f t = cnt β f t + (if f < h ∧ h ≤ t ∧ γ h = true then 1 else 0) := by
  by_cases g : f < h ∧ h ≤ t
  · obtain ⟨g1, g2⟩ := g
    rw [cnt_add γ (show f ≤ h - 1 by omega) (show h - 1 ≤ t by omega), cnt_add β (show f ≤ h - 1 by omega) (show h - 1 ≤ t by omega)]
    rw [cnt_add γ (show h - 1 ≤ h by omega) g2, cnt_add β (show h - 1 ≤ h by omega) g2]
    have e1 : cnt β f (h - 1) = cnt γ f (h - 1) := cnt_congr fun x _ _ => hne x (by omega)
    have e2 : cnt β h t = cnt γ h t := cnt_congr fun x _ _ => hne x (by omega)
    have s1 := cnt_succ β (Int.le_refl (h - 1))
    have s2 := cnt_succ γ (Int.le_refl (h - 1))
    rw [show h - 1 + 1 = h by omega, cnt_self] at s1 s2
    rw [hb] at s1
    rw [e1, e2, s1, s2]
    cases hg : γ h with
    | true => simp [g1, g2]; omega
    | false => simp
  · have e1 : cnt β f t = cnt γ f t := cnt_congr fun x _ _ => hne x (by intro e; subst e; omega)
    rw [if_neg (fun k => g ⟨k.1, k.2.1⟩), e1]; rfl

theorem hol_strict {b : Int} {hs : List Int} (h : holE b hs = 0) : hs.Pairwise (· < ·) ∧ ∀ x ∈ hs, b < x ∧ 0 ≤ x ∧ x ≤ 3652058 := by
  induction hs generalizing b with
  | nil => exact ⟨List.Pairwise.nil, by simp⟩
  | cons a t ih =>
    rw [holE] at h
    by_cases h1 : 0 ≤ a ∧ a ≤ 3652058
    · rw [if_neg (by omega)] at h
      by_cases h2 : a = b
      · rw [if_pos h2] at h; cases h
      · rw [if_neg h2] at h
        by_cases h3 : a < b
        · rw [if_pos h3] at h; cases h
        · rw [if_neg h3] at h
          obtain ⟨i1, i2⟩ := ih h
          refine ⟨List.pairwise_cons.2 ⟨fun x hx => (i2 x hx).1, i1⟩, fun x hx => ?_⟩
          rcases List.mem_cons.1 hx with rfl | hx
          · exact ⟨by omega, h1⟩
          · have := i2 x hx; exact ⟨by omega, this.2⟩
    · rw [if_pos h1] at h; cases h
theorem cal_strict {W : Int} {hs : List Int} (h : calE W hs = 0) : hs.Pairwise (· < ·) ∧ ∀ x ∈ hs, 0 ≤ x ∧ x ≤ 3652058 := by
  by_cases hW : W < 0 ∨ 126 < W
  · rw [calE_w hW] at h; cases h
  · by_cases hl : 60 < hs.length
    · rw [calE_m hW hl] at h; cases h
    · rw [calE_h hW (by omega)] at h
      exact ⟨(hol_strict h).1, fun x hx => ((hol_strict h).2 x hx).2⟩

/-- a holiday that counts -/
def holB (W f t h : Int) : Bool := decide (f < h ∧ h ≤ t) && wrkB W h
def holC (W f t : Int) : List Int → Nat
  | [] => 0
  | h :: l => (if holB W f t h = true then 1 else 0) + holC W f t l
theorem holC_le (W f t : Int) (l : List Int) : holC W f t l ≤ l.length := by
  induction l with
  | nil => exact Nat.le_refl _
  | cons h l ih => rw [holC, List.length_cons]; split <;> omega
theorem holC_snoc (W f t x : Int) (l : List Int) : holC W f t (l ++ [x]) = holC W f t l + if holB W f t x = true then 1 else 0 := by
  induction l with
  | nil => rw [List.nil_append, holC, holC, holC]; omega
  | cons h l ih => rw [List.cons_append, holC, ih, holC]; omega
theorem holC_take (W f t : Int) {l : List Int} {k : Nat} (hk : k < l.length) : holC W f t (l.take (k + 1)) = holC W f t (l.take k) + if holB W f t (l.getD k 0) = true then 1 else 0 := by
  rw [List.take_succ_eq_append_getElem hk, holC_snoc, List.getD_eq_getElem?_getD, List.getElem?_eq_getElem hk]; rfl
theorem biz_hols (W f t : Int) {hs : List Int} (hp : hs.Pairwise (· < ·)) : cnt (wrkB W) f t = cnt (bizB W hs) f t + holC W f t hs := by
  induction hs with
  | nil => rw [holC]; exact cnt_congr fun x _ _ => by unfold bizB wrkB; simp
  | cons h l ih =>
    obtain ⟨p1, p2⟩ := List.pairwise_cons.1 hp
    have hn : h ∉ l := fun hx => by have := p1 h hx; omega
    rw [ih p2, cnt_point (β := bizB W (h :: l)) (γ := bizB W l) (h := h), holC]
    · have : (f < h ∧ h ≤ t ∧ bizB W l h = true) ↔ holB W f t h = true := by
        unfold holB bizB wrkB
        simp [hn, and_assoc]
      by_cases e : holB W f t h = true
      · rw [if_pos e, if_pos (this.2 e)]; omega
      · rw [if_neg e, if_neg (fun g => e (this.1 g))]; omega
    · intro x hx
      unfold bizB
      simp [hx]
    · unfold bizB
      simp

/-- a bit of a weekend -/
def wbit (W : Int) (i : Nat) : Nat := W.toNat / 2 ^ i % 2
theorem wbit_01 (W : Int) (i : Nat) : wbit W i ≤ 1 := by unfold wbit; omega
theorem wrk_bit {W n : Int} (h0 : 0 ≤ W) (h1 : W ≤ 126) (hn : 0 ≤ n) : (if wrkB W n = true then 1 else 0 : Nat) = 1 - wbit W (n % 7).toNat := by
  unfold wrkB
  rw [wk_bit h0 h1 hn]
  have e : W / 2 ^ (n % 7).toNat = ((W.toNat / 2 ^ (n % 7).toNat : Nat) : Int) := by
    rw [Int.natCast_ediv, Int.toNat_of_nonneg h0, Int.natCast_pow]; rfl
  rw [e]
  unfold wbit
  generalize W.toNat / 2 ^ (n % 7).toNat = q
  by_cases g : q % 2 = 1
  · rw [decide_eq_true (show ((q : Nat) : Int) % 2 = 1 by omega), g]; rfl
  · rw [decide_eq_false (show ¬ ((q : Nat) : Int) % 2 = 1 by omega)]; simp; omega
theorem ones_bits (W : Int) : ones W.toNat = ((wbit W 0 + wbit W 1 + wbit W 2 + wbit W 3 + wbit W 4 + wbit W 5 + wbit W 6 : Nat) : Int) := by
  unfold ones wbit; simp
theorem cnt_week {W a : Int} (h0 : 0 ≤ W) (h1 : W ≤ 126) (ha : 0 ≤ a) : ((cnt (wrkB W) a (a + 7) : Nat) : Int) = 7 - ones W.toNat := by
  unfold cnt
  rw [show (a + 7 - a).toNat = 7 by omega]
  simp only [cntN]
  rw [wrk_bit h0 h1 (by omega), wrk_bit h0 h1 (by omega), wrk_bit h0 h1 (by omega), wrk_bit h0 h1 (by omega), wrk_bit h0 h1 (by omega), wrk_bit h0 h1 (by omega), wrk_bit h0 h1 (by omega), ones_bits]
  have b0 := wbit_01 W 0
  have b1 := wbit_01 W 1
  have b2 := wbit_01 W 2
  have b3 := wbit_01 W 3
  have b4 := wbit_01 W 4
  have b5 := wbit_01 W 5
  have b6 := wbit_01 W 6
  have hr : a % 7 = 0 ∨ a % 7 = 1 ∨ a % 7 = 2 ∨ a % 7 = 3 ∨ a % 7 = 4 ∨ a % 7 = 5 ∨ a % 7 = 6 := by omega
  have key : ∀ j : Int, (a + j) % 7 = (a % 7 + j) % 7 := by intro j; omega
  simp only [Int.add_assoc, key]
  rcases hr with h | h | h | h | h | h | h <;> rw [h] <;> simp <;> omega
theorem cnt_weeks {W a : Int} (h0 : 0 ≤ W) (h1 : W ≤ 126) (ha : 0 ≤ a) (k : Nat) : ((cnt (wrkB W) a (a + 7 * (k : Int)) : Nat) : Int) = (k : Int) * (7 - ones W.toNat) := by
  induction k with
  | zero => rw [show a + 7 * ((0 : Nat) : Int) = a by omega, cnt_self]; simp
  | succ k ih =>
    rw [cnt_add (wrkB W) (show a ≤ a + 7 * (k : Int) by omega) (show a + 7 * (k : Int) ≤ a + 7 * ((k + 1 : Nat) : Int) by omega), Int.natCast_add, ih,
      show a + 7 * ((k + 1 : Nat) : Int) = a + 7 * (k : Int) + 7 by omega, cnt_week h0 h1 (by omega), Int.natCast_add, Int.add_mul]
    simp
/-- what Count reckons -/
theorem count_is {W f t : Int} {hs : List Int} (hE : calE W hs = 0) (f0 : 0 ≤ f) (ft : f ≤ t) :
    (t - f) / 7 * (7 - ones W.toNat) + ((cnt (wrkB W) (t - (t - f) % 7) t : Nat) : Int) - ((holC W f t hs : Nat) : Int) = ((cnt (bizB W hs) f t : Nat) : Int) := by
  obtain ⟨h0, h1, _, _⟩ := cal_right hE
  have e1 := biz_hols W f t (cal_strict hE).1
  have e2 := cnt_weeks h0 h1 f0 ((t - f) / 7).toNat
  rw [show f + 7 * ((((t - f) / 7).toNat : Nat) : Int) = t - (t - f) % 7 by omega, show ((((t - f) / 7).toNat : Nat) : Int) = (t - f) / 7 by omega] at e2
  have e3 := cnt_add (wrkB W) (show f ≤ t - (t - f) % 7 by omega) (show t - (t - f) % 7 ≤ t by omega)
  rw [← e2]
  omega

end Go.Proofs.Ytgccipmeiceonaa

-- CalI
namespace Go.Proofs.Ytgccipmeiceonaa
open Go.RowKit
set_option linter.unusedVariables false

theorem two_cells (w : World) (f t : Int) : ∀ j, j < [f, t].length → (w.alloc (.cells #[.int .i64 f, .int .i64 t] 3)).cell? ⟨w.heap.size, 0 + j, none⟩ = some (.int .i64 ([f, t].getD j 0)) := by
  intro j hj
  rcases (show j = 0 ∨ j = 1 by simp at hj; omega) with rfl | rfl <;> simp [go_sem]
theorem daysE_2 {W : Int} {hs : List Int} {f t : Int} (h : daysE W hs [f, t] = 0) : calE W hs = 0 ∧ 0 ≤ f ∧ f ≤ 3652058 ∧ 0 ≤ t ∧ t ≤ 3652058 := by
  unfold daysE at h
  by_cases hE : calE W hs = 0
  · rw [if_pos hE] at h
    refine ⟨hE, ?_⟩
    unfold dysE at h
    by_cases hd : [f, t].all dayB = true
    · have : dayB f = true ∧ dayB t = true := by simpa using hd
      have a := day_t this.1
      have b := day_t this.2
      omega
    · rw [if_neg hd] at h; cases h
  · rw [if_neg hE] at h; exact absurd h hE

/-- checkDays of two days, where a calendar was boxed -/
theorem check2 (W f t : Int) (a : Option Addr) (cap : Nat) (hs : List Int) (w : World) (hr : Reads w (.slice a hs.length cap) hs) (hf : Fits hs) :
    Calls Try.prog 131 #[calV W (.slice a hs.length cap), .slice (some ⟨w.heap.size + 1, 0, none⟩) 2 2] ((w.alloc (.cells #[.int .i64 W, .slice a hs.length cap] 24)).alloc (.cells #[.int .i64 f, .int .i64 t] 3)) fun e w' => e = .returned (.int .i64 (daysE W hs [f, t])) ∧ Grew w w' ∧ w'.cell? ⟨w.heap.size, 0, none⟩ = some (.int .i64 W) ∧ w'.cell? ⟨w.heap.size, 1, none⟩ = some (.slice a hs.length cap) := by
  have := checkDays_any W (.slice a hs.length cap) hs [f, t] (w.heap.size + 1) 0 2 ((w.alloc (.cells #[.int .i64 W, .slice a hs.length cap] 24)).alloc (.cells #[.int .i64 f, .int .i64 t] 3)) (hr.grew (((Grew.refl w).alloc _ _).alloc _ _)) hf (by simp) (by
    have := two_cells (w.alloc (.cells #[.int .i64 W, .slice a hs.length cap] 24)) f t
    rw [World.size_alloc] at this
    exact this)
  refine this.mono ?_
  rintro e w' ⟨rfl, g⟩
  exact ⟨rfl, gtr (((Grew.refl w).alloc _ _).alloc _ _) g, g.cell (p := ⟨w.heap.size, 0, none⟩) (v := .int .i64 W) (by simp; omega) (by simp [go_sem]), g.cell (p := ⟨w.heap.size, 1, none⟩) (v := .slice a hs.length cap) (by simp; omega) (by simp [go_sem])⟩

end Go.Proofs.Ytgccipmeiceonaa

-- CalJ
namespace Go.Proofs.Ytgccipmeiceonaa
open Go.RowKit
set_option linter.unusedVariables false

theorem up_at {W : Int} {hs : List Int} {n k : Int} {m : Nat} (h0 : -1 ≤ n) (h1 : n < k) (h2 : k ≤ 3652058) (hm : 1 ≤ m) (hb : bizB W hs k = true) (hc : cnt (bizB W hs) n k = m) : upR W hs (n + 1) m = k ∧ upE W hs (n + 1) m = 0 := by
  rcases up_cases W hs h0 (by omega) hm with ⟨e1, e2, e3, e4, e5⟩ | ⟨e1, e2, e3⟩
  · exact ⟨cnt_inj e2 h1 e4 hb (e5.trans hc.symm), e1⟩
  · have := cnt_mono (bizB W hs) (Int.le_of_lt h1) h2; omega
theorem dn_at {W : Int} {hs : List Int} {n k : Int} {m : Nat} (h0 : 0 ≤ k) (h1 : k ≤ n) (h2 : n ≤ 3652058) (hm : 1 ≤ m) (hb : bizB W hs k = true) (hc : cnt (bizB W hs) (k - 1) n = m) : dnR W hs n m = k ∧ dnE W hs n m = 0 := by
  rcases dn_cases W hs (show -1 ≤ n by omega) h2 hm with ⟨e1, e2, e3, e4, e5⟩ | ⟨e1, e2, e3⟩
  · exact ⟨cnt_inj_dn e3 h1 e4 hb (e5.trans hc.symm), e1⟩
  · have := cnt_add (bizB W hs) (show -1 ≤ k - 1 by omega) (show k - 1 ≤ n by omega); omega
theorem next_at {W : Int} {hs : List Int} {n k : Int} (h0 : 0 ≤ n) (h1 : n ≤ k) (h2 : k ≤ 3652058) (hb : bizB W hs k = true) (hc : cnt (bizB W hs) (n - 1) k = 1) : upR W hs n 1 = k ∧ upE W hs n 1 = 0 := by
  have := up_at (W := W) (hs := hs) (n := n - 1) (k := k) (m := 1) (by omega) (by omega) h2 (by omega) hb hc
  rw [show n - 1 + 1 = n by omega] at this
  exact this

/-- Fit, where a date is known -/
def FitIs (W : Int) (hs : List Int) (n : Int) (w : World) (e : Ending) (w' : World) : Prop :=
  (∃ k, e = .returned (.tuple #[.int .i64 k, .int .i64 0]) ∧ Kpt w w' ∧ upR W hs n 1 = k ∧ upE W hs n 1 = 0 ∧ (∃ y m d D, vldB y m d = true ∧ num y m d = n ∧ vldB y m D = true ∧ num y m D = k)) ∨
  (e = .returned (.tuple #[.int .i64 (dnR W hs (n - 1) 1), .int .i64 (dnE W hs (n - 1) 1)]) ∧ Kpt w w' ∧
    ((∃ k y m d Y M D, upR W hs n 1 = k ∧ upE W hs n 1 = 0 ∧ vldB y m d = true ∧ num y m d = n ∧ vldB Y M D = true ∧ num Y M D = k ∧ ¬ (y = Y ∧ m = M)) ∨ (upE W hs n 1 = 8 ∧ upR W hs n 1 = 0 ∧ cnt (bizB W hs) (n - 1) 3652058 = 0)))
/-- the week of the laws -/
def wkH : List Int := [739936]
def WeekIs (w : World) (e : Ending) (w' : World) : Prop := ∃ v, e = .returned (calV 96 v) ∧ Reads w' v wkH ∧ Kpt w w'
theorem week_any (w : World) : Calls Try.prog 69 #[] w (WeekIs w) := by
  go_enter Try.func69, Try.ntmps69
  go_wp2
  refine bodyPost_ret (v := calV 96 (.slice (some ⟨w.heap.size + 1, 0, none⟩) 1 1)) (by simp [results, Try.results69, go_sem]) rfl ⟨_, rfl, ?_, ?_⟩
  · refine reads_mk (zs := wkH) rfl (by unfold maxLen; omega) fun j hj => ?_
    obtain rfl : j = 0 := by simpa [wkH] using hj
    simp [go_sem, wkH]
  · exact ((Kpt.refl _).alloc _).alloc _

theorem wk_fits : Fits wkH := fun j hj => by
  obtain rfl : j = 0 := by simpa [wkH] using hj
  simp [wkH]
theorem wb_is (v : Value) (w : World) (hr : Reads w v wkH) : Calls Try.prog 105 #[calV 96 v, .int .i64 739936] w fun e w' => e = .returned (.tuple #[.bool false, .int .i64 0]) ∧ Kpt w w' := by
  have := is_ok 96 739936 v wkH w hr wk_fits (by decide)
  rw [show bizB 96 wkH 739936 = false by decide +kernel] at this
  exact this.mono fun e w' h => ⟨h.1, h.2.kpt⟩
theorem wb_step1 (v : Value) (w : World) (hr : Reads w v wkH) : Calls Try.prog 169 #[calV 96 v, .int .i64 739935, .int .i64 4] w fun e w' => e = .returned (.tuple #[.int .i64 739942, .int .i64 0]) ∧ Kpt w w' := by
  have := step_up 96 739935 4 v wkH (by decide) (by decide) w hr wk_fits (by decide)
  obtain ⟨a, b⟩ := up_at (W := 96) (hs := wkH) (n := 739935) (k := 739942) (m := (4 : Int).toNat) (by decide) (by decide) (by decide) (by decide) (by decide +kernel) (by decide +kernel)
  rw [a, b] at this
  exact this
theorem wb_step2 (v : Value) (w : World) (hr : Reads w v wkH) : Calls Try.prog 169 #[calV 96 v, .int .i64 739937, .int .i64 (-2)] w fun e w' => e = .returned (.tuple #[.int .i64 739932, .int .i64 0]) ∧ Kpt w w' := by
  have := step_dn 96 739937 (-2) v wkH (by decide) (by decide) w hr wk_fits (by decide)
  obtain ⟨a, b⟩ := dn_at (W := 96) (hs := wkH) (n := 739937 - 1) (k := 739932) (m := (- -2 : Int).toNat) (by decide) (by decide) (by decide) (by decide) (by decide +kernel) (by decide +kernel)
  rw [a, b] at this
  exact this
theorem wb_check1 (w : World) : Calls Try.prog 52 #[calV 127 (.slice none 0 0)] w fun e w' => e = .returned (.int .i64 3) ∧ Kpt w w' :=
  (calCheck_w 127 none 0 0 (.inr (by decide)) w).mono fun e w' h => ⟨h.1, h.2.kpt⟩
theorem wb_check2 (w : World) (g : Nat) (hc : ∀ j, j < 2 → w.cell? ⟨g, 0 + j, none⟩ = some (.int .i64 ([2, 1].getD j 0))) : Calls Try.prog 52 #[calV 0 (.slice (some ⟨g, 0, none⟩) 2 2)] w fun e w' => e = .returned (.int .i64 4) ∧ Kpt w w' := by
  have := calCheck_some 0 g 0 2 [2, 1] (by decide) (by decide) (by decide) w hc (by intro j hj; rcases (show j = 0 ∨ j = 1 by simp at hj; omega) with rfl | rfl <;> simp)
  exact this.mono fun e w' h => ⟨h.1, h.2.kpt⟩

end Go.Proofs.Ytgccipmeiceonaa

-- CalK
namespace Go.Proofs.Ytgccipmeiceonaa
open Go.RowKit
set_option linter.unusedVariables false

theorem days_mk1 {W : Int} {hs : List Int} {n : Int} (h : calE W hs = 0) (h0 : 0 ≤ n) (h1 : n ≤ 3652058) : daysE W hs [n] = 0 := by
  unfold daysE dysE
  rw [if_pos h, if_pos]
  simp [dayB, h0, h1]
theorem days_mk2 {W : Int} {hs : List Int} {f t : Int} (h : calE W hs = 0) (h0 : 0 ≤ f) (h1 : f ≤ 3652058) (h2 : 0 ≤ t) (h3 : t ≤ 3652058) : daysE W hs [f, t] = 0 := by
  unfold daysE dysE
  rw [if_pos h, if_pos]
  simp [dayB, h0, h1, h2, h3]
theorem daysE_same {W : Int} {hs : List Int} {a b : List Int} (h : calE W hs ≠ 0) : daysE W hs a = calE W hs := by unfold daysE; rw [if_neg h]

def isR (W : Int) (hs : List Int) (n : Int) : Bool := if daysE W hs [n] = 0 then bizB W hs n else false
def nxtR (W : Int) (hs : List Int) (n : Int) : Int := if daysE W hs [n] = 0 then upR W hs n 1 else 0
def nxtE (W : Int) (hs : List Int) (n : Int) : Int := if daysE W hs [n] = 0 then upE W hs n 1 else daysE W hs [n]
def steR (W : Int) (hs : List Int) (n many : Int) : Int := if daysE W hs [n] = 0 then stpR W hs n many else 0
def steE (W : Int) (hs : List Int) (n many : Int) : Int := if daysE W hs [n] = 0 then stpE W hs n many else daysE W hs [n]
def couR (W : Int) (hs : List Int) (f t : Int) : Int := if daysE W hs [f, t] = 0 then (if t < f then 0 else (cnt (bizB W hs) f t : Nat)) else 0
def couE (W : Int) (hs : List Int) (f t : Int) : Int := if daysE W hs [f, t] = 0 then (if t < f then 1 else 0) else daysE W hs [f, t]

theorem is_any (W n : Int) (v : Value) (hs : List Int) (w : World) (hr : Reads w v hs) (hf : Fits hs) :
    Calls Try.prog 105 #[calV W v, .int .i64 n] w fun e w' => e = .returned (.tuple #[.bool (isR W hs n), .int .i64 (daysE W hs [n])]) ∧ Kpt w w' := by
  unfold isR
  by_cases h : daysE W hs [n] = 0
  · rw [if_pos h, h]; exact (is_ok W n v hs w hr hf h).mono fun e w' h => ⟨h.1, h.2.kpt⟩
  · rw [if_neg h]; exact (is_bad W n v hs w hr hf h).mono fun e w' h => ⟨h.1, h.2.kpt⟩
theorem step_any (W n many : Int) (v : Value) (hs : List Int) (w : World) (hr : Reads w v hs) (hf : Fits hs) :
    Calls Try.prog 169 #[calV W v, .int .i64 n, .int .i64 many] w fun e w' => e = .returned (.tuple #[.int .i64 (steR W hs n many), .int .i64 (steE W hs n many)]) ∧ Kpt w w' := by
  unfold steR steE
  by_cases h : daysE W hs [n] = 0
  · rw [if_pos h, if_pos h]; exact step_ok W n many v hs w hr hf h
  · rw [if_neg h, if_neg h]; exact step_bad W n many v hs w hr hf h
theorem cou_ok {W : Int} {hs : List Int} {f t : Int} (h : calE W hs = 0) (h0 : 0 ≤ f) (h1 : f ≤ t) (h2 : t ≤ 3652058) : couR W hs f t = (cnt (bizB W hs) f t : Nat) ∧ couE W hs f t = 0 := by
  unfold couR couE
  rw [days_mk2 h h0 (by omega) (by omega) h2, if_pos rfl, if_pos rfl, if_neg (by omega), if_neg (by omega)]
  exact ⟨rfl, rfl⟩
theorem is_ok' {W : Int} {hs : List Int} {n : Int} (h : calE W hs = 0) (h0 : 0 ≤ n) (h1 : n ≤ 3652058) : isR W hs n = bizB W hs n ∧ daysE W hs [n] = 0 := by
  unfold isR
  rw [days_mk1 h h0 h1, if_pos rfl]
  exact ⟨rfl, rfl⟩

/-- the next one: what is known of it -/
theorem nxt_cases (W : Int) (hs : List Int) (n : Int) :
    (nxtE W hs n = 0 ∧ calE W hs = 0 ∧ 0 ≤ n ∧ n ≤ nxtR W hs n ∧ nxtR W hs n ≤ 3652058 ∧ bizB W hs (nxtR W hs n) = true ∧ cnt (bizB W hs) (n - 1) (nxtR W hs n) = 1) ∨ (nxtE W hs n ≠ 0 ∧ nxtR W hs n = 0) := by
  unfold nxtR nxtE
  by_cases h : daysE W hs [n] = 0
  · rw [if_pos h, if_pos h]
    obtain ⟨hE, n0, n1⟩ := daysE_1 h
    have uc := up_cases W hs (n := n - 1) (m := 1) (by omega) (by omega) (by omega)
    rw [show n - 1 + 1 = n by omega] at uc
    rcases uc with ⟨e1, e2, e3, e4, e5⟩ | ⟨e1, e2, e3⟩
    · exact .inl ⟨e1, hE, n0, by omega, e3, e4, e5⟩
    · exact .inr ⟨by rw [e1]; decide, e2⟩
  · rw [if_neg h, if_neg h]; exact .inr ⟨h, rfl⟩
theorem nxt_at {W : Int} {hs : List Int} {n k : Int} (h : calE W hs = 0) (h0 : 0 ≤ n) (h1 : n ≤ k) (h2 : k ≤ 3652058) (hb : bizB W hs k = true) (hc : cnt (bizB W hs) (n - 1) k = 1) : nxtR W hs n = k ∧ nxtE W hs n = 0 := by
  unfold nxtR nxtE
  rw [days_mk1 h h0 (by omega), if_pos rfl, if_pos rfl]
  exact next_at h0 h1 h2 hb hc
/-- a step: what is known of it -/
theorem ste_cases (W : Int) (hs : List Int) (n many : Int) :
    (steE W hs n many = 0 ∧ calE W hs = 0 ∧ 0 ≤ n ∧ n ≤ 3652058 ∧ -500 ≤ many ∧ many ≤ 500 ∧ 0 ≤ steR W hs n many ∧ steR W hs n many ≤ 3652058 ∧
      ((many = 0 ∧ steR W hs n many = n) ∨
       (0 < many ∧ n < steR W hs n many ∧ bizB W hs (steR W hs n many) = true ∧ cnt (bizB W hs) n (steR W hs n many) = many.toNat) ∨
       (many < 0 ∧ steR W hs n many < n ∧ bizB W hs (steR W hs n many) = true ∧ cnt (bizB W hs) (steR W hs n many - 1) (n - 1) = (-many).toNat))) ∨
    (steE W hs n many ≠ 0 ∧ steR W hs n many = 0) := by
  unfold steR steE
  by_cases h : daysE W hs [n] = 0
  · rw [if_pos h, if_pos h]
    obtain ⟨hE, n0, n1⟩ := daysE_1 h
    unfold stpR stpE
    by_cases a : many < -500 ∨ 500 < many
    · rw [if_pos a, if_pos a]; exact .inr ⟨by decide, rfl⟩
    · rw [if_neg a, if_neg a]
      by_cases b : many = 0
      · rw [if_pos b, if_pos b]; exact .inl ⟨rfl, hE, n0, n1, by omega, by omega, n0, n1, .inl ⟨b, rfl⟩⟩
      · rw [if_neg b, if_neg b]
        by_cases c : 0 < many
        · rw [if_pos c, if_pos c]
          rcases up_cases W hs (n := n) (m := many.toNat) (by omega) n1 (by omega) with ⟨e1, e2, e3, e4, e5⟩ | ⟨e1, e2, e3⟩
          · exact .inl ⟨e1, hE, n0, n1, by omega, by omega, by omega, e3, .inr (.inl ⟨c, e2, e4, e5⟩)⟩
          · exact .inr ⟨by rw [e1]; decide, e2⟩
        · rw [if_neg c, if_neg c]
          rcases dn_cases W hs (n := n - 1) (m := (-many).toNat) (by omega) (by omega) (by omega) with ⟨e1, e2, e3, e4, e5⟩ | ⟨e1, e2, e3⟩
          · exact .inl ⟨e1, hE, n0, n1, by omega, by omega, e2, by omega, .inr (.inr ⟨by omega, by omega, e4, e5⟩)⟩
          · exact .inr ⟨by rw [e1]; decide, e2⟩
  · rw [if_neg h, if_neg h]; exact .inr ⟨h, rfl⟩
theorem ste_up {W : Int} {hs : List Int} {n k many : Int} (h : calE W hs = 0) (h0 : 0 ≤ n) (h1 : n < k) (h2 : k ≤ 3652058) (m0 : 0 < many) (m1 : many ≤ 500) (hb : bizB W hs k = true) (hc : cnt (bizB W hs) n k = many.toNat) : steR W hs n many = k ∧ steE W hs n many = 0 := by
  unfold steR steE stpR stpE
  rw [days_mk1 h h0 (by omega)]
  simp only [if_true, if_neg (show ¬ (many < -500 ∨ 500 < many) by omega), if_neg (show ¬ many = 0 by omega), if_pos m0]
  exact up_at (by omega) h1 h2 (by omega) hb hc
theorem ste_dn {W : Int} {hs : List Int} {n k many : Int} (h : calE W hs = 0) (h0 : 0 ≤ k) (h1 : k < n) (h2 : n ≤ 3652058) (m0 : many < 0) (m1 : -500 ≤ many) (hb : bizB W hs k = true) (hc : cnt (bizB W hs) (k - 1) (n - 1) = (-many).toNat) : steR W hs n many = k ∧ steE W hs n many = 0 := by
  unfold steR steE stpR stpE
  rw [days_mk1 h (by omega) h2]
  simp only [if_true, if_neg (show ¬ (many < -500 ∨ 500 < many) by omega), if_neg (show ¬ many = 0 by omega), if_neg (show ¬ 0 < many by omega)]
  exact dn_at h0 (by omega) (by omega) (by omega) hb hc
theorem ste_zero {W : Int} {hs : List Int} {n : Int} (h : calE W hs = 0) (h0 : 0 ≤ n) (h2 : n ≤ 3652058) : steR W hs n 0 = n ∧ steE W hs n 0 = 0 := by
  unfold steR steE stpR stpE
  rw [days_mk1 h h0 h2]
  exact ⟨rfl, rfl⟩

theorem fits_of {zs : List Int} (h : ∀ n ∈ zs, (Lit.int .i64 n).wf = true) : Fits zs := fun j hj => by
  rw [List.getD_eq_getElem?_getD, List.getElem?_eq_getElem hj]
  exact wf_i64 (h _ (List.getElem_mem hj))

end Go.Proofs.Ytgccipmeiceonaa
