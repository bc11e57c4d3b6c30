/-
  The plain arithmetic of business days: how many there are; the many-th of them.
-/
import Derived.Test.YtmoanndonfmihaaCalE
namespace Go.Proofs.Ytmoanndonfmihaa
open Go.RowKit
set_option linter.unusedVariables false

/-- how many of the k days behind a -/
def cntN (β : Int → Bool) (a : Int) : Nat → Nat
  | 0 => 0
  | k + 1 => cntN β a k + if β (a + (k : Int) + 1) = true then 1 else 0
/-- how many behind a, up to b -/
def cnt (β : Int → Bool) (a b : Int) : Nat := cntN β a (b - a).toNat
theorem cnt_self (β : Int → Bool) (a : Int) : cnt β a a = 0 := by unfold cnt; rw [Int.sub_self]; rfl
theorem cnt_succ (β : Int → Bool) {a b : Int} (h : a ≤ b) : cnt β a (b + 1) = cnt β a b + if β (b + 1) = true then 1 else 0 := by
  unfold cnt
  rw [show (b + 1 - a).toNat = (b - a).toNat + 1 by omega, cntN, show a + (((b - a).toNat : Nat) : Int) + 1 = b + 1 by omega]
theorem cnt_add (β : Int → Bool) {a b c : Int} (h : a ≤ b) (k : b ≤ c) : cnt β a c = cnt β a b + cnt β b c := by
  obtain ⟨j, rfl⟩ : ∃ j : Nat, c = b + j := ⟨(c - b).toNat, by omega⟩
  clear k
  induction j with
  | zero => rw [show b + ((0 : Nat) : Int) = b by omega, cnt_self]; rfl
  | succ j ih =>
    rw [show b + ((j + 1 : Nat) : Int) = b + (j : Int) + 1 by omega, cnt_succ β (show a ≤ b + (j : Int) by omega), cnt_succ β (show b ≤ b + (j : Int) by omega), ih]
    omega
theorem cnt_pre (β : Int → Bool) {a b : Int} (h : a ≤ b) : cnt β (a - 1) b = (if β a = true then 1 else 0) + cnt β a b := by
  rw [cnt_add β (show a - 1 ≤ a by omega) h]
  have := cnt_succ β (Int.le_refl (a - 1))
  rw [show a - 1 + 1 = a by omega, cnt_self] at this
  rw [this]; omega
theorem cnt_le (β : Int → Bool) (a b : Int) : cnt β a b ≤ (b - a).toNat := by
  unfold cnt
  generalize (b - a).toNat = k
  induction k with
  | zero => exact Nat.le_refl _
  | succ k ih => rw [cntN]; split <;> omega
theorem cnt_mono (β : Int → Bool) {a b c : Int} (h : a ≤ b) (k : b ≤ c) : cnt β a b ≤ cnt β a c := by rw [cnt_add β h k]; omega
/-- one at the end -/
theorem cnt_end (β : Int → Bool) {a b : Int} (h : a < b) (hb : β b = true) : cnt β a b = cnt β a (b - 1) + 1 := by
  have := cnt_succ β (show a ≤ b - 1 by omega)
  rw [show b - 1 + 1 = b by omega, if_pos hb] at this
  exact this
theorem cnt_at (β : Int → Bool) {a b : Int} (h : a ≤ b) (hb : β a = true) : cnt β (a - 1) b = cnt β a b + 1 := by
  rw [cnt_pre β h, if_pos hb]; omega
theorem cnt_pos {β : Int → Bool} {a b x : Int} (h : a < x) (k : x ≤ b) (hx : β x = true) : 1 ≤ cnt β a b := by
  rw [cnt_add β (Int.le_of_lt h) k, cnt_end β h hx]; omega
theorem cnt_none {β : Int → Bool} {a b : Int} (h0 : a ≤ b) (h : cnt β a b = 0) {x : Int} (h1 : a < x) (h2 : x ≤ b) : β x = false := by
  cases e : β x with
  | false => rfl
  | true => have := cnt_pos h1 h2 e; omega
/-- of two of them with as many ahead -/
theorem cnt_inj {β : Int → Bool} {n k l : Int} (hk : n < k) (hl : n < l) (bk : β k = true) (bl : β l = true) (h : cnt β n k = cnt β n l) : k = l := by
  rcases Int.lt_trichotomy k l with g | g | g
  · have := cnt_add β (Int.le_of_lt hk) (Int.le_of_lt g)
    have := cnt_pos g (Int.le_refl _) bl
    omega
  · exact g
  · have := cnt_add β (Int.le_of_lt hl) (Int.le_of_lt g)
    have := cnt_pos g (Int.le_refl _) bk
    omega
theorem cnt_inj_dn {β : Int → Bool} {n k l : Int} (hk : k ≤ n) (hl : l ≤ n) (bk : β k = true) (bl : β l = true) (h : cnt β (k - 1) n = cnt β (l - 1) n) : k = l := by
  rcases Int.lt_trichotomy k l with g | g | g
  · have := cnt_add β (show k - 1 ≤ l - 1 by omega) (show l - 1 ≤ n by omega)
    have := cnt_pos (show k - 1 < k by omega) (show k ≤ l - 1 by omega) bk
    omega
  · exact g
  · have := cnt_add β (show l - 1 ≤ k - 1 by omega) (show k - 1 ≤ n by omega)
    have := cnt_pos (show l - 1 < l by omega) (show l ≤ k - 1 by omega) bl
    omega
theorem cnt_congr {β γ : Int → Bool} {a b : Int} (h : ∀ x, a < x → x ≤ b → β x = γ x) : cnt β a b = cnt γ a b := by
  unfold cnt
  have : ∀ k : Nat, (k : Int) ≤ b - a → cntN β a k = cntN γ a k := by
    intro k
    induction k with
    | zero => intro _; rfl
    | succ k ih => intro hk; rw [cntN, cntN, ih (by omega), h _ (by omega) (by omega)]
  by_cases e : a ≤ b
  · exact this _ (by omega)
  · rw [show (b - a).toNat = 0 by omega]; rfl

theorem vis_up (β : Int → Bool) (a : Int) (k : Nat) : (vis β (a + 1) 1 k).length = cnt β a (a + k) := by
  induction k with
  | zero => rw [show a + ((0 : Nat) : Int) = a by omega, cnt_self]; rfl
  | succ k ih =>
    rw [show a + ((k + 1 : Nat) : Int) = a + (k : Int) + 1 by omega, cnt_succ β (by omega), ← ih]
    cases hb : β (a + 1 + 1 * (k : Int)) with
    | true => rw [vis_t hb, show a + (k : Int) + 1 = a + 1 + 1 * (k : Int) by omega, if_pos hb]; simp
    | false => rw [vis_f hb, show a + (k : Int) + 1 = a + 1 + 1 * (k : Int) by omega, if_neg (by rw [hb]; simp)]; simp
theorem vis_dn (β : Int → Bool) (b : Int) (k : Nat) : (vis β b (-1) k).length = cnt β (b - k) b := by
  induction k with
  | zero => rw [show b - ((0 : Nat) : Int) = b by omega, cnt_self]; rfl
  | succ k ih =>
    rw [show b - ((k + 1 : Nat) : Int) = b - (k : Int) - 1 by omega, cnt_pre β (by omega), ← ih]
    cases hb : β (b + -1 * (k : Int)) with
    | true => rw [vis_t hb, show b - (k : Int) = b + -1 * (k : Int) by omega, if_pos hb]; simp; omega
    | false => rw [vis_f hb, show b - (k : Int) = b + -1 * (k : Int) by omega, if_neg (by rw [hb]; simp)]; simp
theorem vis_get {β : Int → Bool} {s d : Int} {T m : Nat} (h1 : 1 ≤ m) (h2 : m ≤ (vis β s d T).length) :
    ∃ j : Nat, j < T ∧ nthR (vis β s d T) m = s + d * (j : Int) ∧ β (s + d * (j : Int)) = true ∧ (vis β s d (j + 1)).length = m := by
  induction T with
  | zero => exact absurd h2 (by simp [vis]; omega)
  | succ T ih =>
    by_cases g : m ≤ (vis β s d T).length
    · obtain ⟨j, j1, j2, j3, j4⟩ := ih g
      refine ⟨j, by omega, ?_, j3, j4⟩
      obtain ⟨t, ht⟩ := vis_pre β s d (Nat.le_succ T)
      rw [← j2]
      unfold nthR
      rw [if_pos h2, if_pos g, List.getD_eq_getElem?_getD, List.getD_eq_getElem?_getD]
      show (vis β s d (T + 1))[m - 1]?.getD 0 = _
      have ht' : vis β s d (T + 1) = vis β s d T ++ t := ht.symm
      rw [ht', List.getElem?_append_left (by omega)]
    · cases hb : β (s + d * (T : Int)) with
      | false => rw [vis_f hb] at h2; omega
      | true =>
        have e : m = (vis β s d T).length + 1 := by rw [vis_t hb] at h2; simp at h2; omega
        refine ⟨T, by omega, ?_, hb, by rw [vis_t hb, e]; simp⟩
        rw [e, vis_t hb]
        exact (nth_in (List.prefix_refl _)).1

theorem up_cases (W : Int) (hs : List Int) {n : Int} {m : Nat} (h0 : -1 ≤ n) (h1 : n ≤ 3652058) (hm : 1 ≤ m) :
    (upE W hs (n + 1) m = 0 ∧ n < upR W hs (n + 1) m ∧ upR W hs (n + 1) m ≤ 3652058 ∧ bizB W hs (upR W hs (n + 1) m) = true ∧ cnt (bizB W hs) n (upR W hs (n + 1) m) = m) ∨
    (upE W hs (n + 1) m = 8 ∧ upR W hs (n + 1) m = 0 ∧ cnt (bizB W hs) n 3652058 < m) := by
  unfold upE upR
  have hT : (vis (bizB W hs) (n + 1) 1 (3652059 - (n + 1)).toNat).length = cnt (bizB W hs) n 3652058 := by
    rw [vis_up, show n + (((3652059 - (n + 1)).toNat : Nat) : Int) = 3652058 by omega]
  by_cases g : m ≤ (vis (bizB W hs) (n + 1) 1 (3652059 - (n + 1)).toNat).length
  · left
    obtain ⟨j, j1, j2, j3, j4⟩ := vis_get hm g
    rw [j2]
    refine ⟨?_, by omega, by omega, j3, ?_⟩
    · unfold nthE; rw [if_pos g]
    · rw [vis_up] at j4
      rw [← j4]
      exact congrArg _ (by omega)
  · right
    obtain ⟨e1, e2⟩ := nth_out (show (vis (bizB W hs) (n + 1) 1 (3652059 - (n + 1)).toNat).length < m by omega)
    exact ⟨e2, e1, by omega⟩
theorem dn_cases (W : Int) (hs : List Int) {n : Int} {m : Nat} (h0 : -1 ≤ n) (h1 : n ≤ 3652058) (hm : 1 ≤ m) :
    (dnE W hs n m = 0 ∧ 0 ≤ dnR W hs n m ∧ dnR W hs n m ≤ n ∧ bizB W hs (dnR W hs n m) = true ∧ cnt (bizB W hs) (dnR W hs n m - 1) n = m) ∨
    (dnE W hs n m = 8 ∧ dnR W hs n m = 0 ∧ cnt (bizB W hs) (-1) n < m) := by
  unfold dnE dnR
  have hT : (vis (bizB W hs) n (-1) (n + 1).toNat).length = cnt (bizB W hs) (-1) n := by
    rw [vis_dn, show n - (((n + 1).toNat : Nat) : Int) = -1 by omega]
  by_cases g : m ≤ (vis (bizB W hs) n (-1) (n + 1).toNat).length
  · left
    obtain ⟨j, j1, j2, j3, j4⟩ := vis_get hm g
    rw [j2]
    refine ⟨?_, by omega, by omega, j3, ?_⟩
    · unfold nthE; rw [if_pos g]
    · rw [vis_dn] at j4
      rw [← j4]
      rw [show n + -1 * (j : Int) - 1 = n - ((j + 1 : Nat) : Int) by omega]
  · right
    obtain ⟨e1, e2⟩ := nth_out (show (vis (bizB W hs) n (-1) (n + 1).toNat).length < m by omega)
    exact ⟨e2, e1, by omega⟩

end Go.Proofs.Ytmoanndonfmihaa
