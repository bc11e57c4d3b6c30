/-
  What a sale leaves: sums, days; sales of all, of the last, of one lot alone. Nothing of the program is used here.
-/
import Derived.Test.YtbohdhiadgcljaaLotMath
namespace Go.Proofs.Ytbohdhiadgcljaa

/-- days do not fall -/
def DayOk : Int → List (Int × Int × Int) → Prop
  | _, [] => True
  | b, p :: l => lotB p = true ∧ b ≤ p.1 ∧ DayOk p.1 l
theorem day_iff {b : Int} {l : List (Int × Int × Int)} : dayE b l = 0 ↔ DayOk b l := by
  induction l generalizing b with
  | nil => simp [dayE, DayOk]
  | cons p l ih =>
    unfold dayE DayOk
    split
    · next h =>
      split
      · next h2 => simp [h]; omega
      · next h2 => rw [ih]; simp only [h, true_and]; exact ⟨fun q => ⟨by omega, q⟩, fun q => q.2⟩
    · next h => simp [h]
theorem day_mono {b c : Int} {l : List (Int × Int × Int)} (h : DayOk b l) (hc : c ≤ b) : DayOk c l := by
  cases l with
  | nil => trivial
  | cons p l => exact ⟨h.1, Int.le_trans hc h.2.1, h.2.2⟩
theorem day_erase {b : Int} {l : List (Int × Int × Int)} (h : DayOk b l) (i : Nat) : DayOk b (l.eraseIdx i) := by
  induction l generalizing b i with
  | nil => simpa using h
  | cons p l ih =>
    cases i with
    | zero => exact day_mono h.2.2 h.2.1
    | succ i => exact ⟨h.1, h.2.1, ih h.2.2 i⟩
theorem day_set {b : Int} {l : List (Int × Int × Int)} (h : DayOk b l) (i : Nat) {q : Int × Int × Int} (hq : lotB q = true) (hd : q.1 = (l.getD i default).1) : DayOk b (l.set i q) := by
  induction l generalizing b i with
  | nil => simpa using h
  | cons p l ih =>
    cases i with
    | zero =>
      have e : q.1 = p.1 := hd
      exact ⟨hq, by rw [e]; exact h.2.1, by rw [e]; exact h.2.2⟩
    | succ i => exact ⟨h.1, h.2.1, ih h.2.2 i hd⟩

/-- what is left, and what went, is what was there -/
theorem sell_keeps (pick : List (Int × Int × Int) → Nat) (hp : ∀ l : List (Int × Int × Int), 0 < l.length → pick l < l.length) (n : Nat) (l : List (Int × Int × Int)) (u b : Int) (hB : ∀ p ∈ l, lotB p = true) (hn : l.length ≤ n) (h0 : 0 ≤ u) (h1 : u ≤ unitsOf l) (hD : DayOk b l) :
    unitsOf (sellL pick n l u).1 = unitsOf l - u ∧ costsOf (sellL pick n l u).1 + (sellL pick n l u).2 = costsOf l ∧ 0 ≤ (sellL pick n l u).2 ∧ (sellL pick n l u).1.length ≤ l.length ∧ DayOk b (sellL pick n l u).1 ∧ ∀ p ∈ (sellL pick n l u).1, lotB p = true := by
  induction n generalizing l u with
  | zero =>
    obtain rfl : l = [] := List.eq_nil_of_length_eq_zero (by omega)
    simp [unitsOf] at h1
    simp [sellL, unitsOf, costsOf, DayOk]; omega
  | succ n ih =>
    by_cases hu : u ≤ 0
    · rw [sellL, if_pos hu]
      exact ⟨by simp only; omega, by simp, Int.le_refl _, Nat.le_refl _, hD, hB⟩
    · have hl : 0 < l.length := by
        cases l with
        | nil => simp [unitsOf] at h1; omega
        | cons _ _ => simp
      have hi := hp l hl
      have hlot := hB _ (getD_memL hi)
      rw [sellL, if_neg hu]
      by_cases hlt : u < (l.getD (pick l) default).2.1
      · rw [if_pos hlt]
        have hb := part_bd hlot h0 (Int.le_of_lt hlt)
        have hq := left_lot hlot h0 hlt
        refine ⟨?_, ?_, hb.1, by rw [List.length_set]; exact Nat.le_refl _, day_set hD _ hq rfl, all_set hB _ hq⟩
        · simp only; rw [units_set hi]; simp only; omega
        · simp only; rw [costs_set hi]; simp only; omega
      · rw [if_neg hlt]
        have hlen := List.length_eraseIdx_of_lt hi
        obtain ⟨i1, i2, i3, i4, i5, i6⟩ := ih (l.eraseIdx (pick l)) (u - (l.getD (pick l) default).2.1) (all_erase hB _) (by omega) (by omega) (by rw [units_erase hi]; omega) (day_erase hD _)
        have hb := lot_t hlot
        refine ⟨?_, ?_, ?_, ?_, i5, i6⟩
        · simp only; rw [i1, units_erase hi]; omega
        · simp only; have := costs_erase hi; omega
        · simp only; omega
        · simp only; omega

structure Kept2 (l R : List (Int × Int × Int)) (u C : Int) : Prop where
  ok : lotsE R = 0
  units : unitsOf l = unitsOf R + u
  costs : costsOf l = costsOf R + C
  c0 : 0 ≤ C
  len : R.length ≤ l.length
theorem sell_kept (k : Int) {l : List (Int × Int × Int)} {u : Int} (h : lotsE l = 0) (h0 : 0 ≤ u) (h1 : u ≤ unitsOf l) : Kept2 l (sellL (pickK k) l.length l u).1 u (sellL (pickK k) l.length l u).2 := by
  obtain ⟨hn, hd, hB⟩ := lots_0 h
  obtain ⟨i1, i2, i3, i4, i5, i6⟩ := sell_keeps (pickK k) (fun l hl => pick_in k hl) l.length l u 0 hB (Nat.le_refl _) h0 h1 (day_iff.1 hd)
  exact ⟨lots_mk (by omega) (day_iff.2 i5), by omega, by omega, i3, i4⟩
/-- whoever sells all has nothing left -/
theorem sell_all (k : Int) {l : List (Int × Int × Int)} (h : lotsE l = 0) : sellL (pickK k) l.length l (unitsOf l) = ([], costsOf l) := by
  obtain ⟨hn, hd, hB⟩ := lots_0 h
  have K := sell_kept k h (by have := (units_bd hB).1; omega) (Int.le_refl _)
  have hk := (lots_0 K.ok).2.2
  have hu := K.units
  have e : (sellL (pickK k) l.length l (unitsOf l)).1 = [] := by
    have := (units_bd hk).1
    exact List.eq_nil_of_length_eq_zero (by omega)
  have hc := K.costs
  rw [e] at hc
  simp only [costsOf] at hc
  exact Prod.ext e (by omega)
/-- of one lot alone it does not matter which way -/
theorem pick_one (k : Int) (p : Int × Int × Int) : pickK k [p] = 0 := by
  have := pick_in k (l := [p]) (by simp)
  simpa using this
theorem sell_one (k : Int) (p : Int × Int × Int) (u : Int) : sellL (pickK k) 1 [p] u = sellL (pickK 1) 1 [p] u := by
  simp only [sellL, pick_one]
/-- what was bought last is sold first by the newest -/
theorem pick_last (l : List (Int × Int × Int)) (q : Int × Int × Int) : pickK 2 (l ++ [q]) = l.length := by unfold pickK; rw [if_neg (by decide), if_pos rfl]; simp
theorem sell_back {l : List (Int × Int × Int)} {q : Int × Int × Int} (h : lotsE (l ++ [q]) = 0) : sellL (pickK 2) (l ++ [q]).length (l ++ [q]) q.2.1 = (l, q.2.2) := by
  have hq := lot_t ((lots_0 h).2.2 q (by simp))
  have hg : (l ++ [q]).getD l.length default = q := by
    rw [List.getD_eq_getElem?_getD, List.getElem?_append_right (Nat.le_refl _)]; simp
  have he : (l ++ [q]).eraseIdx l.length = l := by
    rw [List.eraseIdx_append_of_length_le (Nat.le_refl _)]; simp
  rw [List.length_append, List.length_singleton, sellL, if_neg (by omega), pick_last, hg, if_neg (by omega), he, Int.sub_self, sell_nil _ _ _ _ (Int.le_refl _)]
  simp

end Go.Proofs.Ytbohdhiadgcljaa
