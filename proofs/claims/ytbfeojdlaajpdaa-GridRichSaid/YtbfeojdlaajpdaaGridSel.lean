/-
  Plain arithmetic of dues that are picked: of each party the first so many.
-/
import Derived.Test.YtbfeojdlaajpdaaGridS
namespace Go.Proofs.Ytbfeojdlaajpdaa
set_option linter.unusedVariables false

/-- how many of the first n dues are this party's -/
def cntP (ps : List (Int × Int × Int)) (q : Int) : Nat → Nat
  | 0 => 0
  | n + 1 => cntP ps q n + (if (ps.getD n default).1 = q then 1 else 0)
theorem cntP_mono (ps : List (Int × Int × Int)) (q : Int) {a b : Nat} (h : a ≤ b) : cntP ps q a ≤ cntP ps q b := by
  induction b with
  | zero => obtain rfl : a = 0 := by omega
            exact Nat.le_refl _
  | succ b ih =>
    rcases Nat.lt_or_ge a (b + 1) with h1 | h1
    · have := ih (by omega)
      simp only [cntP]; omega
    · obtain rfl : a = b + 1 := by omega
      exact Nat.le_refl _
theorem cntP_le (ps : List (Int × Int × Int)) (q : Int) (n : Nat) : cntP ps q n ≤ n := by
  induction n with
  | zero => exact Nat.le_refl _
  | succ n ih => simp only [cntP]; split <;> omega
/-- is this due picked? -/
def pickB (ps : List (Int × Int × Int)) (ms : List Int) (i : Nat) : Bool := decide ((ps.getD i default).1 < (ms.length : Int) ∧ (cntP ps (ps.getD i default).1 i : Int) < ms.getD (ps.getD i default).1.toNat 0)
def selN (ps : List (Int × Int × Int)) (ms : List Int) : Nat → List Nat
  | 0 => []
  | n + 1 => if pickB ps ms n then selN ps ms n ++ [n] else selN ps ms n
theorem sel_t {ps : List (Int × Int × Int)} {ms : List Int} {n : Nat} (h : pickB ps ms n = true) : selN ps ms (n + 1) = selN ps ms n ++ [n] := by simp [selN, h]
theorem sel_f {ps : List (Int × Int × Int)} {ms : List Int} {n : Nat} (h : pickB ps ms n = false) : selN ps ms (n + 1) = selN ps ms n := by simp [selN, h]
theorem mem_sel (ps : List (Int × Int × Int)) (ms : List Int) (n i : Nat) : i ∈ selN ps ms n ↔ i < n ∧ pickB ps ms i = true := by
  induction n with
  | zero => simp [selN]
  | succ n ih =>
    cases h : pickB ps ms n with
    | true =>
      rw [sel_t h, List.mem_append, ih]
      constructor
      · rintro (⟨h1, h2⟩ | h1)
        · exact ⟨by omega, h2⟩
        · obtain rfl : i = n := by simpa using h1
          exact ⟨by omega, h⟩
      · rintro ⟨h1, h2⟩
        rcases Nat.lt_or_ge i n with h3 | h3
        · exact .inl ⟨h3, h2⟩
        · exact .inr (by simp; omega)
    | false =>
      rw [sel_f h, ih]
      constructor
      · rintro ⟨h1, h2⟩; exact ⟨by omega, h2⟩
      · rintro ⟨h1, h2⟩
        refine ⟨?_, h2⟩
        rcases Nat.lt_or_ge i n with h3 | h3
        · exact h3
        · obtain rfl : i = n := by omega
          rw [h] at h2; cases h2
theorem incN_snoc {a n : Nat} {d : List Nat} (h : incN a d) (hd : ∀ i ∈ d, i < n) (ha : a ≤ n) : incN a (d ++ [n]) := by
  induction d generalizing a with
  | nil => exact ⟨ha, trivial⟩
  | cons i d ih =>
    have := hd i (by simp)
    exact ⟨h.1, ih h.2 (fun j hj => hd j (by simp [hj])) (by omega)⟩
theorem sel_inc (ps : List (Int × Int × Int)) (ms : List Int) (n : Nat) : incN 0 (selN ps ms n) := by
  induction n with
  | zero => exact trivial
  | succ n ih =>
    cases h : pickB ps ms n with
    | true => rw [sel_t h]; exact incN_snoc ih (fun i hi => ((mem_sel ps ms n i).1 hi).1) (Nat.zero_le _)
    | false => rw [sel_f h]; exact ih
theorem sel_ok (ps : List (Int × Int × Int)) (ms : List Int) : okD ps.length (selN ps ms ps.length) := ⟨sel_inc ps ms _, fun i hi => ((mem_sel ps ms _ i).1 hi).1⟩
theorem sel_len (ps : List (Int × Int × Int)) (ms : List Int) (n : Nat) : (selN ps ms n).length ≤ n := by
  induction n with
  | zero => exact Nat.le_refl _
  | succ n ih =>
    cases h : pickB ps ms n with
    | true => rw [sel_t h, List.length_append, List.length_singleton]; omega
    | false => rw [sel_f h]; omega
theorem sel_firsts (ps : List (Int × Int × Int)) (ms : List Int) : firsts ps (selN ps ms ps.length) := by
  intro i k hi hk he
  rw [mem_sel] at hi ⊢
  obtain ⟨h1, h2⟩ := hi
  refine ⟨by omega, ?_⟩
  have h3 := of_decide_eq_true h2
  have h4 := cntP_mono ps (ps.getD i default).1 (show k ≤ i by omega)
  refine decide_eq_true ?_
  rw [he]
  exact ⟨h3.1, by omega⟩
/-- what stands in the row of counts -/
def atN (ps : List (Int × Int × Int)) (n : Nat) : List Int := (List.range 31).map fun q : Nat => (cntP ps (q : Int) n : Int)
theorem atN_len (ps : List (Int × Int × Int)) (n : Nat) : (atN ps n).length = 31 := by simp [atN]
theorem atN_zero (ps : List (Int × Int × Int)) : atN ps 0 = List.replicate 31 0 := by
  refine List.ext_getElem (by simp [atN]) fun i h1 h2 => ?_
  rw [List.getElem_replicate]
  simp only [atN, List.getElem_map, cntP]
  rfl
theorem atN_get (ps : List (Int × Int × Int)) (n q : Nat) (h : q < 31) : (atN ps n).getD q 0 = (cntP ps (q : Int) n : Int) := by
  rw [List.getD_eq_getElem?_getD]
  simp [atN, h]
theorem atN_set (ps : List (Int × Int × Int)) (n q : Nat) (h : q < 31) (e : (ps.getD n default).1 = (q : Int)) : (atN ps n).set q ((cntP ps (q : Int) n : Int) + 1) = atN ps (n + 1) := by
  apply List.ext_getElem
  · simp [atN]
  · intro j h1 h2
    rw [List.getElem_set]
    by_cases hq : q = j
    · subst hq
      simp only [atN, List.getElem_map, List.getElem_range, cntP]
      rw [if_pos True.intro, if_pos e]
      omega
    · rw [if_neg hq]
      have : ¬ (ps.getD n default).1 = ((j : Nat) : Int) := by omega
      simp only [atN, List.getElem_map, List.getElem_range, cntP]
      rw [if_neg this, Nat.add_zero]

end Go.Proofs.Ytbfeojdlaajpdaa
