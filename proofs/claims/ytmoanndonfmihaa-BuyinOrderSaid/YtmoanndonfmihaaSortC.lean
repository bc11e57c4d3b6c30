/-
  What greatestFirst of package share does at fewer than twenty numbers: its contract.
-/
import Derived.Test.YtmoanndonfmihaaSortB
namespace Go.Proofs.Ytmoanndonfmihaa
open Go.RowKit Go.Lib
set_option linter.unusedVariables false

/-- a new row of places comes back -/
def Order (w : World) (os : List Int) (e : Ending) (w' : World) : Prop :=
  ∃ O, e = .returned (.slice (some ⟨O, 0, none⟩) os.length os.length) ∧ w.heap.size ≤ O ∧ Row w' O os ∧ Below w.heap.size w w'
theorem order_mk {w w' : World} {O n : Nat} {os : List Int} (hn : os.length = n) (hO : w.heap.size ≤ O) (h : Row w' O os) (b : Below w.heap.size w w') : Order w os (.returned (.slice (some ⟨O, 0, none⟩) n n)) w' := by
  subst hn; exact ⟨O, rfl, hO, h, b⟩

/-- the first k places, and noughts -/
def upto (n k : Nat) : List Int := (List.range n).map fun i => if i < k then (i : Int) else 0
theorem upto_len (n k : Nat) : (upto n k).length = n := by simp [upto]
theorem upto_zero (n : Nat) : upto n 0 = List.replicate n 0 := by
  apply List.ext_getElem
  · simp [upto]
  · intro i h1 h2; simp [upto]
theorem upto_put (n k : Nat) : (upto n k).set k (k : Int) = upto n (k + 1) := by
  apply List.ext_getElem
  · simp [upto]
  · intro i h1 h2
    rw [List.getElem_set]
    simp only [upto, List.getElem_map, List.getElem_range]
    by_cases h : k = i
    · subst h; rw [if_pos rfl, if_pos (by omega)]
    · rw [if_neg h]
      by_cases h' : i < k
      · rw [if_pos h', if_pos (by omega)]
      · rw [if_neg h', if_neg (by omega)]
theorem upto_full (m : Nat) : upto (m + 1) (m + 1) = vals (plc m) := by
  apply List.ext_getElem
  · simp [upto, vals, plc]
  · intro i h1 h2
    have : i < m + 1 := by simpa [upto] using h1
    simp only [upto, vals, plc, List.getElem_map, List.getElem_range, Array.getElem_toList, Array.getElem_ofFn, id]
    rw [if_pos this]

end Go.Proofs.Ytmoanndonfmihaa
