/-
  What Check, divisorOf and nextSeat of package share do: contracts.
-/
import Derived.Test.YtmoanndonfmihaaBase
import Derived.Test.YtmoanndonfmihaaShelf
import Derived.Test.YtmoanndonfmihaaShareMath
import Derived.Deep.QuietTactic
import Derived.BigQuiet
import Derived.IntWalk
namespace Go.Proofs.Ytmoanndonfmihaa
open Go.RowKit
set_option linter.unusedVariables false

theorem all_bad {zs : List Int} {k : Nat} (hk : k < zs.length) (hb : wtB (zs.getD k 0) = false) : zs.all wtB = false := by
  refine List.all_eq_false.2 ⟨zs.getD k 0, ?_, by rw [hb]; decide⟩
  rw [List.getD_eq_getElem?_getD, List.getElem?_eq_getElem hk]; simp
theorem all_good {zs : List Int} (h : ∀ j, j < zs.length → wtB (zs.getD j 0) = true) : zs.all wtB = true := by
  refine List.all_eq_true.2 fun a ha => ?_
  obtain ⟨j, hj, rfl⟩ := List.getElem_of_mem ha
  have := h j hj
  rwa [List.getD_eq_getElem?_getD, List.getElem?_eq_getElem hj] at this

end Go.Proofs.Ytmoanndonfmihaa
