/-
  What Seats of package share does: contracts.
-/
import Derived.Test.YtmoanndonfmihaaShareB
import Derived.Test.YtmoanndonfmihaaRow
namespace Go.Proofs.Ytmoanndonfmihaa
open Go.RowKit
set_option linter.unusedVariables false

/-- a new row comes back, and no error -/
def Gives (w : World) (ss : List Int) (e : Ending) (w' : World) : Prop :=
  ∃ g, e = .returned (.tuple #[.slice (some ⟨g, 0, none⟩) ss.length ss.length, .int .i64 0]) ∧ w.heap.size ≤ g ∧ Row w' g ss ∧ Grew w w'
theorem gives_mk {w w' : World} {g n : Nat} {ss : List Int} (hn : ss.length = n) (hg : w.heap.size ≤ g) (h : Row w' g ss) (k : Grew w w') : Gives w ss (.returned (.tuple #[.slice (some ⟨g, 0, none⟩) n n, .int .i64 0])) w' := by
  subst hn; exact ⟨g, rfl, hg, h, k⟩

end Go.Proofs.Ytmoanndonfmihaa
