/-
  Grid: with more money no less is done: the ways that end early.
-/
import Derived.Test.YtbfeojdlaajpdaaGridI
import Derived.Test.YtbfeojdlaajpdaaGridJ
namespace Go.Proofs.Ytbfeojdlaajpdaa
open Go.RowKit
set_option linter.unusedVariables false

/-- a settlement that goes, its answer a list that is known by what it keeps -/
theorem solve_ok (v vl : Value) (has : List Int) (ps : List (Int × Int × Int)) (I : List Nat → Prop) (w : World) (hr : Reads w v has) (hp : ReadsP w vl ps) (hg : gridE has ps = 0) (h0 : I (List.range ps.length)) (hI : keptS has ps I) :
    Calls Try.prog 14 #[v, vl] w fun e w' => ∃ (ds : List Nat) (g m cap : Nat), e = .returned (.tuple #[.slice (some ⟨g, 0, none⟩) m cap, .int .i64 0]) ∧ Hid (m = ds.length ∧ I ds ∧ okD ps.length ds ∧ ∀ q, q < 31 → ¬ (settleF ps has ds).getD q 0 < 0) ∧ Hid (w.heap.size ≤ g ∧ OwnI w' g (ints ds)) ∧ Hid (Kpt w w') := by
  refine (solve_run v vl has ps I w hr hp hg h0 hI).mono ?_
  rintro e w' ⟨⟨ds, h1, h2, h3, g, cap, rfl, _, hgw, ho⟩, hk⟩
  exact ⟨ds, g, _, cap, rfl, ⟨rfl, h1, h2, h3⟩, ⟨hgw, ho⟩, hk⟩

end Go.Proofs.Ytbfeojdlaajpdaa
