/-
  Merged: Sl.
-/
import Derived.Test.YtgccipmeiceonaaMk3
import Derived.Test.YtgccipmeiceonaaTrip
import Derived.BigQuiet
-- Sl
namespace Go.Proofs.Ytgccipmeiceonaa
open Go.RowKit
set_option linter.unusedVariables false

theorem Reads.sl {w : World} {a : Option Addr} {n cap : Nat} {zs : List Int} (h : Reads w (.slice a n cap) zs) : ∀ k, k < zs.length → ∃ b off, a = some ⟨b, off, none⟩ ∧ w.cell? ⟨b, off + k, none⟩ = some (.int .i64 (zs.getD k 0)) := by
  obtain ⟨a', cap', e, hm, hc⟩ := h
  simp only [Value.slice.injEq] at e
  obtain ⟨rfl, _, _⟩ := e
  exact hc

end Go.Proofs.Ytgccipmeiceonaa
