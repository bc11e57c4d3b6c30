/-
  Terms in memory.
-/
import Derived.Test.YtmoanndonfmihaaKept
namespace Go.Proofs.Ytmoanndonfmihaa
open Go.RowKit
set_option linter.unusedVariables false

/-- terms in memory: four ints each -/
def ReadsT (w : World) (v : Value) (ts : List (List Int)) : Prop :=
  ∃ (a : Option Addr) (cap : Nat), v = .slice a ts.length cap ∧ ts.length ≤ maxLen ∧ ∀ k, k < ts.length → ∃ g off, a = some ⟨g, off, none⟩ ∧ ∀ j, j < 4 → w.cell? ⟨g, off + k * 4 + j, none⟩ = some (.int .i64 ((ts.getD k []).getD j 0))
theorem ReadsT.kpt {w w' : World} {v : Value} {ts : List (List Int)} (h : ReadsT w v ts) (k : Kpt w w') : ReadsT w' v ts := by
  obtain ⟨a, cap, rfl, hm, hc⟩ := h
  refine ⟨a, cap, rfl, hm, fun j hj => ?_⟩
  obtain ⟨g, off, rfl, h'⟩ := hc j hj
  exact ⟨g, off, rfl, fun i hi => k.cell (h' i hi)⟩

end Go.Proofs.Ytmoanndonfmihaa
