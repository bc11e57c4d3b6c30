/-
  What quota of package share does: its contract.
-/
import Derived.Test.YtmoanndonfmihaaTotal
import Derived.Test.YtmoanndonfmihaaShareC
import Derived.Test.YtmoanndonfmihaaPartsMath
namespace Go.Proofs.Ytmoanndonfmihaa
open Go.RowKit
set_option linter.unusedVariables false

theorem quot_le {T z S : Int} (hT : 0 ≤ T) (hz : 0 ≤ z) (hS : 0 < S) (h : z ≤ S) : 0 ≤ T * z / S ∧ T * z / S ≤ T := by
  refine ⟨Int.ediv_nonneg (Int.mul_nonneg hT hz) (by omega), ?_⟩
  have : T * z ≤ T * S := Int.mul_le_mul_of_nonneg_left h hT
  exact Int.ediv_le_of_le_mul hS this

theorem word_split (p s : Nat) : (p / 18446744073709551616 * 18446744073709551616 + p % 18446744073709551616) = p := by omega

end Go.Proofs.Ytmoanndonfmihaa
