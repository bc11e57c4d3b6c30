/-
  What nextSeat of package share does: contracts.
-/
import Derived.Test.YtmoanndonfmihaaShareA
namespace Go.Proofs.Ytmoanndonfmihaa
open Go.RowKit
set_option linter.unusedVariables false

theorem Grew.drewN {w w' : World} (h : Grew w w') (n : Nat) : Grew w (w'.drewN n) := by
  induction n generalizing w' with
  | zero => exact h
  | succ n ih => exact (ih h).drew
theorem mul_bd {a b : Int} (h1 : 0 ≤ a) (h2 : a ≤ 1099511627776) (h3 : 0 ≤ b) (h4 : b ≤ 2001) : 0 ≤ a * b ∧ a * b ≤ 2200122767179777 := by
  refine ⟨Int.mul_nonneg h1 h3, ?_⟩
  have := Int.mul_le_mul h2 h4 h3 (by omega)
  omega
/-- a place in a list, in the walk's words -/
theorem at_getD {zs : List Int} (k : Nat) : zs.getD k 0 = zs[k]?.getD 0 := List.getD_eq_getElem?_getD ..


end Go.Proofs.Ytmoanndonfmihaa
