/-
  What greatestFirst of package share does at forty numbers or fewer: its contract.
-/
import Derived.Test.YtmoanndonfmihaaSortC
import Derived.Test.YtmoanndonfmihaaStabF
import Derived.Test.YtmoanndonfmihaaFirstMath
namespace Go.Proofs.Ytmoanndonfmihaa
open Go.RowKit Go.Lib
set_option linter.unusedVariables false

/-- two places compared: the greater number first -/
def cfN (nums : List Int) (x y : Int) : Int := Lib.compareInt (nums.getD y.toNat 0) (nums.getD x.toNat 0)
def keyN (nums : List Int) (x : Int) : Int := - nums.getD x.toNat 0
theorem cfN_keyed (n : Nat) (nums : List Int) : Keyed n (cfN nums) (lxK (keyN nums)) :=
  keyed_of fun x y _ _ _ _ => by
    unfold cfN keyN Lib.compareInt
    generalize nums.getD x.toNat 0 = a
    generalize nums.getD y.toNat 0 = b
    constructor
    · intro h
      split at h
      · omega
      · split at h <;> omega
    · intro h
      rw [if_pos (by omega)]; decide
theorem upto_iota (n : Nat) : upto n n = iota n := by
  apply List.ext_getElem
  · simp [upto, iota]
  · intro i h1 h2
    have : i < n := by simpa [upto] using h1
    simp only [upto, iota, List.getElem_map, List.getElem_range]
    rw [if_pos this]

end Go.Proofs.Ytmoanndonfmihaa
