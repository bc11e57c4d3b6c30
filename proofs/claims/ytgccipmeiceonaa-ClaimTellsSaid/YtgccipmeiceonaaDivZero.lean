/-
  math/bits.Div64 where the upper word is 0, and at whatever words.
-/
import Derived.Test.YtgccipmeiceonaaDivWalk
import Derived.BigRegion
namespace Go.Proofs.Ytgccipmeiceonaa
open Go.RowKit
set_option linter.unusedVariables false

set_option maxRecDepth 100000 in
set_option maxHeartbeats 1000000 in
theorem div64_zero (lo y : Nat) (hy : 1 ≤ y) (hl : lo < 18446744073709551616) (hb : y < 18446744073709551616) (w : World) :
    Calls Try.prog 127 #[.int .u64 0, .int .u64 lo, .int .u64 y] w fun e w' => e = .returned (.tuple #[.int .u64 ((lo / y : Nat) : Int), .int .u64 ((lo % y : Nat) : Int)]) ∧ Grew w w' := by
  have h1 : ((y : Int) == 0) = false := by simp; omega
  have hq : lo / y ≤ lo := Nat.div_le_self lo y
  have e1 : IntKind.u64.wrap ((lo : Int) / (y : Int)) = ((lo / y : Nat) : Int) := by rw [← Int.natCast_ediv]; exact Mul64.wrapN _ (by omega)
  have e2 : (lo : Int) % (y : Int) = ((lo % y : Nat) : Int) := (Int.natCast_emod lo y).symm
  go_enter Try.func127, Try.ntmps127
  go_wp2
  go_region
  all_goals
    go_wp2
    go_ret2
    exact ⟨rfl, (Grew.refl _).drew⟩

theorem div64 (hi lo y : Nat) (hy : hi < y) (hl : lo < 18446744073709551616) (hb : y < 18446744073709551616) (w : World) :
    Calls Try.prog 127 #[.int .u64 hi, .int .u64 lo, .int .u64 y] w fun e w' => e = .returned (.tuple #[.int .u64 (((hi * 18446744073709551616 + lo) / y : Nat) : Int), .int .u64 (((hi * 18446744073709551616 + lo) % y : Nat) : Int)]) ∧ Grew w w' := by
  by_cases h : hi = 0
  · subst h
    refine (div64_zero lo y (by omega) hl hb w).mono ?_
    rintro e w' ⟨rfl, hg⟩
    exact ⟨by simp, hg⟩
  · refine (div64_far hi lo y (by omega) hy hl hb w).mono ?_
    rintro e w' ⟨rfl, rfl⟩
    exact ⟨rfl, Grew.refl _⟩

end Go.Proofs.Ytgccipmeiceonaa
