/-
  Merged: RefPof.
-/
import Derived.Test.YtgccipmeiceonaaMk0
-- RefPof
namespace Go.Proofs.Ytgccipmeiceonaa
open Go.RowKit
set_option linter.unusedVariables false

def PofIs (a b c q r : Int) : Prop := ∀ w, Calls Try.prog 77 #[.int .i64 a, .int .i64 b, .int .i64 c] w fun e w' => e = .returned (.tuple #[.int .i64 q, .int .i64 r]) ∧ w = w'
theorem PofIs.run {a b c q r : Int} (h : PofIs a b c q r) (w : World) : Calls Try.prog 77 #[.int .i64 a, .int .i64 b, .int .i64 c] w fun e w' => e = .returned (.tuple #[.int .i64 q, .int .i64 r]) ∧ w = w' := h w
theorem pof_is {a b c : Int} (ha : 0 ≤ a ∧ a ≤ 1152921504606846976) (hb : 0 ≤ b ∧ b ≤ 1099511627776) (hc : 1 ≤ c ∧ c ≤ 70368744177664) (hq : a * b / c ≤ 2305843009213693952) : PofIs a b c (a * b / c) (a * b % c) := by
  intro w
  obtain ⟨a, rfl⟩ : ∃ n : Nat, a = (n : Int) := ⟨a.toNat, by omega⟩
  obtain ⟨b, rfl⟩ : ∃ n : Nat, b = (n : Int) := ⟨b.toNat, by omega⟩
  obtain ⟨c, rfl⟩ : ∃ n : Nat, c = (n : Int) := ⟨c.toNat, by omega⟩
  have e1 : ((a * b / c : Nat) : Int) = (a : Int) * (b : Int) / (c : Int) := by rw [Int.natCast_ediv, Int.natCast_mul]
  have e2 : ((a * b % c : Nat) : Int) = (a : Int) * (b : Int) % (c : Int) := by rw [Int.natCast_emod, Int.natCast_mul]
  rw [← e1] at hq
  have := partOf_ok a b c _ _ rfl rfl (by omega) (by omega) (by omega) (by omega) (by omega) w
  rw [e1, e2] at this
  exact this

end Go.Proofs.Ytgccipmeiceonaa
