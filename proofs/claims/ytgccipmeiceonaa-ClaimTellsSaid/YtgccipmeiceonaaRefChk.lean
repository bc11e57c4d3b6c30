/-
  What the document's own answers on amounts are: between, AmountCheck; one bit of a part.
-/
import Derived.Test.YtgccipmeiceonaaPartRes
import Derived.IntWalk
namespace Go.Proofs.Ytgccipmeiceonaa
open Go.RowKit
set_option linter.unusedVariables false

theorem between_t (n l h : Int) (w : World) (h1 : l ≤ n) (h2 : n ≤ h) :
    Calls Try.prog 61 #[.int .i64 n, .int .i64 l, .int .i64 h] w fun e w' => e = .returned (.bool true) ∧ w = w' := by
  go_enter Try.func61, Try.ntmps61
  go_wp2
  go_ret
  exact ⟨rfl, rfl⟩
theorem between_f (n l h : Int) (w : World) (h1 : n < l ∨ h < n) :
    Calls Try.prog 61 #[.int .i64 n, .int .i64 l, .int .i64 h] w fun e w' => e = .returned (.bool false) ∧ w = w' := by
  by_cases h2 : n < l
  · clear h1
    go_enter Try.func61, Try.ntmps61
    go_wp2
    go_ret
    exact ⟨rfl, rfl⟩
  · have h3 : decide (n ≤ h) = false := decide_eq_false (by omega)
    clear h1
    go_enter Try.func61, Try.ntmps61
    go_wp2
    go_ret
    exact ⟨rfl, rfl⟩
theorem rchk_ok (a : Int) (w : World) (h : amtB a = true) :
    Calls Try.prog 108 #[.int .i64 a] w fun e w' => e = .returned (.int .i64 0) ∧ w = w' := by
  have h1 := amt_t h
  go_enter Try.func108, Try.ntmps108
  go_wp2_with (go_at_call 61; (with_reducible refine (between_t _ _ _ _ (by omega) (by omega)).mono ?_); rintro e w' ⟨rfl, rfl⟩)
  go_ret
  exact ⟨rfl, rfl⟩
theorem rchk_no (a : Int) (w : World) (h : amtB a = false) :
    Calls Try.prog 108 #[.int .i64 a] w fun e w' => e = .returned (.int .i64 3) ∧ w = w' := by
  have h1 := amt_f h
  go_enter Try.func108, Try.ntmps108
  go_wp2_with (go_at_call 61; (with_reducible refine (between_f _ _ _ _ (by omega)).mono ?_); rintro e w' ⟨rfl, rfl⟩)
  go_ret
  exact ⟨rfl, rfl⟩

theorem check_both (a : Int) : ∃ e, (∀ w, Calls Try.prog 97 #[.int .i64 a] w fun r w' => r = .returned (.int .i64 e) ∧ Grew w w') ∧ (∀ w, Calls Try.prog 108 #[.int .i64 a] w fun r w' => r = .returned (.int .i64 e) ∧ w = w') := by
  cases ha : amtB a with
  | false => exact ⟨3, fun w => check_no a w ha, fun w => rchk_no a w ha⟩
  | true => exact ⟨0, fun w => check_ok a w ha, fun w => rchk_ok a w ha⟩

theorem wrapNat {x : Nat} (h : x ≤ 9223372036854775807) : wrap64 (x : Int) = (x : Int) := IntWalk.wrap64_in _ (by omega)
/-- one bit of the other factor more -/
theorem part_step {a b c m q r : Nat} (hc : 1 ≤ c) (hc' : c ≤ 70368744177664) (ha : a ≤ 1152921504606846976) (hq : q = a * (b / 2 ^ (m + 1)) / c) (hr : r = a * (b / 2 ^ (m + 1)) % c) :
    ∃ B x y d0 r0 d1 r1 : Nat, (b : Int) / 2 ^ m = (B : Int) ∧ (a : Int) / (c : Int) = (x : Int) ∧ (a : Int) % (c : Int) = (y : Int) ∧ 2 * (r : Int) / (c : Int) = (d0 : Int) ∧ 2 * (r : Int) % (c : Int) = (r0 : Int) ∧
      (2 * (r : Int) + (y : Int)) / (c : Int) = (d1 : Int) ∧ (2 * (r : Int) + (y : Int)) % (c : Int) = (r1 : Int) ∧ x ≤ a ∧ y < c ∧ d0 ≤ 2 ∧ d1 ≤ 3 ∧ r0 < c ∧ r1 < c ∧ r < c ∧ B = b / 2 ^ m ∧
      (B % 2 = 0 → 2 * q + d0 = a * B / c ∧ r0 = a * B % c) ∧ (B % 2 ≠ 0 → 2 * q + x + d1 = a * B / c ∧ r1 = a * B % c) := by
  have hcp : 0 < c := hc
  have hr' : r < c := by rw [hr]; exact Nat.mod_lt _ hcp
  have hy := Nat.mod_lt a hcp
  have hx := Nat.div_le_self a c
  have eB : b / 2 ^ (m + 1) = b / 2 ^ m / 2 := by rw [Nat.pow_succ, Nat.div_div_eq_div_mul]
  have eqr : c * q + r = a * (b / 2 ^ m / 2) := by rw [hq, hr, ← eB]; exact Nat.div_add_mod _ _
  have eax := Nat.div_add_mod a c
  have d0le : 2 * r / c ≤ 2 := Nat.le_of_lt_succ (Nat.div_lt_of_lt_mul (by omega))
  have d1le : (2 * r + a % c) / c ≤ 3 := Nat.le_of_lt_succ (Nat.div_lt_of_lt_mul (by omega))
  have e0 := Nat.div_add_mod (2 * r) c
  have e1 := Nat.div_add_mod (2 * r + a % c) c
  refine ⟨b / 2 ^ m, a / c, a % c, 2 * r / c, 2 * r % c, (2 * r + a % c) / c, (2 * r + a % c) % c, ?_, ?_, ?_, ?_, ?_, ?_, ?_, hx, hy, d0le, d1le, Nat.mod_lt _ hcp, Nat.mod_lt _ hcp, hr', rfl, ?_, ?_⟩
  · rw [Int.natCast_ediv, cast_pow]
  · exact (Int.natCast_ediv a c).symm
  · exact (Int.natCast_emod a c).symm
  · have : 2 * (r : Int) / (c : Int) = ((2 * r / c : Nat) : Int) := by rw [Int.natCast_ediv, Int.natCast_mul]; rfl
    exact this
  · rw [Int.natCast_emod, Int.natCast_mul]; rfl
  · have : (2 * (r : Int) + ((a % c : Nat) : Int)) / (c : Int) = (((2 * r + a % c) / c : Nat) : Int) := by rw [Int.natCast_ediv, Int.natCast_add, Int.natCast_mul]; rfl
    exact this
  · exact (by rw [Int.natCast_emod (2 * r + a % c) c, Int.natCast_add, Int.natCast_mul]; rfl : (2 * (r : Int) + ((a % c : Nat) : Int)) % (c : Int) = (((2 * r + a % c) % c : Nat) : Int))
  · intro hB
    have h2 : b / 2 ^ m = 2 * (b / 2 ^ m / 2) := by omega
    have h3 : a * (b / 2 ^ m) = c * (2 * q + 2 * r / c) + 2 * r % c := by
      rw [h2, Nat.mul_left_comm, ← eqr, Nat.mul_add c, Nat.mul_left_comm c 2 q]; omega
    rw [h3]
    exact ⟨by rw [Nat.mul_add_div hcp, Nat.div_eq_of_lt (Nat.mod_lt _ hcp), Nat.add_zero], by rw [Nat.mul_add_mod, Nat.mod_mod]⟩
  · intro hB
    have h2 : b / 2 ^ m = 2 * (b / 2 ^ m / 2) + 1 := by omega
    have h3 : a * (b / 2 ^ m) = c * (2 * q + a / c + (2 * r + a % c) / c) + (2 * r + a % c) % c := by
      rw [h2, Nat.mul_add a, Nat.mul_one, Nat.mul_left_comm, ← eqr, Nat.mul_add c, Nat.mul_add c, Nat.mul_left_comm c 2 q]; omega
    rw [h3]
    exact ⟨by rw [Nat.mul_add_div hcp, Nat.div_eq_of_lt (Nat.mod_lt _ hcp), Nat.add_zero], by rw [Nat.mul_add_mod, Nat.mod_mod]⟩

end Go.Proofs.Ytgccipmeiceonaa
