/-
  What divide, negate and Part of package money do: contracts.
-/
import Derived.Test.YtgccipmeiceonaaDivZero
import Derived.Test.YtgccipmeiceonaaMoneyA
namespace Go.Proofs.Ytgccipmeiceonaa
open Go.RowKit
set_option linter.unusedVariables false

theorem mul64_any (x y : Nat) (hx : x < 18446744073709551616) (hy : y < 18446744073709551616) (w : World) :
    Calls Try.prog 126 #[.int .u64 x, .int .u64 y] w fun e w' => (∃ hi lo : Nat, e = .returned (.tuple #[.int .u64 hi, .int .u64 lo]) ∧ hi * 18446744073709551616 + lo = x * y ∧ lo < 18446744073709551616) ∧ w = w' := by
  refine (Try.bits_Mul64 x y hx hy w).mono ?_
  rintro e w' ⟨rfl, rfl⟩
  exact ⟨⟨_, _, rfl, by have := Nat.div_add_mod (x * y) 18446744073709551616; omega, Nat.mod_lt _ (by omega)⟩, rfl⟩

theorem div64_any (hi lo y n : Nat) (hn : hi * 18446744073709551616 + lo = n) (hy : hi < y) (hl : lo < 18446744073709551616) (hb : y < 18446744073709551616) (w : World) :
    Calls Try.prog 127 #[.int .u64 hi, .int .u64 lo, .int .u64 y] w fun e w' => (∃ q r : Nat, e = .returned (.tuple #[.int .u64 q, .int .u64 r]) ∧ q = n / y ∧ r = n % y) ∧ Grew w w' := by
  subst hn
  refine (div64 hi lo y hy hl hb w).mono ?_
  rintro e w' ⟨rfl, hg⟩
  exact ⟨⟨_, _, rfl, rfl, rfl⟩, hg⟩

theorem wide_hi {hi lo n c : Nat} (hn : hi * 18446744073709551616 + lo = n) (hc : c ≤ hi) (h1 : 1 ≤ c) : 1152921504606846976 < n / c := by
  have : 18446744073709551616 * c ≤ n := by omega
  have := (Nat.le_div_iff_mul_le (by omega)).2 this
  omega

set_option maxHeartbeats 400000 in
theorem divide_ok (a b c : Nat) (ha : a ≤ 1152921504606846976) (hb : b ≤ 1099511627776) (hc : 1 ≤ c) (hc' : c ≤ 1099511627776) (h : a * b / c ≤ 1152921504606846976) (w : World) :
    Calls Try.prog 99 #[.int .i64 a, .int .i64 b, .int .i64 c] w fun e w' => e = .returned (.tuple #[.int .i64 ((a * b / c : Nat) : Int), .int .i64 ((a * b % c : Nat) : Int), .bool true]) ∧ Grew w w' := by
  have H := Lib.hid h; clear h
  go_enter Try.func99, Try.ntmps99
  go_wp2_with (first
    | (go_at_call 126; refine (mul64_any a b (by omega) (by omega) _).mono ?_; rintro e w' ⟨⟨hi, lo, rfl, hn, hlo⟩, rfl⟩; have HN := Lib.hid hn; clear hn; have hhi : hi < c := Nat.lt_of_not_le (fun hh => by have := wide_hi HN.out hh hc; have := H.out; omega); have hhd : decide (c ≤ hi) = false := decide_eq_false (by omega))
    | (go_at_call 127; refine (div64_any _ _ c _ HN.out hhi hlo (by omega) _).mono ?_; rintro e w' ⟨⟨q, r, rfl, hq, hr⟩, hg⟩; have hq1 : q ≤ 1152921504606846976 := (by rw [hq]; exact H.out); have hr1 : r < c := (by rw [hr]; exact Nat.mod_lt _ (by omega)); have HQ := Lib.hid hq; have HR := Lib.hid hr; clear hq hr))
  go_ret3
  exact ⟨by rw [← HQ.out, ← HR.out]; rfl, hg⟩

set_option maxHeartbeats 400000 in
theorem divide_no (a b c : Nat) (ha : a ≤ 1152921504606846976) (hb : b ≤ 1099511627776) (hc : 1 ≤ c) (hc' : c ≤ 1099511627776) (h : 1152921504606846976 < a * b / c) (w : World) :
    Calls Try.prog 99 #[.int .i64 a, .int .i64 b, .int .i64 c] w fun e w' => e = .returned (.tuple #[.int .i64 0, .int .i64 0, .bool false]) ∧ Grew w w' := by
  have H := Lib.hid h; clear h
  go_enter Try.func99, Try.ntmps99
  go_wp2_with (first
    | (go_at_call 126; refine (mul64_any a b (by omega) (by omega) _).mono ?_; rintro e w' ⟨⟨hi, lo, rfl, hn, hlo⟩, rfl⟩; have HN := Lib.hid hn; clear hn; by_cases hhi : c ≤ hi)
    | (go_at_call 127; refine (div64_any _ _ c _ HN.out (by omega) hlo (by omega) _).mono ?_; rintro e w' ⟨⟨q, r, rfl, hq, hr⟩, hg⟩; have hq1 : 1152921504606846976 < q := (by rw [hq]; exact H.out); clear hq hr))
  · go_ret3
    exact ⟨rfl, Grew.refl _⟩
  · go_ret3
    exact ⟨rfl, hg⟩

end Go.Proofs.Ytgccipmeiceonaa
