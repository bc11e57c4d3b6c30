/-
  The law MoneyRest answers true at whatever three numbers: the part times the divisor, and the rest, is what was divided.
-/
import Derived.Test.YtgkhcjnehmfgiaaParts
namespace Go.Proofs.Ytgkhcjnehmfgiaa
open Go.RowKit
set_option linter.unusedVariables false
namespace moneyRest

theorem tmod_bd (a : Int) : ∃ A, a.tmod 1073741824 = A ∧ -1073741824 < A ∧ A < 1073741824 := by
  refine ⟨_, rfl, ?_, ?_⟩
  · rcases Int.lt_or_le a 0 with h | h
    · have := Int.neg_tmod (-a) 1073741824
      rw [Int.neg_neg] at this
      have h2 := Int.tmod_lt_of_pos (-a) (show (0 : Int) < 1073741824 by omega)
      omega
    · have := Int.tmod_nonneg 1073741824 h; omega
  · exact Int.tmod_lt_of_pos a (by omega)

set_option maxRecDepth 100000 in
set_option maxHeartbeats 1000000 in
theorem walk_err (a b c A B : Int) (eA : a.tmod 1073741824 = A) (eB : b.tmod 1073741824 = B) (r1 : PartErr A B c 3) (h : B < 0 ∨ (0 ≤ B ∧ c < 1) ∨ (0 ≤ B ∧ 1 ≤ c ∧ 1099511627776 < c)) (w : World) :
    Calls Try.prog 4 #[.int .i64 a, .int .i64 b, .int .i64 c] w fun r w' => r = .returned (.bool true) ∧ Grew w w' := by
  rcases h with h | ⟨h, h'⟩ | ⟨h, h', h''⟩
  all_goals
    go_enter Try.func4, Try.ntmps4
    go_wp2_with (first
      | (go_at_call 11; (with_reducible refine (r1.run _).mono ?_); rintro e w1 ⟨rfl, h1⟩)
      | (go_at_call 10; (with_reducible refine (moneyBegun_run _).mono ?_); rintro e w3 ⟨rfl, h3⟩))
    go_ret
    exact ⟨rfl, gtr h3 h1⟩

set_option maxRecDepth 100000 in
set_option maxHeartbeats 1000000 in
theorem walk_ok (a b c A B q r P : Int) (eA : a.tmod 1073741824 = A) (eB : b.tmod 1073741824 = B) (r1 : PartOk A B c q r) (h0 : 0 ≤ r) (h1 : r < c) (hc : c ≤ 1099511627776) (e1 : wrap64 (q * c) = P) (e2 : wrap64 (A * B) = P + r) (hP0 : -1152921504606846976 - 1099511627776 ≤ P) (hP1 : P ≤ 1152921504606846976) (w : World) :
    Calls Try.prog 4 #[.int .i64 a, .int .i64 b, .int .i64 c] w fun r w' => r = .returned (.bool true) ∧ Grew w w' := by
  go_enter Try.func4, Try.ntmps4
  go_wp2_with (first
    | (go_at_call 11; (with_reducible refine (r1.run _).mono ?_); rintro e w1 ⟨rfl, g1⟩)
    | (go_at_call 10; (with_reducible refine (moneyBegun_run _).mono ?_); rintro e w3 ⟨rfl, g3⟩))
  go_ret
  exact ⟨rfl, gtr g3 g1⟩

theorem walk0 (a b c : Int) (w : World) : Calls Try.prog 4 #[.int .i64 a, .int .i64 b, .int .i64 c] w fun r w' => r = .returned (.bool true) ∧ Grew w w' := by
  obtain ⟨A, eA, hA0, hA1⟩ := tmod_bd a
  obtain ⟨B, eB, hB0, hB1⟩ := tmod_bd b
  have hm : -1152921504606846976 ≤ A * B ∧ A * B ≤ 1152921504606846976 := by
    have h1 : (A * B).natAbs ≤ 1073741824 * 1073741824 := by
      rw [Int.natAbs_mul]; exact Nat.mul_le_mul (by omega) (by omega)
    omega
  rcases part_res A B c with ⟨_, hr, hq, r1⟩ | ⟨E, _, _, r1, hE⟩
  · have hr' := rng_t hr
    have hq' := amt_t hq
    obtain ⟨p1, p2, p3⟩ := parts_of (n := A * B) (c := c) (by omega)
    refine walk_ok a b c A B _ _ (A * B / c * c) eA eB r1 p2 p3 (by omega) (IntWalk.wrap64_in _ (by omega)) ?_ (by omega) (by omega) w
    rw [p1]; exact IntWalk.wrap64_in _ (by omega)
  · rcases hE with ⟨rfl, h⟩ | ⟨_, _, h1, h2⟩
    · refine walk_err a b c A B eA eB r1 ?_ w
      rcases h with h | h
      · have := amt_f h; omega
      · have := rng_f h; omega
    · have := rng_t h1
      rw [div_amt (by omega) hm.1 hm.2] at h2
      cases h2

end moneyRest
end Go.Proofs.Ytgkhcjnehmfgiaa
