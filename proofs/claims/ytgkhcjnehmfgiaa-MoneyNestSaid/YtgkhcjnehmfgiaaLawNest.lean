/-
  The law MoneyNest answers true at whatever four numbers: divided twice, or once by both, it is the same part.
-/
import Derived.Test.YtgkhcjnehmfgiaaParts
namespace Go.Proofs.Ytgkhcjnehmfgiaa
open Go.RowKit
set_option linter.unusedVariables false
namespace moneyNest

set_option maxRecDepth 100000 in
set_option maxHeartbeats 1000000 in
theorem walk_out (a b c d q r E : Int) (r1 : PartAny a b c q r E) (h : 1 ≤ E ∨ (E = 0 ∧ d < 1) ∨ (E = 0 ∧ 1048576 < d) ∨ (E = 0 ∧ 1 ≤ d ∧ d ≤ 1048576 ∧ 1048576 < c)) (w : World) :
    Calls Try.prog 8 #[.int .i64 a, .int .i64 b, .int .i64 c, .int .i64 d] w fun r w' => r = .returned (.bool true) ∧ Grew w w' := by
  rcases h with h | ⟨rfl, h⟩ | ⟨rfl, h⟩ | ⟨rfl, h, h', h''⟩
  all_goals
    go_enter Try.func8, Try.ntmps8
    go_wp2_with (first
      | (go_at_call 11; (with_reducible refine (r1.run _).mono ?_); rintro e w1 ⟨rfl, h1⟩)
      | (go_at_call 10; (with_reducible refine (moneyBegun_run _).mono ?_); rintro e w3 ⟨rfl, h3⟩))
    go_ret
    exact ⟨rfl, gtr h1 h3⟩

set_option maxRecDepth 100000 in
set_option maxHeartbeats 1000000 in
theorem walk_ok (a b c d q r C p rp rs : Int) (r1 : PartOk a b c q r) (hd : 1 ≤ d) (hd' : d ≤ 1048576) (hc : c ≤ 1048576) (eC : wrap64 (c * d) = C) (r2 : PartOk q 1 d p rp) (r3 : PartOk a b C p rs) (w : World) :
    Calls Try.prog 8 #[.int .i64 a, .int .i64 b, .int .i64 c, .int .i64 d] w fun r w' => r = .returned (.bool true) ∧ Grew w w' := by
  go_enter Try.func8, Try.ntmps8
  go_wp2_with (first
    | (go_at_call 11; (with_reducible refine (r1.run _).mono ?_); rintro e w1 ⟨rfl, h1⟩)
    | (go_at_call 11; (with_reducible refine (r2.run _).mono ?_); rintro e w2 ⟨rfl, h2⟩)
    | (go_at_call 11; (with_reducible refine (r3.run _).mono ?_); rintro e w4 ⟨rfl, h4⟩)
    | (go_at_call 10; (with_reducible refine (moneyBegun_run _).mono ?_); rintro e w3 ⟨rfl, h3⟩))
  go_ret
  exact ⟨rfl, gtr (gtr (gtr h1 h3) h2) h4⟩

theorem walk0 (a b c d : Int) (w : World) : Calls Try.prog 8 #[.int .i64 a, .int .i64 b, .int .i64 c, .int .i64 d] w fun r w' => r = .returned (.bool true) ∧ Grew w w' := by
  rcases part_res a b c with ⟨ha, hr, hq, r1⟩ | ⟨E, hE, _, r1, -⟩
  · by_cases hd : 1 ≤ d ∧ d ≤ 1048576 ∧ c ≤ 1048576
    · obtain ⟨hd, hd', hc⟩ := hd
      have hr' := rng_t hr
      have hq' := amt_t hq
      have hC1 : 1 ≤ c * d := Int.mul_pos (by omega) (by omega)
      have hC2 : c * d ≤ 1099511627776 := by
        have := Int.mul_le_mul hc hd' (by omega) (by omega)
        omega
      have e1 : a * b / c * 1 / d = a * b / (c * d) := by
        rw [Int.mul_one, Int.ediv_ediv_of_nonneg (show 0 ≤ c by omega)]
      have hp : amtB (a * b / c * 1 / d) = true := div_amt hd (by omega) (by omega)
      have r2 : PartOk (a * b / c) 1 d (a * b / c * 1 / d) (a * b / c * 1 % d) := fun w => part_ok _ 1 d hq (rng_mk (by omega) (by omega) (by omega) (by omega)) hp w
      have r3 : PartOk a b (c * d) (a * b / (c * d)) (a * b % (c * d)) := fun w => part_ok a b (c * d) ha (rng_mk (by omega) (by omega) (by omega) (by omega)) (by rw [← e1]; exact hp) w
      rw [← e1] at r3
      exact walk_ok a b c d _ _ _ _ _ _ r1 hd hd' hc (IntWalk.wrap64_in _ (by omega)) r2 r3 w
    · exact walk_out a b c d _ _ 0 r1 (by omega) w
  · exact walk_out a b c d _ _ E r1 (.inl hE) w

end moneyNest
end Go.Proofs.Ytgkhcjnehmfgiaa
