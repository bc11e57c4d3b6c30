/-
  The law MoneyScale answers true at whatever four numbers: of so many times as much, divided by so many times as much, it is the same part.
-/
import Derived.Test.YtgkhcjnehmfgiaaParts
namespace Go.Proofs.Ytgkhcjnehmfgiaa
open Go.RowKit
set_option linter.unusedVariables false
namespace moneyScale

set_option maxRecDepth 100000 in
set_option maxHeartbeats 1000000 in
theorem walk_err (a b c d E : Int) (r1 : PartErr a b c E) (hE : 1 ≤ E) (w : World) :
    Calls Try.prog 7 #[.int .i64 a, .int .i64 b, .int .i64 c, .int .i64 d] w fun r w' => r = .returned (.bool true) ∧ Grew w w' := by
  go_enter Try.func7, Try.ntmps7
  go_wp2_with (first
    | (go_at_call 11; (with_reducible refine (r1.run _).mono ?_); rintro e w1 ⟨rfl, h1⟩)
    | (go_at_call 10; (with_reducible refine (moneyBegun_run _).mono ?_); rintro e w3 ⟨rfl, h3⟩))
  go_ret
  exact ⟨rfl, gtr h1 h3⟩

set_option maxRecDepth 100000 in
set_option maxHeartbeats 1000000 in
theorem walk_out (a b c d q r : Int) (r1 : PartOk a b c q r) (hd : d < 1 ∨ (1 ≤ d ∧ 1000 < d)) (w : World) :
    Calls Try.prog 7 #[.int .i64 a, .int .i64 b, .int .i64 c, .int .i64 d] w fun r w' => r = .returned (.bool true) ∧ Grew w w' := by
  rcases hd with hd | ⟨hd, hd'⟩
  all_goals
    go_enter Try.func7, Try.ntmps7
    go_wp2_with (first
      | (go_at_call 11; (with_reducible refine (r1.run _).mono ?_); rintro e w1 ⟨rfl, h1⟩)
      | (go_at_call 10; (with_reducible refine (moneyBegun_run _).mono ?_); rintro e w3 ⟨rfl, h3⟩))
    go_ret
    exact ⟨rfl, gtr h1 h3⟩

set_option maxRecDepth 100000 in
set_option maxHeartbeats 1000000 in
theorem walk_ok (a b c d q r B C p s f : Int) (r1 : PartOk a b c q r) (hd : 1 ≤ d) (hd' : d ≤ 1000) (eB : wrap64 (b * d) = B) (eC : wrap64 (c * d) = C) (r2 : PartAny a B C p s f) (hf : f = 3 ∨ (f = 0 ∧ p = q ∧ wrap64 (r * d) = s)) (w : World) :
    Calls Try.prog 7 #[.int .i64 a, .int .i64 b, .int .i64 c, .int .i64 d] w fun r w' => r = .returned (.bool true) ∧ Grew w w' := by
  rcases hf with rfl | ⟨rfl, rfl, eS⟩
  all_goals
    go_enter Try.func7, Try.ntmps7
    go_wp2_with (first
      | (go_at_call 11; (with_reducible refine (r1.run _).mono ?_); rintro e w1 ⟨rfl, h1⟩)
      | (go_at_call 11; (with_reducible refine (r2.run _).mono ?_); rintro e w2 ⟨rfl, h2⟩)
      | (go_at_call 10; (with_reducible refine (moneyBegun_run _).mono ?_); rintro e w3 ⟨rfl, h3⟩))
    go_ret
    exact ⟨rfl, gtr (gtr h1 h3) h2⟩

theorem mul_bd {b d : Int} (hb0 : 0 ≤ b) (hb1 : b ≤ 1099511627776) (hd : 1 ≤ d) (hd' : d ≤ 1000) : 0 ≤ b * d ∧ b * d ≤ 1099511627776000 := by
  refine ⟨Int.mul_nonneg hb0 (by omega), ?_⟩
  have := Int.mul_le_mul hb1 hd' (by omega) (by omega)
  omega

theorem walk0 (a b c d : Int) (w : World) : Calls Try.prog 7 #[.int .i64 a, .int .i64 b, .int .i64 c, .int .i64 d] w fun r w' => r = .returned (.bool true) ∧ Grew w w' := by
  rcases part_res a b c with ⟨ha, hr, hq, r1⟩ | ⟨E, hE, _, r1, -⟩
  · by_cases hd : 1 ≤ d ∧ d ≤ 1000
    · obtain ⟨hd, hd'⟩ := hd
      have hr' := rng_t hr
      have hB := mul_bd (b := b) (d := d) (by omega) (by omega) hd hd'
      have hC := mul_bd (b := c) (d := d) (by omega) (by omega) hd hd'
      have e1 : a * (b * d) / (c * d) = a * b / c := by rw [← Int.mul_assoc]; exact Int.mul_ediv_mul_of_pos_left _ _ (by omega)
      have e2 : a * (b * d) % (c * d) = a * b % c * d := by
        rw [← Int.mul_assoc, Int.mul_comm (a * b) d, Int.mul_comm c d, Int.mul_emod_mul_of_pos _ _ (by omega), Int.mul_comm]
      rcases part_res a (b * d) (c * d) with ⟨_, _, _, r2⟩ | ⟨E, _, _, r2, hE⟩
      · rw [e1, e2] at r2
        have p := parts_of (n := a * b) (c := c) (by omega)
        have hS := mul_bd (b := a * b % c) (d := d) (by omega) (by omega) hd hd'
        exact walk_ok a b c d _ _ _ _ _ _ _ r1 hd hd' (IntWalk.wrap64_in _ (by omega)) (IntWalk.wrap64_in _ (by omega)) r2 (.inr ⟨rfl, rfl, IntWalk.wrap64_in _ (by omega)⟩) w
      · rcases hE with ⟨rfl, _⟩ | ⟨_, _, _, h⟩
        · exact walk_ok a b c d _ _ _ _ _ _ _ r1 hd hd' (IntWalk.wrap64_in _ (by omega)) (IntWalk.wrap64_in _ (by omega)) r2 (.inl rfl) w
        · rw [e1, hq] at h; cases h
    · exact walk_out a b c d _ _ r1 (by omega) w
  · exact walk_err a b c d E r1 hE w

end moneyScale
end Go.Proofs.Ytgkhcjnehmfgiaa
