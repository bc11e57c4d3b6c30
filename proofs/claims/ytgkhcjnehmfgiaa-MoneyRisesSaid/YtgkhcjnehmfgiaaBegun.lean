/-
  What must be of amounts in any case: moneyBegun answers true.
-/
import Derived.Test.YtgkhcjnehmfgiaaNear
namespace Go.Proofs.Ytgkhcjnehmfgiaa
open Go.RowKit
set_option linter.unusedVariables false

theorem begun_add1 (w : World) : Calls Try.prog 9 #[.int .i64 5, .int .i64 (-7)] w fun e w' => e = .returned (.tuple #[.int .i64 (-2), .int .i64 0]) ∧ Grew w w' := add_ok 5 (-7) w (by decide) (by decide) (by decide)
theorem begun_add2 (w : World) : Calls Try.prog 9 #[.int .i64 1152921504606846976, .int .i64 1] w fun e w' => e = .returned (.tuple #[.int .i64 0, .int .i64 8]) ∧ Grew w w' := add_wide 1152921504606846976 1 w (by decide) (by decide) (by decide)
theorem begun_part1 (w : World) : Calls Try.prog 11 #[.int .i64 (-7), .int .i64 3, .int .i64 5] w fun e w' => e = .returned (.tuple #[.int .i64 (-5), .int .i64 4, .int .i64 0]) ∧ Grew w w' := part_ok (-7) 3 5 (by decide) (by decide) (by decide) w
theorem begun_part2 (w : World) : Calls Try.prog 11 #[.int .i64 1, .int .i64 1, .int .i64 0] w fun e w' => e = .returned (.tuple #[.int .i64 0, .int .i64 0, .int .i64 3]) ∧ Grew w w' := part_rng 1 1 0 (by decide) (by decide) w
theorem begun_near1 (w : World) : Calls Try.prog 12 #[.int .i64 5, .int .i64 1, .int .i64 2] w fun e w' => e = .returned (.tuple #[.int .i64 2, .int .i64 0]) ∧ Grew w w' :=
  (near_ok 5 1 2 2 1 (fun w => part_ok 5 1 2 (by decide) (by decide) (by decide) w) (by decide) (by decide) (by decide) (by decide) (by decide)).run w
theorem begun_near2 (w : World) : Calls Try.prog 12 #[.int .i64 7, .int .i64 1, .int .i64 2] w fun e w' => e = .returned (.tuple #[.int .i64 4, .int .i64 0]) ∧ Grew w w' :=
  (near_ok 7 1 2 3 1 (fun w => part_ok 7 1 2 (by decide) (by decide) (by decide) w) (by decide) (by decide) (by decide) (by decide) (by decide)).run w
theorem begun_check (w : World) : Calls Try.prog 16 #[.int .i64 1152921504606846977] w fun e w' => e = .returned (.int .i64 3) ∧ Grew w w' := check_no _ w (by decide)
theorem begun_total (T : TypeId) (w : World) : Calls Try.prog 15 #[.slice (some ⟨w.heap.size, 0, none⟩) 3 3] (w.alloc (.cells #[.int .i64 1152921504606846976, .int .i64 1152921504606846976, .int .i64 (-1152921504606846976)] T)) fun e w' => e = .returned (.tuple #[.int .i64 1152921504606846976, .int .i64 0]) ∧ Grew w w' := by
  refine (total_ok (some ⟨w.heap.size, 0, none⟩) 3 3 [1152921504606846976, 1152921504606846976, -1152921504606846976] (by omega) _ ⟨_, 3, rfl, by unfold maxLen; simp, fun j hj => ⟨w.heap.size, 0, rfl, ?_⟩⟩ (by decide) (by decide)).mono ?_
  · rcases (show j = 0 ∨ j = 1 ∨ j = 2 by simp at hj; omega) with rfl | rfl | rfl <;> simp [go_sem]
  · rintro e w' ⟨rfl, hg⟩
    exact ⟨rfl, gtr ((Grew.refl _).alloc _ _) hg⟩

set_option maxRecDepth 100000 in
set_option maxHeartbeats 1000000 in
theorem moneyBegun (w : World) : Calls Try.prog 10 #[] w fun e w' => e = .returned (.bool true) ∧ Grew w w' := by
  go_enter Try.func10, Try.ntmps10
  go_wp2_with (first
    | (go_at_call 9; (with_reducible refine (begun_add1 _).mono ?_); rintro e w1 ⟨rfl, h1⟩)
    | (go_at_call 9; (with_reducible refine (begun_add2 _).mono ?_); rintro e w2 ⟨rfl, h2⟩)
    | (go_at_call 11; (with_reducible refine (begun_part1 _).mono ?_); rintro e w3 ⟨rfl, h3⟩)
    | (go_at_call 11; (with_reducible refine (begun_part2 _).mono ?_); rintro e w4 ⟨rfl, h4⟩)
    | (go_at_call 12; (with_reducible refine (begun_near1 _).mono ?_); rintro e w5 ⟨rfl, h5⟩)
    | (go_at_call 12; (with_reducible refine (begun_near2 _).mono ?_); rintro e w6 ⟨rfl, h6⟩)
    | (go_at_call 15; (with_reducible refine (begun_total _ _).mono ?_); rintro e w7 ⟨rfl, h7⟩)
    | (go_at_call 16; (with_reducible refine (begun_check _).mono ?_); rintro e w8 ⟨rfl, h8⟩))
  go_ret
  exact ⟨rfl, gtr (gtr (gtr (gtr (gtr (gtr (gtr h1 h3) h5) h6) h7) h2) h4) h8⟩

end Go.Proofs.Ytgkhcjnehmfgiaa
