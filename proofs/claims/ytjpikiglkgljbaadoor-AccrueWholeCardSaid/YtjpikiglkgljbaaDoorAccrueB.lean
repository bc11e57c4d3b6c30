/-
  What must be of interest in any case; flat months later.
-/
import Derived.Test.YtjpikiglkgljbaaDoorAccrueA
namespace Go.Proofs.YtjpikiglkgljbaaDoor
open Go.RowKit
set_option linter.unusedVariables false

theorem abegun_a (w : World) : Calls Tryd.prog 51 #[.int .i64 2026, .int .i64 1, .int .i64 31] w fun e w' => e = .returned (.tuple #[.int .i64 739646, .int .i64 0]) ∧ w = w' := ref_from_ok 2026 1 31 (by decide) w
theorem abegun_b (w : World) : Calls Tryd.prog 51 #[.int .i64 2026, .int .i64 3, .int .i64 1] w fun e w' => e = .returned (.tuple #[.int .i64 739675, .int .i64 0]) ∧ w = w' := ref_from_ok 2026 3 1 (by decide) w
theorem abegun_days (w : World) : Calls Tryd.prog 28 #[.int .i64 1, .int .i64 739646, .int .i64 739675] w fun e w' => e = .returned (.tuple #[.int .i64 29, .int .i64 0]) ∧ Grew w w' := days_act1 739646 739675 (by decide) (by decide) (by decide) w
theorem abegun_flat (w : World) (ht : Tab w) : Calls Tryd.prog 28 #[.int .i64 3, .int .i64 739646, .int .i64 739675] w fun e w' => e = .returned (.tuple #[.int .i64 31, .int .i64 0]) ∧ Grew w w' := days_flat 2026 1 31 739646 2026 3 1 739675 (by decide) (by decide) (by decide) (by decide) (by decide) w ht
theorem abegun_kind (w : World) : Calls Tryd.prog 28 #[.int .i64 4, .int .i64 739646, .int .i64 739675] w fun e w' => e = .returned (.tuple #[.int .i64 0, .int .i64 7]) ∧ w = w' := days_kind 4 _ _ (.inr (by decide)) w
theorem abegun_form (w : World) : Calls Tryd.prog 28 #[.int .i64 1, .int .i64 739675, .int .i64 739646] w fun e w' => e = .returned (.tuple #[.int .i64 0, .int .i64 1]) ∧ w = w' := days_form _ _ (by decide) (by decide) (by decide) w
theorem abegun_int (w : World) : Calls Tryd.prog 30 #[.int .i64 1, .int .i64 1000000, .int .i64 360, .int .i64 739646, .int .i64 739675] w fun e w' => e = .returned (.tuple #[.int .i64 2900, .int .i64 0]) ∧ Grew w w' :=
  interest_is 1 1000000 360 739646 739675 29 360 2900 0 0 w (abegun_days w) year_1 (by decide) (by decide) (by decide) (by decide) (by decide) (by decide) (by decide) 10440 (by decide) (fun w => part_ok 1000000 10440 (10000 * 360) (by decide) (by decide) (by decide) w)

theorem accrueBegun (w : World) (ht : Tab w) : Calls Tryd.prog 26 #[] w fun e w' => e = .returned (.bool true) ∧ Grew w w' := by
  have FL := Lib.hid (fun w' (g : Grew w w') => abegun_flat w' (ht.grew g))
  clear ht
  go_enter Tryd.func26, Tryd.ntmps26
  go_wp2_with (first
    | (go_at_call 51; (with_reducible refine (abegun_a _).mono ?_); rintro e w' ⟨rfl, rfl⟩)
    | (go_at_call 51; (with_reducible refine (abegun_b _).mono ?_); rintro e w' ⟨rfl, rfl⟩)
    | (go_at_call 28; (with_reducible refine (abegun_days _).mono ?_); rintro e w1 ⟨rfl, g1⟩)
    | (go_at_call 28; (with_reducible refine (FL.out _ (by assumption)).mono ?_); rintro e w2 ⟨rfl, g2⟩)
    | (go_at_call 30; (with_reducible refine (abegun_int _).mono ?_); rintro e w3 ⟨rfl, g3⟩)
    | (go_at_call 52; (with_reducible refine (year_2 _).mono ?_); rintro e w4 ⟨rfl, g4⟩)
    | (go_at_call 28; (with_reducible refine (abegun_kind _).mono ?_); rintro e w' ⟨rfl, rfl⟩)
    | (go_at_call 28; (with_reducible refine (abegun_form _).mono ?_); rintro e w' ⟨rfl, rfl⟩))
  go_ret
  exact ⟨rfl, gtr (gtr (gtr g1 g2) g3) g4⟩

/-- so many months later, by flat months -/
theorem flat_later {y m d many : Int} (hv : vldB y m d = true) (hm : mthB y m many = true) (h0 : 0 ≤ many) :
    ∃ Y M D K : Int, vldB Y M D = true ∧ num Y M D = K ∧ mthN y m d many = K ∧ num y m d ≤ K ∧ flatN Y M D - flatN y m d ≤ 30 * many ∧ 30 * many - 2 ≤ flatN Y M D - flatN y m d ∧ (d ≤ 28 → flatN Y M D - flatN y m d = 30 * many) := by
  have hv2 := mth_vld hv hm
  obtain ⟨v1, v2, v3, v4, v5, v6⟩ := vld_t hv
  obtain ⟨m1, m2, m3, m4⟩ := mth_t hm
  have db := dim_bd y m
  have hq : mth y m many = (y - 1) * 12 + m - 1 + many := rfl
  refine ⟨_, _, _, _, hv2, rfl, rfl, ?_, ?_⟩
  · obtain ⟨u1, u2, u3, u4, u5, u6⟩ := vld_t hv2
    by_cases hz : many = 0
    · subst hz
      have a1 : mth y m 0 / 12 + 1 = y := by omega
      have a2 : mth y m 0 % 12 + 1 = m := by omega
      rw [a1, a2, Int.min_eq_left v6]
      exact Int.le_refl _
    · refine Int.le_of_lt (num_lt hv hv2 (decide_eq_true ?_))
      generalize mth y m many = q at hq
      omega
  · have db2 := dim_bd (mth y m many / 12 + 1) (mth y m many % 12 + 1)
    generalize dim (mth y m many / 12 + 1) (mth y m many % 12 + 1) = D at db2
    generalize mth y m many = q at hq
    unfold flatN
    omega

end Go.Proofs.YtjpikiglkgljbaaDoor
