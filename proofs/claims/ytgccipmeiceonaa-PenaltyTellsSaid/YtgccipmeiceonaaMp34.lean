/-
  Merged: RefCost.
-/
import Derived.Test.YtgccipmeiceonaaMp31
import Derived.Test.YtgccipmeiceonaaMp33
import Derived.Test.YtgccipmeiceonaaMp13
-- RefCost
namespace Go.Proofs.Ytgccipmeiceonaa
open Go.RowKit
set_option linter.unusedVariables false

theorem rpart_is {a b c : Int} (ha : amtB a = true) (hr : rngB b c = true) (hq : amtB (a * b / c) = true) : RPart a b c (a * b / c) (a * b % c) 0 := by
  rcases rpart_in a b c ha hr with ⟨_, h⟩ | ⟨h, _⟩
  · exact h
  · rw [h] at hq; cases hq
set_option maxHeartbeats 2000000 in
theorem rdl_any (u p r : Int) (w : World) : Calls Try.prog 9 #[.int .i64 u, .int .i64 p, .int .i64 r] w fun e w' => e = .returned (.tuple #[.int .i64 (dlyQ u p r), .int .i64 (dlyE u p r)]) ∧ w = w' := by
  by_cases hu : 0 ≤ u ∧ u ≤ 1073741824
  · have B1 := Lib.hid (fun w => rbt_any u 0 1073741824 true (by unfold btw; exact decide_eq_true hu) w)
    by_cases hr : 0 ≤ r ∧ r ≤ 1000000
    · have B2 := Lib.hid (fun w => rbt_any r 0 1000000 true (by unfold btw; exact decide_eq_true hr) w)
      have PC := Lib.hid (fun w => rprc_run p w)
      cases hp : prcB p with
      | true =>
        have hb : dlyB u p r = true := by unfold dlyB; rw [decide_eq_true hu, decide_eq_true hr, hp]; rfl
        have hE : dlyE u p r = 0 := by unfold dlyE; rw [if_pos hb]
        have hQ : dlyQ u p r = u * p / 10000 * r / 1000000 := by unfold dlyQ; rw [if_pos hb]; rfl
        rw [hp, if_pos rfl] at PC
        rw [hE, hQ]
        have c := cost_bd hu (prc_t hp)
        have pb := prc_t hp
        have P1 := Lib.hid (rpart_is (amt_mk (by omega) (by omega)) (rng_mk pb.1 pb.2 (by decide) (by decide)) (amt_mk (by omega) (by omega)) : RPart u p 10000 _ _ 0)
        have P2 := Lib.hid (rpart_is (amt_mk (by omega) (by omega)) (rng_mk hr.1 (by omega) (by decide) (by decide)) (amt_mk (by have := (dly_bd hu hr (prc_t hp)).1; unfold dlyV at this; omega) (by have := (dly_bd hu hr (prc_t hp)).2; unfold dlyV at this; omega)) : RPart (u * p / 10000) r 1000000 _ _ 0)
        clear hE hQ hb hu hr hp c pb
        generalize u * p / 10000 = k at *
        generalize u * p % 10000 = m at *
        generalize k * r / 1000000 = n at *
        generalize k * r % 1000000 = o at *
        go_enter Try.func9, Try.ntmps9
        go_wp2_with (first
          | (go_at_call 61; (with_reducible refine (B1.out _).mono ?_); rintro e w1 ⟨rfl, rfl⟩)
          | (go_at_call 61; (with_reducible refine (B2.out _).mono ?_); rintro e w1 ⟨rfl, rfl⟩)
          | (go_at_call 62; (with_reducible refine (PC.out _).mono ?_); rintro e w1 ⟨rfl, rfl⟩)
          | (go_at_call 63; (with_reducible refine (P1.out.run _).mono ?_); rintro e w1 ⟨rfl, rfl⟩)
          | (go_at_call 63; (with_reducible refine (P2.out.run _).mono ?_); rintro e w2 ⟨rfl, rfl⟩)
          | fail)
        go_ret2
        exact ⟨rfl, rfl⟩
      | false =>
        have hb : dlyB u p r = false := by unfold dlyB; rw [hp]; simp
        have hE : dlyE u p r = 3 := by unfold dlyE; rw [hb]; rfl
        have hQ : dlyQ u p r = 0 := by unfold dlyQ; rw [hb]; rfl
        rw [hp, if_neg (by decide)] at PC
        rw [hE, hQ]
        clear hE hQ hb hu hr hp
        go_enter Try.func9, Try.ntmps9
        go_wp2_with (first
          | (go_at_call 61; (with_reducible refine (B1.out _).mono ?_); rintro e w1 ⟨rfl, rfl⟩)
          | (go_at_call 61; (with_reducible refine (B2.out _).mono ?_); rintro e w1 ⟨rfl, rfl⟩)
          | (go_at_call 62; (with_reducible refine (PC.out _).mono ?_); rintro e w1 ⟨rfl, rfl⟩)
          | fail)
        go_ret2
        exact ⟨rfl, rfl⟩
    · have B2 := Lib.hid (fun w => rbt_any r 0 1000000 false (by unfold btw; exact decide_eq_false hr) w)
      have hb : dlyB u p r = false := by unfold dlyB; rw [decide_eq_false hr]; simp
      have hE : dlyE u p r = 3 := by unfold dlyE; rw [hb]; rfl
      have hQ : dlyQ u p r = 0 := by unfold dlyQ; rw [hb]; rfl
      rw [hE, hQ]
      clear hE hQ hb hu hr
      go_enter Try.func9, Try.ntmps9
      go_wp2_with (first
        | (go_at_call 61; (with_reducible refine (B1.out _).mono ?_); rintro e w1 ⟨rfl, rfl⟩)
        | (go_at_call 61; (with_reducible refine (B2.out _).mono ?_); rintro e w1 ⟨rfl, rfl⟩)
        | fail)
      go_ret2
      exact ⟨rfl, rfl⟩
  · have B1 := Lib.hid (fun w => rbt_any u 0 1073741824 false (by unfold btw; exact decide_eq_false hu) w)
    have hb : dlyB u p r = false := by unfold dlyB; rw [decide_eq_false hu]; simp
    have hE : dlyE u p r = 3 := by unfold dlyE; rw [hb]; rfl
    have hQ : dlyQ u p r = 0 := by unfold dlyQ; rw [hb]; rfl
    rw [hE, hQ]
    clear hE hQ hb hu
    go_enter Try.func9, Try.ntmps9
    go_wp2_with (first
      | (go_at_call 61; (with_reducible refine (B1.out _).mono ?_); rintro e w1 ⟨rfl, rfl⟩)
      | fail)
    go_ret2
    exact ⟨rfl, rfl⟩

end Go.Proofs.Ytgccipmeiceonaa
