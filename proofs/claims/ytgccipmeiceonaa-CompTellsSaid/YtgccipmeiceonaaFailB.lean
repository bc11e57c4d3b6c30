/-
  What isDue of package fail does.
-/
import Derived.Test.YtgccipmeiceonaaFailA
namespace Go.Proofs.Ytgccipmeiceonaa
open Go.RowKit
set_option linter.unusedVariables false

set_option maxHeartbeats 2000000 in
theorem isDue_0 (i f t c p d u x b y : Int) (Y0 : btw 0 3652058 d = false) (w : World) :
    Calls Try.prog 128 #[.agg #[.int .i64 i, .int .i64 f, .int .i64 t, .int .i64 c, .int .i64 p, .int .i64 d, .int .i64 u, .int .i64 x, .int .i64 b, .int .i64 y]] w fun e w' => e = .returned (.bool false) ∧ Kpt w w' := by
  have HW := Lib.hid (fun w' => wk_no _ (bt_out Y0) w')
  go_enter Try.func128, Try.ntmps128
  go_wp2_with (first
    | (go_at_call 143; (with_reducible refine (HW.out _).mono ?_); rintro e w1 ⟨rfl, rfl⟩))
  go_ret
  exact ⟨rfl, by repeat (first | exact Kpt.refl _ | refine Kpt.alloc ?_ _)⟩
set_option maxHeartbeats 2000000 in
theorem isDue_1 (i f t c p d u x b y : Int) (Y0 : btw 0 3652058 d = true) (Y1 : btw 1 1099511627776 i = false) (w : World) :
    Calls Try.prog 128 #[.agg #[.int .i64 i, .int .i64 f, .int .i64 t, .int .i64 c, .int .i64 p, .int .i64 d, .int .i64 u, .int .i64 x, .int .i64 b, .int .i64 y]] w fun e w' => e = .returned (.bool false) ∧ Kpt w w' := by
  have HW := Lib.hid (fun w' => wk_ok _ (btw_t Y0).1 (btw_t Y0).2 w')
  go_enter Try.func128, Try.ntmps128
  go_wp2_with (first
    | (go_at_call 143; (with_reducible refine (HW.out _).mono ?_); rintro e w1 ⟨rfl, rfl⟩)
    | (go_at_call 129; (with_reducible refine (within1 _ _ _ _ Y1 _ _ (by simp)).mono ?_); rintro e w1 ⟨rfl, rfl⟩))
  go_ret
  exact ⟨rfl, by repeat (first | exact Kpt.refl _ | refine Kpt.alloc ?_ _)⟩
set_option maxHeartbeats 2000000 in
theorem isDue_2 (i f t c p d u x b y : Int) (Y0 : btw 0 3652058 d = true) (Y1 : btw 1 1099511627776 i = true) (Y2 : (btw 0 30 f && btw 0 30 t) = false) (w : World) :
    Calls Try.prog 128 #[.agg #[.int .i64 i, .int .i64 f, .int .i64 t, .int .i64 c, .int .i64 p, .int .i64 d, .int .i64 u, .int .i64 x, .int .i64 b, .int .i64 y]] w fun e w' => e = .returned (.bool false) ∧ Kpt w w' := by
  have HW := Lib.hid (fun w' => wk_ok _ (btw_t Y0).1 (btw_t Y0).2 w')
  go_enter Try.func128, Try.ntmps128
  go_wp2_with (first
    | (go_at_call 143; (with_reducible refine (HW.out _).mono ?_); rintro e w1 ⟨rfl, rfl⟩)
    | (go_at_call 129; (with_reducible refine (within1 _ _ _ _ Y1 _ _ (by simp)).mono ?_); rintro e w1 ⟨rfl, rfl⟩)
    | (go_at_call 129; (with_reducible refine (within2 _ _ _ _ _ Y2 _ _ (by simp)).mono ?_); rintro e w1 ⟨rfl, rfl⟩))
  go_ret
  exact ⟨rfl, by repeat (first | exact Kpt.refl _ | refine Kpt.alloc ?_ _)⟩
set_option maxHeartbeats 2000000 in
theorem isDue_3 (i f t c p d u x b y : Int) (Y0 : btw 0 3652058 d = true) (Y1 : btw 1 1099511627776 i = true) (Y2 : (btw 0 30 f && btw 0 30 t) = true) (Y3 : btw 0 5 c = false) (w : World) :
    Calls Try.prog 128 #[.agg #[.int .i64 i, .int .i64 f, .int .i64 t, .int .i64 c, .int .i64 p, .int .i64 d, .int .i64 u, .int .i64 x, .int .i64 b, .int .i64 y]] w fun e w' => e = .returned (.bool false) ∧ Kpt w w' := by
  have HW := Lib.hid (fun w' => wk_ok _ (btw_t Y0).1 (btw_t Y0).2 w')
  go_enter Try.func128, Try.ntmps128
  go_wp2_with (first
    | (go_at_call 143; (with_reducible refine (HW.out _).mono ?_); rintro e w1 ⟨rfl, rfl⟩)
    | (go_at_call 129; (with_reducible refine (within1 _ _ _ _ Y1 _ _ (by simp)).mono ?_); rintro e w1 ⟨rfl, rfl⟩)
    | (go_at_call 129; (with_reducible refine (within2 _ _ _ _ _ Y2 _ _ (by simp)).mono ?_); rintro e w1 ⟨rfl, rfl⟩)
    | (go_at_call 129; (with_reducible refine (within1 _ _ _ _ Y3 _ _ (by simp)).mono ?_); rintro e w1 ⟨rfl, rfl⟩))
  go_ret
  exact ⟨rfl, by repeat (first | exact Kpt.refl _ | refine Kpt.alloc ?_ _)⟩
set_option maxHeartbeats 2000000 in
theorem isDue_4 (i f t c p d u x b y : Int) (Y0 : btw 0 3652058 d = true) (Y1 : btw 1 1099511627776 i = true) (Y2 : (btw 0 30 f && btw 0 30 t) = true) (Y3 : btw 0 5 c = true) (Y4 : btw 1 20 p = false) (w : World) :
    Calls Try.prog 128 #[.agg #[.int .i64 i, .int .i64 f, .int .i64 t, .int .i64 c, .int .i64 p, .int .i64 d, .int .i64 u, .int .i64 x, .int .i64 b, .int .i64 y]] w fun e w' => e = .returned (.bool false) ∧ Kpt w w' := by
  have HW := Lib.hid (fun w' => wk_ok _ (btw_t Y0).1 (btw_t Y0).2 w')
  go_enter Try.func128, Try.ntmps128
  go_wp2_with (first
    | (go_at_call 143; (with_reducible refine (HW.out _).mono ?_); rintro e w1 ⟨rfl, rfl⟩)
    | (go_at_call 129; (with_reducible refine (within1 _ _ _ _ Y1 _ _ (by simp)).mono ?_); rintro e w1 ⟨rfl, rfl⟩)
    | (go_at_call 129; (with_reducible refine (within2 _ _ _ _ _ Y2 _ _ (by simp)).mono ?_); rintro e w1 ⟨rfl, rfl⟩)
    | (go_at_call 129; (with_reducible refine (within1 _ _ _ _ Y3 _ _ (by simp)).mono ?_); rintro e w1 ⟨rfl, rfl⟩)
    | (go_at_call 129; (with_reducible refine (within1 _ _ _ _ Y4 _ _ (by simp)).mono ?_); rintro e w1 ⟨rfl, rfl⟩))
  go_ret
  exact ⟨rfl, by repeat (first | exact Kpt.refl _ | refine Kpt.alloc ?_ _)⟩
set_option maxHeartbeats 2000000 in
theorem isDue_5 (i f t c p d u x b y : Int) (Y0 : btw 0 3652058 d = true) (Y1 : btw 1 1099511627776 i = true) (Y2 : (btw 0 30 f && btw 0 30 t) = true) (Y3 : btw 0 5 c = true) (Y4 : btw 1 20 p = true) (Y5 : btw 1 1073741824 u = false) (w : World) :
    Calls Try.prog 128 #[.agg #[.int .i64 i, .int .i64 f, .int .i64 t, .int .i64 c, .int .i64 p, .int .i64 d, .int .i64 u, .int .i64 x, .int .i64 b, .int .i64 y]] w fun e w' => e = .returned (.bool false) ∧ Kpt w w' := by
  have HW := Lib.hid (fun w' => wk_ok _ (btw_t Y0).1 (btw_t Y0).2 w')
  go_enter Try.func128, Try.ntmps128
  go_wp2_with (first
    | (go_at_call 143; (with_reducible refine (HW.out _).mono ?_); rintro e w1 ⟨rfl, rfl⟩)
    | (go_at_call 129; (with_reducible refine (within1 _ _ _ _ Y1 _ _ (by simp)).mono ?_); rintro e w1 ⟨rfl, rfl⟩)
    | (go_at_call 129; (with_reducible refine (within2 _ _ _ _ _ Y2 _ _ (by simp)).mono ?_); rintro e w1 ⟨rfl, rfl⟩)
    | (go_at_call 129; (with_reducible refine (within1 _ _ _ _ Y3 _ _ (by simp)).mono ?_); rintro e w1 ⟨rfl, rfl⟩)
    | (go_at_call 129; (with_reducible refine (within1 _ _ _ _ Y4 _ _ (by simp)).mono ?_); rintro e w1 ⟨rfl, rfl⟩)
    | (go_at_call 129; (with_reducible refine (within1 _ _ _ _ Y5 _ _ (by simp)).mono ?_); rintro e w1 ⟨rfl, rfl⟩))
  go_ret
  exact ⟨rfl, by repeat (first | exact Kpt.refl _ | refine Kpt.alloc ?_ _)⟩
set_option maxHeartbeats 2000000 in
theorem isDue_6 (i f t c p d u x b y : Int) (Y0 : btw 0 3652058 d = true) (Y1 : btw 1 1099511627776 i = true) (Y2 : (btw 0 30 f && btw 0 30 t) = true) (Y3 : btw 0 5 c = true) (Y4 : btw 1 20 p = true) (Y5 : btw 1 1073741824 u = true) (w : World) :
    Calls Try.prog 128 #[.agg #[.int .i64 i, .int .i64 f, .int .i64 t, .int .i64 c, .int .i64 p, .int .i64 d, .int .i64 u, .int .i64 x, .int .i64 b, .int .i64 y]] w fun e w' => e = .returned (.bool true) ∧ Kpt w w' := by
  have HW := Lib.hid (fun w' => wk_ok _ (btw_t Y0).1 (btw_t Y0).2 w')
  go_enter Try.func128, Try.ntmps128
  go_wp2_with (first
    | (go_at_call 143; (with_reducible refine (HW.out _).mono ?_); rintro e w1 ⟨rfl, rfl⟩)
    | (go_at_call 129; (with_reducible refine (within1 _ _ _ _ Y1 _ _ (by simp)).mono ?_); rintro e w1 ⟨rfl, rfl⟩)
    | (go_at_call 129; (with_reducible refine (within2 _ _ _ _ _ Y2 _ _ (by simp)).mono ?_); rintro e w1 ⟨rfl, rfl⟩)
    | (go_at_call 129; (with_reducible refine (within1 _ _ _ _ Y3 _ _ (by simp)).mono ?_); rintro e w1 ⟨rfl, rfl⟩)
    | (go_at_call 129; (with_reducible refine (within1 _ _ _ _ Y4 _ _ (by simp)).mono ?_); rintro e w1 ⟨rfl, rfl⟩)
    | (go_at_call 129; (with_reducible refine (within1 _ _ _ _ Y5 _ _ (by simp)).mono ?_); rintro e w1 ⟨rfl, rfl⟩))
  go_ret
  exact ⟨rfl, by repeat (first | exact Kpt.refl _ | refine Kpt.alloc ?_ _)⟩

theorem isDue_run (i f t c p d u x b y : Int) (w : World) :
    Calls Try.prog 128 #[.agg #[.int .i64 i, .int .i64 f, .int .i64 t, .int .i64 c, .int .i64 p, .int .i64 d, .int .i64 u, .int .i64 x, .int .i64 b, .int .i64 y]] w fun e w' => e = .returned (.bool (fdue i f t c p d u)) ∧ Kpt w w' := by
  cases Y0 : btw 0 3652058 d with
  | false => rw [show fdue i f t c p d u = false by unfold fdue; rw [Y0]; simp]; exact isDue_0 i f t c p d u x b y Y0 w
  | true =>
    cases Y1 : btw 1 1099511627776 i with
    | false => rw [show fdue i f t c p d u = false by unfold fdue; rw [Y0, Y1]; simp]; exact isDue_1 i f t c p d u x b y Y0 Y1 w
    | true =>
      cases Y2 : (btw 0 30 f && btw 0 30 t) with
      | false => rw [show fdue i f t c p d u = false by unfold fdue; rw [Y0, Y1, Y2]; simp]; exact isDue_2 i f t c p d u x b y Y0 Y1 Y2 w
      | true =>
        cases Y3 : btw 0 5 c with
        | false => rw [show fdue i f t c p d u = false by unfold fdue; rw [Y0, Y1, Y2, Y3]; simp]; exact isDue_3 i f t c p d u x b y Y0 Y1 Y2 Y3 w
        | true =>
          cases Y4 : btw 1 20 p with
          | false => rw [show fdue i f t c p d u = false by unfold fdue; rw [Y0, Y1, Y2, Y3, Y4]; simp]; exact isDue_4 i f t c p d u x b y Y0 Y1 Y2 Y3 Y4 w
          | true =>
            cases Y5 : btw 1 1073741824 u with
            | false => rw [show fdue i f t c p d u = false by unfold fdue; rw [Y0, Y1, Y2, Y3, Y4, Y5]; simp]; exact isDue_5 i f t c p d u x b y Y0 Y1 Y2 Y3 Y4 Y5 w
            | true =>
              rw [show fdue i f t c p d u = true by unfold fdue; rw [Y0, Y1, Y2, Y3, Y4, Y5]; rfl]
              exact isDue_6 i f t c p d u x b y Y0 Y1 Y2 Y3 Y4 Y5 w

end Go.Proofs.Ytgccipmeiceonaa
