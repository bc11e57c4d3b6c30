/-
  Merged: RefFail.
-/
import Derived.Test.YtgccipmeiceonaaMk7
-- RefFail
namespace Go.Proofs.Ytgccipmeiceonaa
open Go.RowKit
set_option linter.unusedVariables false

theorem rbt_any (n l h : Int) (B : Bool) (hB : btw l h n = B) (w : World) :
    Calls Try.prog 61 #[.int .i64 n, .int .i64 l, .int .i64 h] w fun e w' => e = .returned (.bool B) ∧ w = w' := by
  cases B with
  | true =>
    obtain ⟨h1, h2⟩ := btw_t hB
    clear hB
    go_enter Try.func61, Try.ntmps61
    go_wp2
    go_ret
    exact ⟨rfl, rfl⟩
  | false =>
    have hB := btw_f hB
    by_cases h2 : n < l
    · clear hB
      go_enter Try.func61, Try.ntmps61
      go_wp2
      go_ret
      exact ⟨rfl, rfl⟩
    · have h3 : decide (n ≤ h) = false := decide_eq_false (by omega)
      have h4 : decide (l ≤ n) = true := decide_eq_true (by omega)
      have h5 : ¬ n ≤ h := by omega
      have h6 : l ≤ n := by omega
      clear hB h2
      go_enter Try.func61, Try.ntmps61
      go_wp2
      go_ret
      exact ⟨rfl, rfl⟩
theorem rfo_run (i f t c p d u x b y : Int) (w : World) (hu : 1 ≤ u ∧ u ≤ 1073741824) (hx : 0 ≤ x ∧ x ≤ u) (hb : 0 ≤ b ∧ b ≤ u) (hy : 0 ≤ y ∧ y ≤ u) :
    Calls Try.prog 67 #[.agg #[.int .i64 i, .int .i64 f, .int .i64 t, .int .i64 c, .int .i64 p, .int .i64 d, .int .i64 u, .int .i64 x, .int .i64 b, .int .i64 y]] w fun e w' => e = .returned (.int .i64 (u - x - b - y)) ∧ Kpt w w' := by
  go_enter Try.func67, Try.ntmps67
  go_wp2
  go_ret
  exact ⟨ret_int (by omega), (Kpt.refl w).alloc _⟩

set_option maxHeartbeats 2000000 in
theorem rfc_0 (i f t c p d u x b y : Int) (Y0 : btw 1 1099511627776 i = false) (w : World) :
    Calls Try.prog 78 #[.agg #[.int .i64 i, .int .i64 f, .int .i64 t, .int .i64 c, .int .i64 p, .int .i64 d, .int .i64 u, .int .i64 x, .int .i64 b, .int .i64 y]] w fun e w' => e = .returned (.int .i64 3) ∧ Kpt w w' := by
  go_enter Try.func78, Try.ntmps78
  go_wp2_with (first
    | (go_at_call 61; (with_reducible refine (rbt_any _ _ _ _ Y0 _).mono ?_); rintro e w9 ⟨rfl, rfl⟩))
  go_ret
  exact ⟨rfl, ((Kpt.refl w).alloc _)⟩

set_option maxHeartbeats 2000000 in
theorem rfc_1 (i f t c p d u x b y : Int) (Y0 : btw 1 1099511627776 i = true) (Y1 : btw 0 30 f = false) (w : World) :
    Calls Try.prog 78 #[.agg #[.int .i64 i, .int .i64 f, .int .i64 t, .int .i64 c, .int .i64 p, .int .i64 d, .int .i64 u, .int .i64 x, .int .i64 b, .int .i64 y]] w fun e w' => e = .returned (.int .i64 3) ∧ Kpt w w' := by
  go_enter Try.func78, Try.ntmps78
  go_wp2_with (first
    | (go_at_call 61; (with_reducible refine (rbt_any _ _ _ _ Y0 _).mono ?_); rintro e w9 ⟨rfl, rfl⟩)
    | (go_at_call 61; (with_reducible refine (rbt_any _ _ _ _ Y1 _).mono ?_); rintro e w9 ⟨rfl, rfl⟩))
  go_ret
  exact ⟨rfl, ((Kpt.refl w).alloc _)⟩

set_option maxHeartbeats 2000000 in
theorem rfc_2 (i f t c p d u x b y : Int) (Y0 : btw 1 1099511627776 i = true) (Y1 : btw 0 30 f = true) (Y2 : btw 0 30 t = false) (w : World) :
    Calls Try.prog 78 #[.agg #[.int .i64 i, .int .i64 f, .int .i64 t, .int .i64 c, .int .i64 p, .int .i64 d, .int .i64 u, .int .i64 x, .int .i64 b, .int .i64 y]] w fun e w' => e = .returned (.int .i64 3) ∧ Kpt w w' := by
  go_enter Try.func78, Try.ntmps78
  go_wp2_with (first
    | (go_at_call 61; (with_reducible refine (rbt_any _ _ _ _ Y0 _).mono ?_); rintro e w9 ⟨rfl, rfl⟩)
    | (go_at_call 61; (with_reducible refine (rbt_any _ _ _ _ Y1 _).mono ?_); rintro e w9 ⟨rfl, rfl⟩)
    | (go_at_call 61; (with_reducible refine (rbt_any _ _ _ _ Y2 _).mono ?_); rintro e w9 ⟨rfl, rfl⟩))
  go_ret
  exact ⟨rfl, ((Kpt.refl w).alloc _)⟩

set_option maxHeartbeats 2000000 in
theorem rfc_3 (i f t c p d u x b y : Int) (Y0 : btw 1 1099511627776 i = true) (Y1 : btw 0 30 f = true) (Y2 : btw 0 30 t = true) (Y3 : btw 0 5 c = false) (w : World) :
    Calls Try.prog 78 #[.agg #[.int .i64 i, .int .i64 f, .int .i64 t, .int .i64 c, .int .i64 p, .int .i64 d, .int .i64 u, .int .i64 x, .int .i64 b, .int .i64 y]] w fun e w' => e = .returned (.int .i64 3) ∧ Kpt w w' := by
  go_enter Try.func78, Try.ntmps78
  go_wp2_with (first
    | (go_at_call 61; (with_reducible refine (rbt_any _ _ _ _ Y0 _).mono ?_); rintro e w9 ⟨rfl, rfl⟩)
    | (go_at_call 61; (with_reducible refine (rbt_any _ _ _ _ Y1 _).mono ?_); rintro e w9 ⟨rfl, rfl⟩)
    | (go_at_call 61; (with_reducible refine (rbt_any _ _ _ _ Y2 _).mono ?_); rintro e w9 ⟨rfl, rfl⟩)
    | (go_at_call 61; (with_reducible refine (rbt_any _ _ _ _ Y3 _).mono ?_); rintro e w9 ⟨rfl, rfl⟩))
  go_ret
  exact ⟨rfl, ((Kpt.refl w).alloc _)⟩

set_option maxHeartbeats 2000000 in
theorem rfc_4 (i f t c p d u x b y : Int) (Y0 : btw 1 1099511627776 i = true) (Y1 : btw 0 30 f = true) (Y2 : btw 0 30 t = true) (Y3 : btw 0 5 c = true) (Y4 : btw 1 20 p = false) (w : World) :
    Calls Try.prog 78 #[.agg #[.int .i64 i, .int .i64 f, .int .i64 t, .int .i64 c, .int .i64 p, .int .i64 d, .int .i64 u, .int .i64 x, .int .i64 b, .int .i64 y]] w fun e w' => e = .returned (.int .i64 3) ∧ Kpt w w' := by
  go_enter Try.func78, Try.ntmps78
  go_wp2_with (first
    | (go_at_call 61; (with_reducible refine (rbt_any _ _ _ _ Y0 _).mono ?_); rintro e w9 ⟨rfl, rfl⟩)
    | (go_at_call 61; (with_reducible refine (rbt_any _ _ _ _ Y1 _).mono ?_); rintro e w9 ⟨rfl, rfl⟩)
    | (go_at_call 61; (with_reducible refine (rbt_any _ _ _ _ Y2 _).mono ?_); rintro e w9 ⟨rfl, rfl⟩)
    | (go_at_call 61; (with_reducible refine (rbt_any _ _ _ _ Y3 _).mono ?_); rintro e w9 ⟨rfl, rfl⟩)
    | (go_at_call 61; (with_reducible refine (rbt_any _ _ _ _ Y4 _).mono ?_); rintro e w9 ⟨rfl, rfl⟩))
  go_ret
  exact ⟨rfl, ((Kpt.refl w).alloc _)⟩

set_option maxHeartbeats 2000000 in
theorem rfc_5 (i f t c p d u x b y : Int) (Y0 : btw 1 1099511627776 i = true) (Y1 : btw 0 30 f = true) (Y2 : btw 0 30 t = true) (Y3 : btw 0 5 c = true) (Y4 : btw 1 20 p = true) (Y5 : btw 0 3652058 d = false) (w : World) :
    Calls Try.prog 78 #[.agg #[.int .i64 i, .int .i64 f, .int .i64 t, .int .i64 c, .int .i64 p, .int .i64 d, .int .i64 u, .int .i64 x, .int .i64 b, .int .i64 y]] w fun e w' => e = .returned (.int .i64 3) ∧ Kpt w w' := by
  go_enter Try.func78, Try.ntmps78
  go_wp2_with (first
    | (go_at_call 61; (with_reducible refine (rbt_any _ _ _ _ Y0 _).mono ?_); rintro e w9 ⟨rfl, rfl⟩)
    | (go_at_call 61; (with_reducible refine (rbt_any _ _ _ _ Y1 _).mono ?_); rintro e w9 ⟨rfl, rfl⟩)
    | (go_at_call 61; (with_reducible refine (rbt_any _ _ _ _ Y2 _).mono ?_); rintro e w9 ⟨rfl, rfl⟩)
    | (go_at_call 61; (with_reducible refine (rbt_any _ _ _ _ Y3 _).mono ?_); rintro e w9 ⟨rfl, rfl⟩)
    | (go_at_call 61; (with_reducible refine (rbt_any _ _ _ _ Y4 _).mono ?_); rintro e w9 ⟨rfl, rfl⟩)
    | (go_at_call 61; (with_reducible refine (rbt_any _ _ _ _ Y5 _).mono ?_); rintro e w9 ⟨rfl, rfl⟩))
  go_ret
  exact ⟨rfl, ((Kpt.refl w).alloc _)⟩

set_option maxHeartbeats 2000000 in
theorem rfc_6 (i f t c p d u x b y : Int) (Y0 : btw 1 1099511627776 i = true) (Y1 : btw 0 30 f = true) (Y2 : btw 0 30 t = true) (Y3 : btw 0 5 c = true) (Y4 : btw 1 20 p = true) (Y5 : btw 0 3652058 d = true) (Y6 : btw 1 1073741824 u = false) (w : World) :
    Calls Try.prog 78 #[.agg #[.int .i64 i, .int .i64 f, .int .i64 t, .int .i64 c, .int .i64 p, .int .i64 d, .int .i64 u, .int .i64 x, .int .i64 b, .int .i64 y]] w fun e w' => e = .returned (.int .i64 3) ∧ Kpt w w' := by
  go_enter Try.func78, Try.ntmps78
  go_wp2_with (first
    | (go_at_call 61; (with_reducible refine (rbt_any _ _ _ _ Y0 _).mono ?_); rintro e w9 ⟨rfl, rfl⟩)
    | (go_at_call 61; (with_reducible refine (rbt_any _ _ _ _ Y1 _).mono ?_); rintro e w9 ⟨rfl, rfl⟩)
    | (go_at_call 61; (with_reducible refine (rbt_any _ _ _ _ Y2 _).mono ?_); rintro e w9 ⟨rfl, rfl⟩)
    | (go_at_call 61; (with_reducible refine (rbt_any _ _ _ _ Y3 _).mono ?_); rintro e w9 ⟨rfl, rfl⟩)
    | (go_at_call 61; (with_reducible refine (rbt_any _ _ _ _ Y4 _).mono ?_); rintro e w9 ⟨rfl, rfl⟩)
    | (go_at_call 61; (with_reducible refine (rbt_any _ _ _ _ Y5 _).mono ?_); rintro e w9 ⟨rfl, rfl⟩)
    | (go_at_call 61; (with_reducible refine (rbt_any _ _ _ _ Y6 _).mono ?_); rintro e w9 ⟨rfl, rfl⟩))
  go_ret
  exact ⟨rfl, ((Kpt.refl w).alloc _)⟩

set_option maxHeartbeats 2000000 in
theorem rfc_eq (i f t c p d u x b y : Int) (Y0 : btw 1 1099511627776 i = true) (Y1 : btw 0 30 f = true) (Y2 : btw 0 30 t = true) (Y3 : btw 0 5 c = true) (Y4 : btw 1 20 p = true) (Y5 : btw 0 3652058 d = true) (Y6 : btw 1 1073741824 u = true) (h : (f == t) = true) (w : World) :
    Calls Try.prog 78 #[.agg #[.int .i64 i, .int .i64 f, .int .i64 t, .int .i64 c, .int .i64 p, .int .i64 d, .int .i64 u, .int .i64 x, .int .i64 b, .int .i64 y]] w fun e w' => e = .returned (.int .i64 1) ∧ Kpt w w' := by
  go_enter Try.func78, Try.ntmps78
  go_wp2_with (first
    | (go_at_call 61; (with_reducible refine (rbt_any _ _ _ _ Y0 _).mono ?_); rintro e w9 ⟨rfl, rfl⟩)
    | (go_at_call 61; (with_reducible refine (rbt_any _ _ _ _ Y1 _).mono ?_); rintro e w9 ⟨rfl, rfl⟩)
    | (go_at_call 61; (with_reducible refine (rbt_any _ _ _ _ Y2 _).mono ?_); rintro e w9 ⟨rfl, rfl⟩)
    | (go_at_call 61; (with_reducible refine (rbt_any _ _ _ _ Y3 _).mono ?_); rintro e w9 ⟨rfl, rfl⟩)
    | (go_at_call 61; (with_reducible refine (rbt_any _ _ _ _ Y4 _).mono ?_); rintro e w9 ⟨rfl, rfl⟩)
    | (go_at_call 61; (with_reducible refine (rbt_any _ _ _ _ Y5 _).mono ?_); rintro e w9 ⟨rfl, rfl⟩)
    | (go_at_call 61; (with_reducible refine (rbt_any _ _ _ _ Y6 _).mono ?_); rintro e w9 ⟨rfl, rfl⟩))
  go_ret
  exact ⟨rfl, ((Kpt.refl w).alloc _)⟩

set_option maxHeartbeats 2000000 in
theorem rfc_t0 (i f t c p d u x b y : Int) (Y0 : btw 1 1099511627776 i = true) (Y1 : btw 0 30 f = true) (Y2 : btw 0 30 t = true) (Y3 : btw 0 5 c = true) (Y4 : btw 1 20 p = true) (Y5 : btw 0 3652058 d = true) (Y6 : btw 1 1073741824 u = true) (h : (f == t) = false) (Y7 : btw 0 u x = false) (w : World) :
    Calls Try.prog 78 #[.agg #[.int .i64 i, .int .i64 f, .int .i64 t, .int .i64 c, .int .i64 p, .int .i64 d, .int .i64 u, .int .i64 x, .int .i64 b, .int .i64 y]] w fun e w' => e = .returned (.int .i64 3) ∧ Kpt w w' := by
  go_enter Try.func78, Try.ntmps78
  go_wp2_with (first
    | (go_at_call 61; (with_reducible refine (rbt_any _ _ _ _ Y0 _).mono ?_); rintro e w9 ⟨rfl, rfl⟩)
    | (go_at_call 61; (with_reducible refine (rbt_any _ _ _ _ Y1 _).mono ?_); rintro e w9 ⟨rfl, rfl⟩)
    | (go_at_call 61; (with_reducible refine (rbt_any _ _ _ _ Y2 _).mono ?_); rintro e w9 ⟨rfl, rfl⟩)
    | (go_at_call 61; (with_reducible refine (rbt_any _ _ _ _ Y3 _).mono ?_); rintro e w9 ⟨rfl, rfl⟩)
    | (go_at_call 61; (with_reducible refine (rbt_any _ _ _ _ Y4 _).mono ?_); rintro e w9 ⟨rfl, rfl⟩)
    | (go_at_call 61; (with_reducible refine (rbt_any _ _ _ _ Y5 _).mono ?_); rintro e w9 ⟨rfl, rfl⟩)
    | (go_at_call 61; (with_reducible refine (rbt_any _ _ _ _ Y6 _).mono ?_); rintro e w9 ⟨rfl, rfl⟩)
    | (go_at_call 61; (with_reducible refine (rbt_any _ _ _ _ Y7 _).mono ?_); rintro e w9 ⟨rfl, rfl⟩))
  go_ret
  exact ⟨rfl, ((Kpt.refl w).alloc _)⟩

set_option maxHeartbeats 2000000 in
theorem rfc_t1 (i f t c p d u x b y : Int) (Y0 : btw 1 1099511627776 i = true) (Y1 : btw 0 30 f = true) (Y2 : btw 0 30 t = true) (Y3 : btw 0 5 c = true) (Y4 : btw 1 20 p = true) (Y5 : btw 0 3652058 d = true) (Y6 : btw 1 1073741824 u = true) (h : (f == t) = false) (Y7 : btw 0 u x = true) (Y8 : btw 0 u b = false) (w : World) :
    Calls Try.prog 78 #[.agg #[.int .i64 i, .int .i64 f, .int .i64 t, .int .i64 c, .int .i64 p, .int .i64 d, .int .i64 u, .int .i64 x, .int .i64 b, .int .i64 y]] w fun e w' => e = .returned (.int .i64 3) ∧ Kpt w w' := by
  go_enter Try.func78, Try.ntmps78
  go_wp2_with (first
    | (go_at_call 61; (with_reducible refine (rbt_any _ _ _ _ Y0 _).mono ?_); rintro e w9 ⟨rfl, rfl⟩)
    | (go_at_call 61; (with_reducible refine (rbt_any _ _ _ _ Y1 _).mono ?_); rintro e w9 ⟨rfl, rfl⟩)
    | (go_at_call 61; (with_reducible refine (rbt_any _ _ _ _ Y2 _).mono ?_); rintro e w9 ⟨rfl, rfl⟩)
    | (go_at_call 61; (with_reducible refine (rbt_any _ _ _ _ Y3 _).mono ?_); rintro e w9 ⟨rfl, rfl⟩)
    | (go_at_call 61; (with_reducible refine (rbt_any _ _ _ _ Y4 _).mono ?_); rintro e w9 ⟨rfl, rfl⟩)
    | (go_at_call 61; (with_reducible refine (rbt_any _ _ _ _ Y5 _).mono ?_); rintro e w9 ⟨rfl, rfl⟩)
    | (go_at_call 61; (with_reducible refine (rbt_any _ _ _ _ Y6 _).mono ?_); rintro e w9 ⟨rfl, rfl⟩)
    | (go_at_call 61; (with_reducible refine (rbt_any _ _ _ _ Y7 _).mono ?_); rintro e w9 ⟨rfl, rfl⟩)
    | (go_at_call 61; (with_reducible refine (rbt_any _ _ _ _ Y8 _).mono ?_); rintro e w9 ⟨rfl, rfl⟩))
  go_ret
  exact ⟨rfl, ((Kpt.refl w).alloc _)⟩

set_option maxHeartbeats 2000000 in
theorem rfc_t2 (i f t c p d u x b y : Int) (Y0 : btw 1 1099511627776 i = true) (Y1 : btw 0 30 f = true) (Y2 : btw 0 30 t = true) (Y3 : btw 0 5 c = true) (Y4 : btw 1 20 p = true) (Y5 : btw 0 3652058 d = true) (Y6 : btw 1 1073741824 u = true) (h : (f == t) = false) (Y7 : btw 0 u x = true) (Y8 : btw 0 u b = true) (Y9 : btw 0 u y = false) (w : World) :
    Calls Try.prog 78 #[.agg #[.int .i64 i, .int .i64 f, .int .i64 t, .int .i64 c, .int .i64 p, .int .i64 d, .int .i64 u, .int .i64 x, .int .i64 b, .int .i64 y]] w fun e w' => e = .returned (.int .i64 3) ∧ Kpt w w' := by
  go_enter Try.func78, Try.ntmps78
  go_wp2_with (first
    | (go_at_call 61; (with_reducible refine (rbt_any _ _ _ _ Y0 _).mono ?_); rintro e w9 ⟨rfl, rfl⟩)
    | (go_at_call 61; (with_reducible refine (rbt_any _ _ _ _ Y1 _).mono ?_); rintro e w9 ⟨rfl, rfl⟩)
    | (go_at_call 61; (with_reducible refine (rbt_any _ _ _ _ Y2 _).mono ?_); rintro e w9 ⟨rfl, rfl⟩)
    | (go_at_call 61; (with_reducible refine (rbt_any _ _ _ _ Y3 _).mono ?_); rintro e w9 ⟨rfl, rfl⟩)
    | (go_at_call 61; (with_reducible refine (rbt_any _ _ _ _ Y4 _).mono ?_); rintro e w9 ⟨rfl, rfl⟩)
    | (go_at_call 61; (with_reducible refine (rbt_any _ _ _ _ Y5 _).mono ?_); rintro e w9 ⟨rfl, rfl⟩)
    | (go_at_call 61; (with_reducible refine (rbt_any _ _ _ _ Y6 _).mono ?_); rintro e w9 ⟨rfl, rfl⟩)
    | (go_at_call 61; (with_reducible refine (rbt_any _ _ _ _ Y7 _).mono ?_); rintro e w9 ⟨rfl, rfl⟩)
    | (go_at_call 61; (with_reducible refine (rbt_any _ _ _ _ Y8 _).mono ?_); rintro e w9 ⟨rfl, rfl⟩)
    | (go_at_call 61; (with_reducible refine (rbt_any _ _ _ _ Y9 _).mono ?_); rintro e w9 ⟨rfl, rfl⟩))
  go_ret
  exact ⟨rfl, ((Kpt.refl w).alloc _)⟩

set_option maxHeartbeats 2000000 in
theorem rfc_neg (i f t c p d u x b y : Int) (Y0 : btw 1 1099511627776 i = true) (Y1 : btw 0 30 f = true) (Y2 : btw 0 30 t = true) (Y3 : btw 0 5 c = true) (Y4 : btw 1 20 p = true) (Y5 : btw 0 3652058 d = true) (Y6 : btw 1 1073741824 u = true) (h : (f == t) = false) (Y7 : btw 0 u x = true) (Y8 : btw 0 u b = true) (Y9 : btw 0 u y = true) (ho : decide (u - x - b - y < 0) = true) (w : World) :
    Calls Try.prog 78 #[.agg #[.int .i64 i, .int .i64 f, .int .i64 t, .int .i64 c, .int .i64 p, .int .i64 d, .int .i64 u, .int .i64 x, .int .i64 b, .int .i64 y]] w fun e w' => e = .returned (.int .i64 4) ∧ Kpt w w' := by
  have OP := Lib.hid (fun w' => rfo_run i f t c p d u x b y w' (btw_t Y6) (btw_t Y7) (btw_t Y8) (btw_t Y9))
  generalize u - x - b - y = O at *
  go_enter Try.func78, Try.ntmps78
  go_wp2_with (first
    | (go_at_call 61; (with_reducible refine (rbt_any _ _ _ _ Y0 _).mono ?_); rintro e w9 ⟨rfl, rfl⟩)
    | (go_at_call 61; (with_reducible refine (rbt_any _ _ _ _ Y1 _).mono ?_); rintro e w9 ⟨rfl, rfl⟩)
    | (go_at_call 61; (with_reducible refine (rbt_any _ _ _ _ Y2 _).mono ?_); rintro e w9 ⟨rfl, rfl⟩)
    | (go_at_call 61; (with_reducible refine (rbt_any _ _ _ _ Y3 _).mono ?_); rintro e w9 ⟨rfl, rfl⟩)
    | (go_at_call 61; (with_reducible refine (rbt_any _ _ _ _ Y4 _).mono ?_); rintro e w9 ⟨rfl, rfl⟩)
    | (go_at_call 61; (with_reducible refine (rbt_any _ _ _ _ Y5 _).mono ?_); rintro e w9 ⟨rfl, rfl⟩)
    | (go_at_call 61; (with_reducible refine (rbt_any _ _ _ _ Y6 _).mono ?_); rintro e w9 ⟨rfl, rfl⟩)
    | (go_at_call 61; (with_reducible refine (rbt_any _ _ _ _ Y7 _).mono ?_); rintro e w9 ⟨rfl, rfl⟩)
    | (go_at_call 61; (with_reducible refine (rbt_any _ _ _ _ Y8 _).mono ?_); rintro e w9 ⟨rfl, rfl⟩)
    | (go_at_call 61; (with_reducible refine (rbt_any _ _ _ _ Y9 _).mono ?_); rintro e w9 ⟨rfl, rfl⟩)
    | (refine wp_loadF rfl (.tmp 1) rfl w.heap.size _ rfl (Blk.made w #[.int .i64 i, .int .i64 f, .int .i64 t, .int .i64 c, .int .i64 p, .int .i64 d, .int .i64 u, .int .i64 x, .int .i64 b, .int .i64 y] 38) rfl ?_)
    | (go_at_call 67; (with_reducible refine (OP.out _).mono ?_); rintro e w3 ⟨rfl, k3⟩; have K3 := Lib.hid (ktr ((Kpt.refl w).alloc (.cells #[.int .i64 i, .int .i64 f, .int .i64 t, .int .i64 c, .int .i64 p, .int .i64 d, .int .i64 u, .int .i64 x, .int .i64 b, .int .i64 y] 38)) k3); clear k3))
  go_ret
  exact ⟨rfl, K3.out⟩

set_option maxHeartbeats 2000000 in
theorem rfc_ok (i f t c p d u x b y : Int) (Y0 : btw 1 1099511627776 i = true) (Y1 : btw 0 30 f = true) (Y2 : btw 0 30 t = true) (Y3 : btw 0 5 c = true) (Y4 : btw 1 20 p = true) (Y5 : btw 0 3652058 d = true) (Y6 : btw 1 1073741824 u = true) (h : (f == t) = false) (Y7 : btw 0 u x = true) (Y8 : btw 0 u b = true) (Y9 : btw 0 u y = true) (ho : decide (u - x - b - y < 0) = false) (w : World) :
    Calls Try.prog 78 #[.agg #[.int .i64 i, .int .i64 f, .int .i64 t, .int .i64 c, .int .i64 p, .int .i64 d, .int .i64 u, .int .i64 x, .int .i64 b, .int .i64 y]] w fun e w' => e = .returned (.int .i64 0) ∧ Kpt w w' := by
  have OP := Lib.hid (fun w' => rfo_run i f t c p d u x b y w' (btw_t Y6) (btw_t Y7) (btw_t Y8) (btw_t Y9))
  generalize u - x - b - y = O at *
  go_enter Try.func78, Try.ntmps78
  go_wp2_with (first
    | (go_at_call 61; (with_reducible refine (rbt_any _ _ _ _ Y0 _).mono ?_); rintro e w9 ⟨rfl, rfl⟩)
    | (go_at_call 61; (with_reducible refine (rbt_any _ _ _ _ Y1 _).mono ?_); rintro e w9 ⟨rfl, rfl⟩)
    | (go_at_call 61; (with_reducible refine (rbt_any _ _ _ _ Y2 _).mono ?_); rintro e w9 ⟨rfl, rfl⟩)
    | (go_at_call 61; (with_reducible refine (rbt_any _ _ _ _ Y3 _).mono ?_); rintro e w9 ⟨rfl, rfl⟩)
    | (go_at_call 61; (with_reducible refine (rbt_any _ _ _ _ Y4 _).mono ?_); rintro e w9 ⟨rfl, rfl⟩)
    | (go_at_call 61; (with_reducible refine (rbt_any _ _ _ _ Y5 _).mono ?_); rintro e w9 ⟨rfl, rfl⟩)
    | (go_at_call 61; (with_reducible refine (rbt_any _ _ _ _ Y6 _).mono ?_); rintro e w9 ⟨rfl, rfl⟩)
    | (go_at_call 61; (with_reducible refine (rbt_any _ _ _ _ Y7 _).mono ?_); rintro e w9 ⟨rfl, rfl⟩)
    | (go_at_call 61; (with_reducible refine (rbt_any _ _ _ _ Y8 _).mono ?_); rintro e w9 ⟨rfl, rfl⟩)
    | (go_at_call 61; (with_reducible refine (rbt_any _ _ _ _ Y9 _).mono ?_); rintro e w9 ⟨rfl, rfl⟩)
    | (refine wp_loadF rfl (.tmp 1) rfl w.heap.size _ rfl (Blk.made w #[.int .i64 i, .int .i64 f, .int .i64 t, .int .i64 c, .int .i64 p, .int .i64 d, .int .i64 u, .int .i64 x, .int .i64 b, .int .i64 y] 38) rfl ?_)
    | (go_at_call 67; (with_reducible refine (OP.out _).mono ?_); rintro e w3 ⟨rfl, k3⟩; have K3 := Lib.hid (ktr ((Kpt.refl w).alloc (.cells #[.int .i64 i, .int .i64 f, .int .i64 t, .int .i64 c, .int .i64 p, .int .i64 d, .int .i64 u, .int .i64 x, .int .i64 b, .int .i64 y] 38)) k3); clear k3))
  go_ret
  exact ⟨rfl, K3.out⟩

theorem rfc_run (i f t c p d u x b y : Int) (w : World) :
    Calls Try.prog 78 #[.agg #[.int .i64 i, .int .i64 f, .int .i64 t, .int .i64 c, .int .i64 p, .int .i64 d, .int .i64 u, .int .i64 x, .int .i64 b, .int .i64 y]] w fun e w' => e = .returned (.int .i64 (failE i f t c p d u x b y)) ∧ Kpt w w' := by
  have bad : fdue i f t c p d u = false → failE i f t c p d u x b y = 3 := fun h => by unfold failE; rw [h]; rfl
  cases Y0 : btw 1 1099511627776 i with
  | false =>
    rw [bad (by cases hq : fdue i f t c p d u with
      | false => rfl
      | true => exact absurd (fdue_t hq) (by have := btw_f Y0; omega))]
    exact rfc_0 i f t c p d u x b y Y0 w
  | true =>
    cases Y1 : btw 0 30 f with
    | false =>
      rw [bad (by cases hq : fdue i f t c p d u with
        | false => rfl
        | true => exact absurd (fdue_t hq) (by have := btw_f Y1; omega))]
      exact rfc_1 i f t c p d u x b y Y0 Y1 w
    | true =>
      cases Y2 : btw 0 30 t with
      | false =>
        rw [bad (by cases hq : fdue i f t c p d u with
          | false => rfl
          | true => exact absurd (fdue_t hq) (by have := btw_f Y2; omega))]
        exact rfc_2 i f t c p d u x b y Y0 Y1 Y2 w
      | true =>
        cases Y3 : btw 0 5 c with
        | false =>
          rw [bad (by cases hq : fdue i f t c p d u with
            | false => rfl
            | true => exact absurd (fdue_t hq) (by have := btw_f Y3; omega))]
          exact rfc_3 i f t c p d u x b y Y0 Y1 Y2 Y3 w
        | true =>
          cases Y4 : btw 1 20 p with
          | false =>
            rw [bad (by cases hq : fdue i f t c p d u with
              | false => rfl
              | true => exact absurd (fdue_t hq) (by have := btw_f Y4; omega))]
            exact rfc_4 i f t c p d u x b y Y0 Y1 Y2 Y3 Y4 w
          | true =>
            cases Y5 : btw 0 3652058 d with
            | false =>
              rw [bad (by cases hq : fdue i f t c p d u with
                | false => rfl
                | true => exact absurd (fdue_t hq) (by have := btw_f Y5; omega))]
              exact rfc_5 i f t c p d u x b y Y0 Y1 Y2 Y3 Y4 Y5 w
            | true =>
              cases Y6 : btw 1 1073741824 u with
              | false =>
                rw [bad (by cases hq : fdue i f t c p d u with
                  | false => rfl
                  | true => exact absurd (fdue_t hq) (by have := btw_f Y6; omega))]
                exact rfc_6 i f t c p d u x b y Y0 Y1 Y2 Y3 Y4 Y5 Y6 w
              | true =>
                have Y : fdue i f t c p d u = true := fdue_mk ⟨btw_t Y5, btw_t Y0, ⟨btw_t Y1, btw_t Y2⟩, btw_t Y3, btw_t Y4, btw_t Y6⟩
                by_cases h : f = t
                · rw [show failE i f t c p d u x b y = 1 by unfold failE; rw [if_pos Y, if_pos h]]
                  exact rfc_eq i f t c p d u x b y Y0 Y1 Y2 Y3 Y4 Y5 Y6 (beq_iff_eq.2 h) w
                · have hn : (f == t) = false := beq_eq_false_iff_ne.2 h
                  cases Y7 : btw 0 u x with
                  | false =>
                    rw [show failE i f t c p d u x b y = 3 by unfold failE; rw [if_pos Y, if_neg h, if_neg (fun hq => absurd (ftk_t hq) (by have := btw_f Y7; omega))]]
                    exact rfc_t0 i f t c p d u x b y Y0 Y1 Y2 Y3 Y4 Y5 Y6 hn Y7 w
                  | true =>
                    cases Y8 : btw 0 u b with
                    | false =>
                      rw [show failE i f t c p d u x b y = 3 by unfold failE; rw [if_pos Y, if_neg h, if_neg (fun hq => absurd (ftk_t hq) (by have := btw_f Y8; omega))]]
                      exact rfc_t1 i f t c p d u x b y Y0 Y1 Y2 Y3 Y4 Y5 Y6 hn Y7 Y8 w
                    | true =>
                      cases Y9 : btw 0 u y with
                      | false =>
                        rw [show failE i f t c p d u x b y = 3 by unfold failE; rw [if_pos Y, if_neg h, if_neg (fun hq => absurd (ftk_t hq) (by have := btw_f Y9; omega))]]
                        exact rfc_t2 i f t c p d u x b y Y0 Y1 Y2 Y3 Y4 Y5 Y6 hn Y7 Y8 Y9 w
                      | true =>
                        have YT : ftk u x b y = true := ftk_mk ⟨btw_t Y7, btw_t Y8, btw_t Y9⟩
                        by_cases ho : u - x - b - y < 0
                        · rw [show failE i f t c p d u x b y = 4 by unfold failE; rw [if_pos Y, if_neg h, if_pos YT, if_pos ho]]
                          exact rfc_neg i f t c p d u x b y Y0 Y1 Y2 Y3 Y4 Y5 Y6 hn Y7 Y8 Y9 (decide_eq_true ho) w
                        · rw [show failE i f t c p d u x b y = 0 by unfold failE; rw [if_pos Y, if_neg h, if_pos YT, if_neg ho]]
                          exact rfc_ok i f t c p d u x b y Y0 Y1 Y2 Y3 Y4 Y5 Y6 hn Y7 Y8 Y9 (decide_eq_false ho) w

end Go.Proofs.Ytgccipmeiceonaa
