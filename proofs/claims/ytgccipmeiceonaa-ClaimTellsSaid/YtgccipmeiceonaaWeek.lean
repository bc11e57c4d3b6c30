/-
  What Week of package date does, by itself.
-/
import Derived.Test.YtgccipmeiceonaaDateA
namespace Go.Proofs.Ytgccipmeiceonaa
open Go.RowKit
set_option linter.unusedVariables false

theorem wk_ok (n : Int) (h0 : 0 ≤ n) (h1 : n ≤ 3652058) (w : World) :
    Calls Try.prog 143 #[.int .i64 n] w fun e w' => e = .returned (.tuple #[.int .i64 (n % 7), .int .i64 0]) ∧ w = w' := by
  go_enter Try.func143, Try.ntmps143
  go_wp2_with (go_at_call 160; (with_reducible refine (isDay_t _ h0 h1 _).mono ?_); rintro e w' ⟨rfl, rfl⟩)
  go_ret2
  exact ⟨rfl, rfl⟩
theorem wk_no (n : Int) (h : n < 0 ∨ 3652058 < n) (w : World) :
    Calls Try.prog 143 #[.int .i64 n] w fun e w' => e = .returned (.tuple #[.int .i64 0, .int .i64 3]) ∧ w = w' := by
  have H := Lib.hid h; clear h
  go_enter Try.func143, Try.ntmps143
  go_wp2_with (go_at_call 160; (with_reducible refine (isDay_f _ H.out _).mono ?_); rintro e w' ⟨rfl, rfl⟩)
  go_ret2
  exact ⟨rfl, rfl⟩

end Go.Proofs.Ytgccipmeiceonaa
