/-
  What Add of package money does: contracts.
-/
import Derived.Test.YtgkhcjnehmfgiaaTotal
namespace Go.Proofs.Ytgkhcjnehmfgiaa
open Go.RowKit
set_option linter.unusedVariables false

theorem add_ok (a b : Int) (w : World) (ha : amtB a = true) (hb : amtB b = true) (h : amtB (a + b) = true) :
    Calls Try.prog 9 #[.int .i64 a, .int .i64 b] w fun e w' => e = .returned (.tuple #[.int .i64 (a + b), .int .i64 0]) ∧ Grew w w' := by
  have a1 := amt_t ha
  have b1 := amt_t hb
  go_enter Try.func9, Try.ntmps9
  go_wp2_with (first
    | (go_at_call 13; (with_reducible refine (checkAll2_ok _ _ _ _ ha hb).mono ?_); rintro e w' ⟨rfl, rfl⟩)
    | (go_at_call 14; (with_reducible refine (asAmount_ok _ _ h).mono ?_); rintro e w' ⟨rfl, hg⟩))
  go_ret2
  exact ⟨rfl, gtr ((Grew.refl _).alloc _ _) hg⟩
theorem add_wide (a b : Int) (w : World) (ha : amtB a = true) (hb : amtB b = true) (h : amtB (a + b) = false) :
    Calls Try.prog 9 #[.int .i64 a, .int .i64 b] w fun e w' => e = .returned (.tuple #[.int .i64 0, .int .i64 8]) ∧ Grew w w' := by
  have a1 := amt_t ha
  have b1 := amt_t hb
  go_enter Try.func9, Try.ntmps9
  go_wp2_with (first
    | (go_at_call 13; (with_reducible refine (checkAll2_ok _ _ _ _ ha hb).mono ?_); rintro e w' ⟨rfl, rfl⟩)
    | (go_at_call 14; (with_reducible refine (asAmount_no _ _ h).mono ?_); rintro e w' ⟨rfl, hg⟩))
  go_ret2
  exact ⟨rfl, gtr ((Grew.refl _).alloc _ _) hg⟩
theorem add_no (a b : Int) (w : World) (h : amtB a = false ∨ amtB b = false) :
    Calls Try.prog 9 #[.int .i64 a, .int .i64 b] w fun e w' => e = .returned (.tuple #[.int .i64 0, .int .i64 3]) ∧ Grew w w' := by
  have H := Lib.hid h; clear h
  go_enter Try.func9, Try.ntmps9
  go_wp2_with (go_at_call 13; (with_reducible refine (checkAll2_no _ _ _ _ H.out).mono ?_); rintro e w' ⟨rfl, rfl⟩)
  go_ret2
  exact ⟨rfl, (Grew.refl _).alloc _ _⟩

end Go.Proofs.Ytgkhcjnehmfgiaa
