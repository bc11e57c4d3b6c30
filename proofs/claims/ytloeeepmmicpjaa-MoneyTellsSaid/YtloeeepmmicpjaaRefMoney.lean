/-
  What the document's own answers on amounts are, as package demurrageref reckons them: between, AmountCheck, MoneyAdd.
-/
import Derived.Test.YtloeeepmmicpjaaParts
import Derived.Test.YtloeeepmmicpjaaOwn
import Derived.Test.YtloeeepmmicpjaaRefChk
namespace Go.Proofs.Ytloeeepmmicpjaa
open Go.RowKit
set_option linter.unusedVariables false

def RAdd (a b x e : Int) : Prop := ∀ w, Calls Try.prog 17 #[.int .i64 a, .int .i64 b] w fun r w' => r = .returned (.tuple #[.int .i64 x, .int .i64 e]) ∧ w = w'
theorem RAdd.run {a b x e : Int} (h : RAdd a b x e) (w : World) : Calls Try.prog 17 #[.int .i64 a, .int .i64 b] w fun r w' => r = .returned (.tuple #[.int .i64 x, .int .i64 e]) ∧ w = w' := h w
theorem radd_ok (a b : Int) (ha : amtB a = true) (hb : amtB b = true) (h : amtB (a + b) = true) : RAdd a b (a + b) 0 := by
  intro w
  have a1 := amt_t ha
  have b1 := amt_t hb
  go_enter Try.func17, Try.ntmps17
  go_wp2_with (first
    | (go_at_call 22; (with_reducible refine (rchk_ok _ _ ha).mono ?_); rintro e w' ⟨rfl, rfl⟩)
    | (go_at_call 22; (with_reducible refine (rchk_ok _ _ hb).mono ?_); rintro e w' ⟨rfl, rfl⟩)
    | (go_at_call 22; (with_reducible refine (rchk_ok _ _ h).mono ?_); rintro e w' ⟨rfl, rfl⟩))
  go_ret2
  exact ⟨rfl, rfl⟩
theorem radd_wide (a b : Int) (ha : amtB a = true) (hb : amtB b = true) (h : amtB (a + b) = false) : RAdd a b 0 8 := by
  intro w
  have a1 := amt_t ha
  have b1 := amt_t hb
  go_enter Try.func17, Try.ntmps17
  go_wp2_with (first
    | (go_at_call 22; (with_reducible refine (rchk_ok _ _ ha).mono ?_); rintro e w' ⟨rfl, rfl⟩)
    | (go_at_call 22; (with_reducible refine (rchk_ok _ _ hb).mono ?_); rintro e w' ⟨rfl, rfl⟩)
    | (go_at_call 22; (with_reducible refine (rchk_no _ _ h).mono ?_); rintro e w' ⟨rfl, rfl⟩))
  go_ret2
  exact ⟨rfl, rfl⟩
theorem radd_no (a b : Int) (h : amtB a = false ∨ (amtB a = true ∧ amtB b = false)) : RAdd a b 0 3 := by
  intro w
  rcases h with ha | ⟨ha, hb⟩
  · go_enter Try.func17, Try.ntmps17
    go_wp2_with (go_at_call 22; (with_reducible refine (rchk_no _ _ ha).mono ?_); rintro e w' ⟨rfl, rfl⟩)
    go_ret2
    exact ⟨rfl, rfl⟩
  · go_enter Try.func17, Try.ntmps17
    go_wp2_with (first
      | (go_at_call 22; (with_reducible refine (rchk_ok _ _ ha).mono ?_); rintro e w' ⟨rfl, rfl⟩)
      | (go_at_call 22; (with_reducible refine (rchk_no _ _ hb).mono ?_); rintro e w' ⟨rfl, rfl⟩))
    go_ret2
    exact ⟨rfl, rfl⟩
/-- both ways of adding answer the same -/
theorem add_both (a b : Int) : ∃ x e, AddRes a b x e ∧ RAdd a b x e := by
  cases ha : amtB a with
  | false => exact ⟨0, 3, fun w => add_no a b w (.inl ha), radd_no a b (.inl ha)⟩
  | true =>
    cases hb : amtB b with
    | false => exact ⟨0, 3, fun w => add_no a b w (.inr hb), radd_no a b (.inr ⟨ha, hb⟩)⟩
    | true =>
      cases h : amtB (a + b) with
      | false => exact ⟨0, 8, fun w => add_wide a b w ha hb h, radd_wide a b ha hb h⟩
      | true => exact ⟨a + b, 0, addRes_ok ha hb h, radd_ok a b ha hb h⟩

end Go.Proofs.Ytloeeepmmicpjaa
