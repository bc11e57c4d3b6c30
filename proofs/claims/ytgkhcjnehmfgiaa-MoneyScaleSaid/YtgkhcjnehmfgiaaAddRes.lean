/-
  What a call of Add answers.
-/
import Derived.Test.YtgkhcjnehmfgiaaBegun
namespace Go.Proofs.Ytgkhcjnehmfgiaa
open Go.RowKit
set_option linter.unusedVariables false

/-- a call of Add answers x and e -/
def AddRes (a b x e : Int) : Prop := ∀ w, Calls Try.prog 9 #[.int .i64 a, .int .i64 b] w fun r w' => r = .returned (.tuple #[.int .i64 x, .int .i64 e]) ∧ Grew w w'
theorem AddRes.run {a b x e : Int} (h : AddRes a b x e) (w : World) : Calls Try.prog 9 #[.int .i64 a, .int .i64 b] w fun r w' => r = .returned (.tuple #[.int .i64 x, .int .i64 e]) ∧ Grew w w' := h w
theorem addRes_ok {a b : Int} (ha : amtB a = true) (hb : amtB b = true) (h : amtB (a + b) = true) : AddRes a b (a + b) 0 := fun w => add_ok a b w ha hb h
theorem add_res (a b : Int) : (amtB a = true ∧ amtB b = true ∧ amtB (a + b) = true ∧ AddRes a b (a + b) 0) ∨ ∃ e, 1 ≤ e ∧ e ≤ 8 ∧ AddRes a b 0 e := by
  cases ha : amtB a with
  | false => exact .inr ⟨3, by omega, by omega, fun w => add_no a b w (.inl ha)⟩
  | true =>
    cases hb : amtB b with
    | false => exact .inr ⟨3, by omega, by omega, fun w => add_no a b w (.inr hb)⟩
    | true =>
      cases h : amtB (a + b) with
      | false => exact .inr ⟨8, by omega, by omega, fun w => add_wide a b w ha hb h⟩
      | true => exact .inl ⟨rfl, rfl, rfl, addRes_ok ha hb h⟩
/-- either way round the answer is the same -/
theorem add_res2 (a b : Int) : (amtB a = true ∧ amtB b = true ∧ amtB (a + b) = true ∧ AddRes a b (a + b) 0 ∧ AddRes b a (a + b) 0) ∨ ∃ e, 1 ≤ e ∧ AddRes a b 0 e ∧ AddRes b a 0 e := by
  cases ha : amtB a with
  | false => exact .inr ⟨3, by omega, fun w => add_no a b w (.inl ha), fun w => add_no b a w (.inr ha)⟩
  | true =>
    cases hb : amtB b with
    | false => exact .inr ⟨3, by omega, fun w => add_no a b w (.inr hb), fun w => add_no b a w (.inl hb)⟩
    | true =>
      cases h : amtB (a + b) with
      | false => exact .inr ⟨8, by omega, fun w => add_wide a b w ha hb h, fun w => add_wide b a w hb ha (by rw [Int.add_comm]; exact h)⟩
      | true => exact .inl ⟨rfl, rfl, rfl, addRes_ok ha hb h, by rw [Int.add_comm a b] at h ⊢; exact addRes_ok hb ha h⟩
theorem add_some (a b : Int) : ∃ x e, AddRes a b x e ∧ -1152921504606846976 ≤ x ∧ x ≤ 1152921504606846976 := by
  rcases add_res a b with ⟨_, _, h, r⟩ | ⟨e, _, _, r⟩
  · have := amt_t h; exact ⟨_, _, r, by omega, by omega⟩
  · exact ⟨_, _, r, by omega, by omega⟩

theorem moneyBegun_run (w : World) : Calls Try.prog 10 #[] w fun e w' => e = .returned (.bool true) ∧ Grew w w' := moneyBegun w

end Go.Proofs.Ytgkhcjnehmfgiaa
