/-
  What the inner functions of package date do: contracts.
-/
import Derived.Test.YtgccipmeiceonaaBase
import Derived.Test.YtgccipmeiceonaaDateMath
namespace Go.Proofs.Ytgccipmeiceonaa
open Go.RowKit
set_option linter.unusedVariables false

/-- what the variable 'lengths' holds -/
def lens : List Int := [31, 28, 31, 30, 31, 30, 31, 31, 30, 31, 30, 31]
theorem ret_bool {a b : Bool} (h : a = b) : Ending.returned (.bool a) = .returned (.bool b) := by rw [h]

theorem isDay_t (y : Int) (h1 : 0 ≤ y) (h2 : y ≤ 3652058) (w : World) :
    Calls Try.prog 160 #[.int .i64 y] w fun e w' => e = .returned (.bool true) ∧ w = w' := by
  go_enter Try.func160, Try.ntmps160
  go_wp2
  go_ret
  exact ⟨rfl, rfl⟩
theorem isDay_f (y : Int) (h : y < 0 ∨ 3652058 < y) (w : World) :
    Calls Try.prog 160 #[.int .i64 y] w fun e w' => e = .returned (.bool false) ∧ w = w' := by
  rcases h with h | h
  · go_enter Try.func160, Try.ntmps160
    go_wp2
    go_ret
    exact ⟨rfl, rfl⟩
  · have h' : 0 ≤ y := by omega
    go_enter Try.func160, Try.ntmps160
    go_wp2
    go_ret
    exact ⟨ret_bool (decide_eq_false (by omega)), rfl⟩

theorem lens_dim (y : Int) {m : Int} (h1 : 1 ≤ m) (h2 : m ≤ 12) : ∃ j : Nat, j < 12 ∧ m = (j : Int) + 1 ∧ ((m = 2 ∧ leapB y = true ∧ dim y m = lens.getD j 0 + 1) ∨ ((m ≠ 2 ∨ leapB y = false) ∧ dim y m = lens.getD j 0)) ∧ 28 ≤ lens.getD j 0 ∧ lens.getD j 0 ≤ 31 := by
  rcases m12 h1 h2 with h | h | h | h | h | h | h | h | h | h | h | h <;> subst h
  · exact ⟨0, by decide, rfl, .inr ⟨.inl (by decide), rfl⟩, by decide, by decide⟩
  · cases hl : leapB y with
    | true => exact ⟨1, by decide, rfl, .inl ⟨rfl, rfl, by simp [dim, lp_t hl, lens]⟩, by decide, by decide⟩
    | false => exact ⟨1, by decide, rfl, .inr ⟨.inr rfl, by simp [dim, lp_f hl, lens]⟩, by decide, by decide⟩
  · exact ⟨2, by decide, rfl, .inr ⟨.inl (by decide), rfl⟩, by decide, by decide⟩
  · exact ⟨3, by decide, rfl, .inr ⟨.inl (by decide), rfl⟩, by decide, by decide⟩
  · exact ⟨4, by decide, rfl, .inr ⟨.inl (by decide), rfl⟩, by decide, by decide⟩
  · exact ⟨5, by decide, rfl, .inr ⟨.inl (by decide), rfl⟩, by decide, by decide⟩
  · exact ⟨6, by decide, rfl, .inr ⟨.inl (by decide), rfl⟩, by decide, by decide⟩
  · exact ⟨7, by decide, rfl, .inr ⟨.inl (by decide), rfl⟩, by decide, by decide⟩
  · exact ⟨8, by decide, rfl, .inr ⟨.inl (by decide), rfl⟩, by decide, by decide⟩
  · exact ⟨9, by decide, rfl, .inr ⟨.inl (by decide), rfl⟩, by decide, by decide⟩
  · exact ⟨10, by decide, rfl, .inr ⟨.inl (by decide), rfl⟩, by decide, by decide⟩
  · exact ⟨11, by decide, rfl, .inr ⟨.inl (by decide), rfl⟩, by decide, by decide⟩

end Go.Proofs.Ytgccipmeiceonaa
