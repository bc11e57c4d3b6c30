/-
  What a call of Near answers.
-/
import Derived.Test.YtgkhcjnehmfgiaaParts
namespace Go.Proofs.Ytgkhcjnehmfgiaa
open Go.RowKit
set_option linter.unusedVariables false
/-- what a call of Near hands back, whatever it is -/
def NearAny (a b c n E : Int) : Prop := ∀ w, Calls Try.prog 12 #[.int .i64 a, .int .i64 b, .int .i64 c] w fun e w' => e = .returned (.tuple #[.int .i64 n, .int .i64 E]) ∧ Grew w w'
theorem NearAny.run {a b c n E : Int} (h : NearAny a b c n E) (w : World) : Calls Try.prog 12 #[.int .i64 a, .int .i64 b, .int .i64 c] w fun e w' => e = .returned (.tuple #[.int .i64 n, .int .i64 E]) ∧ Grew w w' := h w
/-- Near beside Part -/
theorem near_res (a b c : Int) : (amtB a = true ∧ rngB b c = true ∧ amtB (a * b / c) = true ∧ PartOk a b c (a * b / c) (a * b % c) ∧ ((amtB (nearOf (a * b / c) (a * b % c) c) = true ∧ NearAny a b c (nearOf (a * b / c) (a * b % c) c) 0) ∨ (amtB (nearOf (a * b / c) (a * b % c) c) = false ∧ NearAny a b c 0 8))) ∨
    ∃ E, 1 ≤ E ∧ E ≤ 8 ∧ PartErr a b c E ∧ NearAny a b c 0 E ∧ ((E = 3 ∧ (amtB a = false ∨ rngB b c = false)) ∨ (E = 8 ∧ amtB a = true ∧ rngB b c = true ∧ amtB (a * b / c) = false)) := by
  rcases part_res a b c with ⟨ha, hr, hq, r1⟩ | ⟨E, hE, hE8, r1, hw⟩
  · have hr' := rng_t hr
    obtain ⟨-, p2, p3⟩ := parts_of (n := a * b) (c := c) (by omega)
    refine .inl ⟨ha, hr, hq, r1, ?_⟩
    cases hn : amtB (nearOf (a * b / c) (a * b % c) c) with
    | true => exact .inl ⟨rfl, near_ok a b c _ _ r1 hq p2 p3 (by omega) hn⟩
    | false => exact .inr ⟨rfl, near_wide a b c _ _ r1 hq p2 p3 (by omega) hn⟩
  · exact .inr ⟨E, hE, hE8, r1, near_err a b c E r1 hE, hw⟩
theorem near_some (a b c : Int) : ∃ n E, NearAny a b c n E ∧ 0 ≤ E ∧ E ≤ 8 ∧ ((E = 0 ∧ rngB b c = true ∧ n = nearOf (a * b / c) (a * b % c) c) ∨ (1 ≤ E ∧ n = 0)) := by
  rcases near_res a b c with ⟨_, hr, _, _, ⟨_, h⟩ | ⟨_, h⟩⟩ | ⟨E, h1, h8, _, h, _⟩
  · exact ⟨_, 0, h, by omega, by omega, .inl ⟨rfl, hr, rfl⟩⟩
  · exact ⟨0, 8, h, by omega, by omega, .inr ⟨by omega, rfl⟩⟩
  · exact ⟨0, E, h, by omega, by omega, .inr ⟨h1, rfl⟩⟩

end Go.Proofs.Ytgkhcjnehmfgiaa
