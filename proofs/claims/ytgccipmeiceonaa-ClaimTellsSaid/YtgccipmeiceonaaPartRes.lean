/-
  What a call of Part answers, as one of two: it went well, or it did not.
-/
import Derived.Test.YtgccipmeiceonaaPart2
namespace Go.Proofs.Ytgccipmeiceonaa
open Go.RowKit
set_option linter.unusedVariables false

def PartOk (a b c q r : Int) : Prop := ∀ w, Calls Try.prog 49 #[.int .i64 a, .int .i64 b, .int .i64 c] w fun e w' => e = .returned (.tuple #[.int .i64 q, .int .i64 r, .int .i64 0]) ∧ Grew w w'
def PartErr (a b c E : Int) : Prop := ∀ w, Calls Try.prog 49 #[.int .i64 a, .int .i64 b, .int .i64 c] w fun e w' => e = .returned (.tuple #[.int .i64 0, .int .i64 0, .int .i64 E]) ∧ Grew w w'
theorem PartOk.run {a b c q r : Int} (h : PartOk a b c q r) (w : World) : Calls Try.prog 49 #[.int .i64 a, .int .i64 b, .int .i64 c] w fun e w' => e = .returned (.tuple #[.int .i64 q, .int .i64 r, .int .i64 0]) ∧ Grew w w' := h w
theorem PartErr.run {a b c E : Int} (h : PartErr a b c E) (w : World) : Calls Try.prog 49 #[.int .i64 a, .int .i64 b, .int .i64 c] w fun e w' => e = .returned (.tuple #[.int .i64 0, .int .i64 0, .int .i64 E]) ∧ Grew w w' := h w
theorem part_res (a b c : Int) : (amtB a = true ∧ rngB b c = true ∧ amtB (a * b / c) = true ∧ PartOk a b c (a * b / c) (a * b % c)) ∨ ∃ E, 1 ≤ E ∧ E ≤ 8 ∧ PartErr a b c E ∧ ((E = 3 ∧ (amtB a = false ∨ rngB b c = false)) ∨ (E = 8 ∧ amtB a = true ∧ rngB b c = true ∧ amtB (a * b / c) = false)) := by
  cases ha : amtB a with
  | false => exact .inr ⟨3, by omega, by omega, fun w => part_no a b c ha w, .inl ⟨rfl, .inl rfl⟩⟩
  | true =>
    cases hr : rngB b c with
    | false => exact .inr ⟨3, by omega, by omega, fun w => part_rng a b c ha hr w, .inl ⟨rfl, .inr rfl⟩⟩
    | true =>
      cases hq : amtB (a * b / c) with
      | false => exact .inr ⟨8, by omega, by omega, fun w => part_wide a b c ha hr hq w, .inr ⟨rfl, rfl, rfl, rfl⟩⟩
      | true => exact .inl ⟨rfl, rfl, rfl, fun w => part_ok a b c ha hr hq w⟩
/-- what a call of Part hands back, whatever it is -/
def PartAny (a b c q r E : Int) : Prop := ∀ w, Calls Try.prog 49 #[.int .i64 a, .int .i64 b, .int .i64 c] w fun e w' => e = .returned (.tuple #[.int .i64 q, .int .i64 r, .int .i64 E]) ∧ Grew w w'
theorem PartAny.run {a b c q r E : Int} (h : PartAny a b c q r E) (w : World) : Calls Try.prog 49 #[.int .i64 a, .int .i64 b, .int .i64 c] w fun e w' => e = .returned (.tuple #[.int .i64 q, .int .i64 r, .int .i64 E]) ∧ Grew w w' := h w
theorem part_some (a b c : Int) : ∃ q r E, PartAny a b c q r E ∧ 0 ≤ E ∧ E ≤ 8 ∧ ((E = 0 ∧ amtB a = true ∧ rngB b c = true ∧ amtB q = true ∧ q = a * b / c ∧ r = a * b % c) ∨ (1 ≤ E ∧ q = 0 ∧ r = 0)) := by
  rcases part_res a b c with ⟨ha, hr, hq, h⟩ | ⟨E, h1, h8, h, -⟩
  · exact ⟨_, _, 0, h, by omega, by omega, .inl ⟨rfl, ha, hr, hq, rfl, rfl⟩⟩
  · exact ⟨0, 0, E, h, by omega, by omega, .inr ⟨h1, rfl, rfl⟩⟩
/-- the quotient and the rest, told apart from how they are reckoned -/
theorem parts_of {n c : Int} (hc : 1 ≤ c) : n / c * c + n % c = n ∧ 0 ≤ n % c ∧ n % c < c := by
  have h := Int.mul_ediv_add_emod n c
  rw [Int.mul_comm] at h
  exact ⟨h, Int.emod_nonneg _ (by omega), Int.emod_lt_of_pos _ (by omega)⟩
theorem div_amt {n c : Int} (hc : 1 ≤ c) (h1 : -1152921504606846976 ≤ n) (h2 : n ≤ 1152921504606846976) : amtB (n / c) = true := by
  refine amt_mk ?_ ?_
  · by_cases h : 0 ≤ n
    · have := Int.ediv_nonneg h (show 0 ≤ c by omega); omega
    · have h3 : n / c * c + n % c = n := (parts_of hc).1
      have h4 := (parts_of (n := n) hc).2
      have h5 : n ≤ n / c := by
        have : (n / c + 1) * c ≥ (n + 1) := by rw [Int.add_mul, Int.one_mul]; omega
        rcases Int.lt_or_le (n / c) n with q | q
        · exfalso
          have : (n / c + 1) * c ≤ n / c + 1 := by
            have h6 : n / c + 1 ≤ 0 := by omega
            have := Int.mul_le_mul_of_nonpos_left h6 hc
            omega
          omega
        · exact q
      omega
  · by_cases h : 0 ≤ n
    · have := Int.ediv_le_self c h; omega
    · have := Int.ediv_neg_of_neg_of_pos (show n < 0 by omega) (show 0 < c by omega); omega

end Go.Proofs.Ytgccipmeiceonaa
