/-
  What Prices of package penalty answers.
-/
import Derived.Test.YtklaojahocjeiaaCost
namespace Go.Proofs.Ytklaojahocjeiaa
open Go.RowKit
set_option linter.unusedVariables false

/-- the first error of two -/
def orE (a b : Int) : Int := if a = 0 then b else a
theorem orE_0 {a b : Int} (h : orE a b = 0) : a = 0 ∧ b = 0 := by
  unfold orE at h
  by_cases h0 : a = 0
  · rw [if_pos h0] at h; exact ⟨h0, h⟩
  · rw [if_neg h0] at h; exact absurd h h0
theorem orE_l {a : Int} (b : Int) (h : a ≠ 0) : orE a b = a := by unfold orE; rw [if_neg h]
theorem orE_r {a b : Int} (h : a = 0) : orE a b = b := by unfold orE; rw [if_pos h]
def prsL : List Int → Int
  | [] => 0
  | p :: ps => if prcB p = true then prsL ps else 3
/-- the error of prices -/
def prsE (ps : List Int) : Int := if ps.length = 20 then prsL ps else 1
theorem prs_0 {ps : List Int} (h : prsL ps = 0) : ∀ p ∈ ps, prcB p = true := by
  induction ps with
  | nil => intro l hl; cases hl
  | cons t ts ih =>
    unfold prsL at h
    split at h
    · next h1 =>
      intro l hl
      rcases List.mem_cons.1 hl with rfl | hl
      · exact h1
      · exact ih h l hl
    · next h1 => omega
theorem prs_bd (ps : List Int) : prsL ps = 0 ∨ prsL ps = 3 := by
  induction ps with
  | nil => exact .inl rfl
  | cons t ts ih =>
    unfold prsL
    split
    · exact ih
    · exact .inr rfl
theorem drop_atI {ps : List Int} {k : Nat} (h : k < ps.length) : ps.drop k = ps.getD k 0 :: ps.drop (k + 1) := by
  rw [List.drop_eq_getElem_cons h, List.getD_eq_getElem?_getD, List.getElem?_eq_getElem h]; rfl


end Go.Proofs.Ytklaojahocjeiaa
