/-
  What Months of package date does, and what must be of days in any case: contracts.
-/
import Derived.Test.YthaahebggboliaaGreatDateB
namespace Go.Proofs.YthaahebggboliaaGreat
open Go.RowKit
set_option linter.unusedVariables false

/-- the month that lies so many months behind -/
def mth (y m many : Int) : Int := (y - 1) * 12 + m - 1 + many
def mthB (y m many : Int) : Bool := decide (-120000 ≤ many ∧ many ≤ 120000 ∧ 0 ≤ mth y m many ∧ mth y m many < 119988)
/-- the day of that month -/
def mthN (y m d many : Int) : Int := num (mth y m many / 12 + 1) (mth y m many % 12 + 1) (min d (dim (mth y m many / 12 + 1) (mth y m many % 12 + 1)))
theorem mth_t {y m many : Int} (h : mthB y m many = true) : -120000 ≤ many ∧ many ≤ 120000 ∧ 0 ≤ mth y m many ∧ mth y m many < 119988 := of_decide_eq_true h
theorem mth_f {y m many : Int} (h : mthB y m many = false) : ¬ (-120000 ≤ many ∧ many ≤ 120000 ∧ 0 ≤ mth y m many ∧ mth y m many < 119988) := of_decide_eq_false h
theorem mth_vld {y m d many : Int} (hv : vldB y m d = true) (h : mthB y m many = true) :
    vldB (mth y m many / 12 + 1) (mth y m many % 12 + 1) (min d (dim (mth y m many / 12 + 1) (mth y m many % 12 + 1))) = true := by
  obtain ⟨v1, v2, v3, v4, v5, v6⟩ := vld_t hv
  obtain ⟨m1, m2, m3, m4⟩ := mth_t h
  have := dim_bd (mth y m many / 12 + 1) (mth y m many % 12 + 1)
  exact vld_mk ⟨by omega, by omega, by omega, by omega, by omega, by omega⟩

theorem begun_week (w : World) : Calls Tryz.prog 55 #[.int .i64 739935] w fun e w' => e = .returned (.tuple #[.int .i64 0, .int .i64 0]) ∧ w = w' := week_ok 739935 (by decide) (by decide) w
end Go.Proofs.YthaahebggboliaaGreat
