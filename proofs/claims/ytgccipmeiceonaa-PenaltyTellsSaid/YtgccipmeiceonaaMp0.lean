/-
  Merged: DateA, DateB, DateC.
-/
import Derived.Test.YtgccipmeiceonaaBase
import Derived.Test.YtgccipmeiceonaaDateMath
-- DateA
namespace Go.Proofs.Ytgccipmeiceonaa
open Go.RowKit
set_option linter.unusedVariables false

/-- what the variable 'lengths' holds -/
def lens : List Int := [31, 28, 31, 30, 31, 30, 31, 31, 30, 31, 30, 31]
theorem ret_bool {a b : Bool} (h : a = b) : Ending.returned (.bool a) = .returned (.bool b) := by rw [h]

theorem isDay_t (y : Int) (h1 : 0 ≤ y) (h2 : y ≤ 3652058) (w : World) :
    Calls Try.prog 160 #[.int .i64 y] w fun e w' => e = .returned (.bool true) ∧ w = w' := by
  go_enter Try.func160, Try.ntmps160
  go_wp2
  go_ret
  exact ⟨rfl, rfl⟩
theorem isDay_f (y : Int) (h : y < 0 ∨ 3652058 < y) (w : World) :
    Calls Try.prog 160 #[.int .i64 y] w fun e w' => e = .returned (.bool false) ∧ w = w' := by
  rcases h with h | h
  · go_enter Try.func160, Try.ntmps160
    go_wp2
    go_ret
    exact ⟨rfl, rfl⟩
  · have h' : 0 ≤ y := by omega
    go_enter Try.func160, Try.ntmps160
    go_wp2
    go_ret
    exact ⟨ret_bool (decide_eq_false (by omega)), rfl⟩

theorem lens_dim (y : Int) {m : Int} (h1 : 1 ≤ m) (h2 : m ≤ 12) : ∃ j : Nat, j < 12 ∧ m = (j : Int) + 1 ∧ ((m = 2 ∧ leapB y = true ∧ dim y m = lens.getD j 0 + 1) ∨ ((m ≠ 2 ∨ leapB y = false) ∧ dim y m = lens.getD j 0)) ∧ 28 ≤ lens.getD j 0 ∧ lens.getD j 0 ≤ 31 := by
  rcases m12 h1 h2 with h | h | h | h | h | h | h | h | h | h | h | h <;> subst h
  · exact ⟨0, by decide, rfl, .inr ⟨.inl (by decide), rfl⟩, by decide, by decide⟩
  · cases hl : leapB y with
    | true => exact ⟨1, by decide, rfl, .inl ⟨rfl, rfl, by simp [dim, lp_t hl, lens]⟩, by decide, by decide⟩
    | false => exact ⟨1, by decide, rfl, .inr ⟨.inr rfl, by simp [dim, lp_f hl, lens]⟩, by decide, by decide⟩
  · exact ⟨2, by decide, rfl, .inr ⟨.inl (by decide), rfl⟩, by decide, by decide⟩
  · exact ⟨3, by decide, rfl, .inr ⟨.inl (by decide), rfl⟩, by decide, by decide⟩
  · exact ⟨4, by decide, rfl, .inr ⟨.inl (by decide), rfl⟩, by decide, by decide⟩
  · exact ⟨5, by decide, rfl, .inr ⟨.inl (by decide), rfl⟩, by decide, by decide⟩
  · exact ⟨6, by decide, rfl, .inr ⟨.inl (by decide), rfl⟩, by decide, by decide⟩
  · exact ⟨7, by decide, rfl, .inr ⟨.inl (by decide), rfl⟩, by decide, by decide⟩
  · exact ⟨8, by decide, rfl, .inr ⟨.inl (by decide), rfl⟩, by decide, by decide⟩
  · exact ⟨9, by decide, rfl, .inr ⟨.inl (by decide), rfl⟩, by decide, by decide⟩
  · exact ⟨10, by decide, rfl, .inr ⟨.inl (by decide), rfl⟩, by decide, by decide⟩
  · exact ⟨11, by decide, rfl, .inr ⟨.inl (by decide), rfl⟩, by decide, by decide⟩

end Go.Proofs.Ytgccipmeiceonaa

-- DateB
namespace Go.Proofs.Ytgccipmeiceonaa
open Go.RowKit
set_option linter.unusedVariables false

theorem ret_tup4 {a b c d e f g h : Int} {k1 k2 k3 k4 : IntKind} (h1 : a = b) (h2 : c = d) (h3 : e = f) (h4 : g = h) : Ending.returned (.tuple #[.int k1 a, .int k2 c, .int k3 e, .int k4 g]) = .returned (.tuple #[.int k1 b, .int k2 d, .int k3 f, .int k4 h]) := by rw [h1, h2, h3, h4]

theorem week_ok (n : Int) (h0 : 0 ≤ n) (h1 : n ≤ 3652058) (w : World) :
    Calls Try.prog 143 #[.int .i64 n] w fun e w' => e = .returned (.tuple #[.int .i64 (n % 7), .int .i64 0]) ∧ w = w' := by
  go_enter Try.func143, Try.ntmps143
  go_wp2_with (go_at_call 160; (with_reducible refine (isDay_t _ h0 h1 _).mono ?_); rintro e w' ⟨rfl, rfl⟩)
  go_ret2
  exact ⟨rfl, rfl⟩
theorem week_no (n : Int) (h : n < 0 ∨ 3652058 < n) (w : World) :
    Calls Try.prog 143 #[.int .i64 n] w fun e w' => e = .returned (.tuple #[.int .i64 0, .int .i64 3]) ∧ w = w' := by
  have H := Lib.hid h; clear h
  go_enter Try.func143, Try.ntmps143
  go_wp2_with (go_at_call 160; (with_reducible refine (isDay_f _ H.out _).mono ?_); rintro e w' ⟨rfl, rfl⟩)
  go_ret2
  exact ⟨rfl, rfl⟩

/-- each number from 0 to 3652058 is a date's -/
theorem num_onto (n : Int) (h0 : 0 ≤ n) (h1 : n ≤ 3652058) : ∃ y m d : Int, vldB y m d = true ∧ num y m d = n := by
  obtain ⟨s1, s2, s3, s4⟩ := yearOf_spec h0 h1 rfl rfl rfl rfl rfl rfl
  generalize 400 * (n / 146097) + 100 * min (n % 146097 / 36524) 3 + 4 * ((n % 146097 - min (n % 146097 / 36524) 3 * 36524) / 1461) + min ((n % 146097 - min (n % 146097 / 36524) 3 * 36524) % 1461 / 365) 3 + 1 = y at s1 s2 s3 s4
  rw [yd_succ] at s4
  have hm : ∃ m : Int, 1 ≤ m ∧ m ≤ 12 ∧ cum y m ≤ n - yd y ∧ n - yd y < cum y m + dim y m := by
    have lb := lp_01 y
    have step : ∀ m : Int, 1 ≤ m → m ≤ 12 → cum y m ≤ n - yd y → (n - yd y < cum y m + dim y m) ∨ cum y (m + 1) ≤ n - yd y := by
      intro m a b c
      rw [cum_succ y a b]
      omega
    have go : ∀ k : Nat, k ≤ 12 → (∃ m : Int, 1 ≤ m ∧ m ≤ 12 ∧ cum y m ≤ n - yd y ∧ n - yd y < cum y m + dim y m) ∨ cum y ((k : Int) + 1) ≤ n - yd y := by
      intro k
      induction k with
      | zero => intro _; right; show cum y (0 + 1) ≤ _; rw [Int.zero_add, cum_one]; omega
      | succ k ih =>
        intro hk
        rcases ih (by omega) with h | h
        · exact .inl h
        · rcases step ((k : Int) + 1) (by omega) (by omega) h with g | g
          · exact .inl ⟨_, by omega, by omega, h, g⟩
          · right; rw [show ((k + 1 : Nat) : Int) + 1 = (k : Int) + 1 + 1 by omega]; exact g
    rcases go 12 (by omega) with h | h
    · exact h
    · rw [show (((12 : Nat) : Int) + 1) = 13 by rfl, cum_13] at h; omega
  obtain ⟨m, m1, m2, m3, m4⟩ := hm
  exact ⟨y, m, n - yd y - cum y m + 1, vld_mk ⟨s1, s2, m1, m2, by omega, by omega⟩, by unfold num; omega⟩

end Go.Proofs.Ytgccipmeiceonaa

-- DateC
namespace Go.Proofs.Ytgccipmeiceonaa
open Go.RowKit
set_option linter.unusedVariables false

/-- the month that lies so many months behind -/
def mth (y m many : Int) : Int := (y - 1) * 12 + m - 1 + many
def mthB (y m many : Int) : Bool := decide (-120000 ≤ many ∧ many ≤ 120000 ∧ 0 ≤ mth y m many ∧ mth y m many < 119988)
/-- the day of that month -/
def mthN (y m d many : Int) : Int := num (mth y m many / 12 + 1) (mth y m many % 12 + 1) (min d (dim (mth y m many / 12 + 1) (mth y m many % 12 + 1)))
theorem mth_t {y m many : Int} (h : mthB y m many = true) : -120000 ≤ many ∧ many ≤ 120000 ∧ 0 ≤ mth y m many ∧ mth y m many < 119988 := of_decide_eq_true h
theorem mth_f {y m many : Int} (h : mthB y m many = false) : ¬ (-120000 ≤ many ∧ many ≤ 120000 ∧ 0 ≤ mth y m many ∧ mth y m many < 119988) := of_decide_eq_false h
theorem mth_vld {y m d many : Int} (hv : vldB y m d = true) (h : mthB y m many = true) :
    vldB (mth y m many / 12 + 1) (mth y m many % 12 + 1) (min d (dim (mth y m many / 12 + 1) (mth y m many % 12 + 1))) = true := by
  obtain ⟨v1, v2, v3, v4, v5, v6⟩ := vld_t hv
  obtain ⟨m1, m2, m3, m4⟩ := mth_t h
  have := dim_bd (mth y m many / 12 + 1) (mth y m many % 12 + 1)
  exact vld_mk ⟨by omega, by omega, by omega, by omega, by omega, by omega⟩

theorem begun_week (w : World) : Calls Try.prog 143 #[.int .i64 739935] w fun e w' => e = .returned (.tuple #[.int .i64 0, .int .i64 0]) ∧ w = w' := week_ok 739935 (by decide) (by decide) w
end Go.Proofs.Ytgccipmeiceonaa
