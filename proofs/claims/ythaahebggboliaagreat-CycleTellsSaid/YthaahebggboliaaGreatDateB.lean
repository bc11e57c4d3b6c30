/-
  What Leap, From, Of, Week and Months of package date do: contracts.
-/
import Derived.Test.YthaahebggboliaaGreatDateA
namespace Go.Proofs.YthaahebggboliaaGreat
open Go.RowKit
set_option linter.unusedVariables false

theorem ret_tup4 {a b c d e f g h : Int} {k1 k2 k3 k4 : IntKind} (h1 : a = b) (h2 : c = d) (h3 : e = f) (h4 : g = h) : Ending.returned (.tuple #[.int k1 a, .int k2 c, .int k3 e, .int k4 g]) = .returned (.tuple #[.int k1 b, .int k2 d, .int k3 f, .int k4 h]) := by rw [h1, h2, h3, h4]

theorem week_ok (n : Int) (h0 : 0 ≤ n) (h1 : n ≤ 3652058) (w : World) :
    Calls Tryz.prog 55 #[.int .i64 n] w fun e w' => e = .returned (.tuple #[.int .i64 (n % 7), .int .i64 0]) ∧ w = w' := by
  go_enter Tryz.func55, Tryz.ntmps55
  go_wp2_with (go_at_call 103; (with_reducible refine (isDay_t _ h0 h1 _).mono ?_); rintro e w' ⟨rfl, rfl⟩)
  go_ret2
  exact ⟨rfl, rfl⟩
theorem week_no (n : Int) (h : n < 0 ∨ 3652058 < n) (w : World) :
    Calls Tryz.prog 55 #[.int .i64 n] w fun e w' => e = .returned (.tuple #[.int .i64 0, .int .i64 3]) ∧ w = w' := by
  have H := Lib.hid h; clear h
  go_enter Tryz.func55, Tryz.ntmps55
  go_wp2_with (go_at_call 103; (with_reducible refine (isDay_f _ H.out _).mono ?_); rintro e w' ⟨rfl, rfl⟩)
  go_ret2
  exact ⟨rfl, rfl⟩

/-- each number from 0 to 3652058 is a date's -/
theorem num_onto (n : Int) (h0 : 0 ≤ n) (h1 : n ≤ 3652058) : ∃ y m d : Int, vldB y m d = true ∧ num y m d = n := by
  obtain ⟨s1, s2, s3, s4⟩ := yearOf_spec h0 h1 rfl rfl rfl rfl rfl rfl
  generalize 400 * (n / 146097) + 100 * min (n % 146097 / 36524) 3 + 4 * ((n % 146097 - min (n % 146097 / 36524) 3 * 36524) / 1461) + min ((n % 146097 - min (n % 146097 / 36524) 3 * 36524) % 1461 / 365) 3 + 1 = y at s1 s2 s3 s4
  rw [yd_succ] at s4
  have hm : ∃ m : Int, 1 ≤ m ∧ m ≤ 12 ∧ cum y m ≤ n - yd y ∧ n - yd y < cum y m + dim y m := by
    have lb := lp_01 y
    have step : ∀ m : Int, 1 ≤ m → m ≤ 12 → cum y m ≤ n - yd y → (n - yd y < cum y m + dim y m) ∨ cum y (m + 1) ≤ n - yd y := by
      intro m a b c
      rw [cum_succ y a b]
      omega
    have go : ∀ k : Nat, k ≤ 12 → (∃ m : Int, 1 ≤ m ∧ m ≤ 12 ∧ cum y m ≤ n - yd y ∧ n - yd y < cum y m + dim y m) ∨ cum y ((k : Int) + 1) ≤ n - yd y := by
      intro k
      induction k with
      | zero => intro _; right; show cum y (0 + 1) ≤ _; rw [Int.zero_add, cum_one]; omega
      | succ k ih =>
        intro hk
        rcases ih (by omega) with h | h
        · exact .inl h
        · rcases step ((k : Int) + 1) (by omega) (by omega) h with g | g
          · exact .inl ⟨_, by omega, by omega, h, g⟩
          · right; rw [show ((k + 1 : Nat) : Int) + 1 = (k : Int) + 1 + 1 by omega]; exact g
    rcases go 12 (by omega) with h | h
    · exact h
    · rw [show (((12 : Nat) : Int) + 1) = 13 by rfl, cum_13] at h; omega
  obtain ⟨m, m1, m2, m3, m4⟩ := hm
  exact ⟨y, m, n - yd y - cum y m + 1, vld_mk ⟨s1, s2, m1, m2, by omega, by omega⟩, by unfold num; omega⟩

end Go.Proofs.YthaahebggboliaaGreat
