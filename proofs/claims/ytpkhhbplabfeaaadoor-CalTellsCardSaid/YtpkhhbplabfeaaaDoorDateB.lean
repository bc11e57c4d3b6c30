/-
  What Leap, From, Of, Week and Months of package date do: contracts.
-/
import Derived.Test.YtpkhhbplabfeaaaDoorDateA
namespace Go.Proofs.YtpkhhbplabfeaaaDoor
open Go.RowKit
set_option linter.unusedVariables false

theorem ret_tup4 {a b c d e f g h : Int} {k1 k2 k3 k4 : IntKind} (h1 : a = b) (h2 : c = d) (h3 : e = f) (h4 : g = h) : Ending.returned (.tuple #[.int k1 a, .int k2 c, .int k3 e, .int k4 g]) = .returned (.tuple #[.int k1 b, .int k2 d, .int k3 f, .int k4 h]) := by rw [h1, h2, h3, h4]

set_option maxHeartbeats 400000 in
theorem of_at (y m d n : Int) (hv : vldB y m d = true) (hN : num y m d = n) (w : World) (ht : Tab w) :
    Calls Tryd.prog 34 #[.int .i64 n] w fun e w' => e = .returned (.tuple #[.int .i64 y, .int .i64 m, .int .i64 d, .int .i64 0]) ∧ w = w' := by
  have nb := num_bd hv
  rw [hN] at nb
  obtain ⟨n0, n1⟩ := nb
  obtain ⟨v1, v2, v3, v4, v5, v6⟩ := vld_t hv
  have yb := yd_bd v1 (show y ≤ 10000 by omega)
  have cb := cum_bd y v3 v4
  have lb := lp_01 y
  have hs := yd_succ y
  have hN' : n = yd y + cum y m + (d - 1) := by rw [← hN]; rfl
  have a1 : yd y ≤ n := by omega
  have a2 : n < yd (y + 1) := by omega
  have HN := Lib.hid hN'
  have db := dim_bd y m
  have r0 : 0 ≤ n - yd y ∧ n - yd y ≤ 365 := by omega
  have HT := Lib.hid ht
  clear ht hv hN hs hN'
  go_enter Tryd.func34, Tryd.ntmps34
  go_wp2_with (first
    | (go_at_call 39; (with_reducible refine (isDay_t _ n0 n1 _).mono ?_); rintro e w' ⟨rfl, rfl⟩)
    | (go_at_call 40; (with_reducible refine (yearOf_any _ y n0 n1 a1 a2 _).mono ?_); rintro e w' ⟨rfl, rfl⟩)
    | (go_at_call 41; (with_reducible refine (daysBefore_any _ v1 (by omega) _).mono ?_); rintro e w' ⟨rfl, rfl⟩))
  go_loop [7, 8] (fun i r => ∃ k : Int, 1 ≤ k ∧ k ≤ m ∧ i = .int .i64 k ∧ r = .int .i64 (n - yd y - cum y k)) (fun i _ => (m - intOf i).toNat)
  case atStart => exact ⟨1, by omega, by omega, rfl, by rw [cum_one, Int.sub_zero]⟩
  case round =>
    obtain ⟨k, k1, k2, rfl, rfl⟩ := hrel
    have ck := cum_bd y k1 (by omega)
    have dk := dim_bd y k
    by_cases hlt : k < m
    · have cs := Lib.hid (cum_succ y k1 (by omega))
      have cl := cum_lt y k1 hlt (by omega)
      have ge : dim y k ≤ n - yd y - cum y k := by have := HN.out; omega
      go_wp2_with (go_at_call 42; (with_reducible refine (monthDays_any _ _ v1 v2 k1 (by omega) _ HT.out).mono ?_); rintro e w' ⟨rfl, rfl⟩)
      go_round
      case rel => exact ⟨k + 1, by omega, by omega, rfl, by rw [cs.out]; go_num⟩
      case measure => simp [intOf]; omega
    · obtain rfl : k = m := by omega
      have lt : n - yd y - cum y k < dim y k := by have := HN.out; omega
      have g0 : 0 ≤ n - yd y - cum y k := by have := HN.out; omega
      go_wp2_with (go_at_call 42; (with_reducible refine (monthDays_any _ _ v1 v2 k1 (by omega) _ HT.out).mono ?_); rintro e w' ⟨rfl, rfl⟩)
      refine bodyPost_ret (v := .tuple #[.int .i64 y, .int .i64 k, .int .i64 (n - yd y - cum y k + 1), .int .i64 0]) (by simp [results, Tryd.results34, go_sem]) rfl ?_
      exact ⟨ret_tup4 rfl rfl (by have := HN.out; omega) rfl, rfl⟩

theorem of_no (n : Int) (h : n < 0 ∨ 3652058 < n) (w : World) :
    Calls Tryd.prog 34 #[.int .i64 n] w fun e w' => e = .returned (.tuple #[.int .i64 0, .int .i64 0, .int .i64 0, .int .i64 3]) ∧ w = w' := by
  have H := Lib.hid h; clear h
  go_enter Tryd.func34, Tryd.ntmps34
  go_wp2_with (go_at_call 39; (with_reducible refine (isDay_f _ H.out _).mono ?_); rintro e w' ⟨rfl, rfl⟩)
  refine bodyPost_ret (v := .tuple #[.int .i64 0, .int .i64 0, .int .i64 0, .int .i64 3]) (by simp [results, Tryd.results34, go_sem]) rfl ?_
  exact ⟨rfl, rfl⟩

theorem week_ok (n : Int) (h0 : 0 ≤ n) (h1 : n ≤ 3652058) (w : World) :
    Calls Tryd.prog 33 #[.int .i64 n] w fun e w' => e = .returned (.tuple #[.int .i64 (n % 7), .int .i64 0]) ∧ w = w' := by
  go_enter Tryd.func33, Tryd.ntmps33
  go_wp2_with (go_at_call 39; (with_reducible refine (isDay_t _ h0 h1 _).mono ?_); rintro e w' ⟨rfl, rfl⟩)
  go_ret2
  exact ⟨rfl, rfl⟩
theorem week_no (n : Int) (h : n < 0 ∨ 3652058 < n) (w : World) :
    Calls Tryd.prog 33 #[.int .i64 n] w fun e w' => e = .returned (.tuple #[.int .i64 0, .int .i64 3]) ∧ w = w' := by
  have H := Lib.hid h; clear h
  go_enter Tryd.func33, Tryd.ntmps33
  go_wp2_with (go_at_call 39; (with_reducible refine (isDay_f _ H.out _).mono ?_); rintro e w' ⟨rfl, rfl⟩)
  go_ret2
  exact ⟨rfl, rfl⟩

/-- each number from 0 to 3652058 is a date's -/
theorem num_onto (n : Int) (h0 : 0 ≤ n) (h1 : n ≤ 3652058) : ∃ y m d : Int, vldB y m d = true ∧ num y m d = n := by
  obtain ⟨s1, s2, s3, s4⟩ := yearOf_spec h0 h1 rfl rfl rfl rfl rfl rfl
  generalize 400 * (n / 146097) + 100 * min (n % 146097 / 36524) 3 + 4 * ((n % 146097 - min (n % 146097 / 36524) 3 * 36524) / 1461) + min ((n % 146097 - min (n % 146097 / 36524) 3 * 36524) % 1461 / 365) 3 + 1 = y at s1 s2 s3 s4
  rw [yd_succ] at s4
  have hm : ∃ m : Int, 1 ≤ m ∧ m ≤ 12 ∧ cum y m ≤ n - yd y ∧ n - yd y < cum y m + dim y m := by
    have lb := lp_01 y
    have step : ∀ m : Int, 1 ≤ m → m ≤ 12 → cum y m ≤ n - yd y → (n - yd y < cum y m + dim y m) ∨ cum y (m + 1) ≤ n - yd y := by
      intro m a b c
      rw [cum_succ y a b]
      omega
    have go : ∀ k : Nat, k ≤ 12 → (∃ m : Int, 1 ≤ m ∧ m ≤ 12 ∧ cum y m ≤ n - yd y ∧ n - yd y < cum y m + dim y m) ∨ cum y ((k : Int) + 1) ≤ n - yd y := by
      intro k
      induction k with
      | zero => intro _; right; show cum y (0 + 1) ≤ _; rw [Int.zero_add, cum_one]; omega
      | succ k ih =>
        intro hk
        rcases ih (by omega) with h | h
        · exact .inl h
        · rcases step ((k : Int) + 1) (by omega) (by omega) h with g | g
          · exact .inl ⟨_, by omega, by omega, h, g⟩
          · right; rw [show ((k + 1 : Nat) : Int) + 1 = (k : Int) + 1 + 1 by omega]; exact g
    rcases go 12 (by omega) with h | h
    · exact h
    · rw [show (((12 : Nat) : Int) + 1) = 13 by rfl, cum_13] at h; omega
  obtain ⟨m, m1, m2, m3, m4⟩ := hm
  exact ⟨y, m, n - yd y - cum y m + 1, vld_mk ⟨s1, s2, m1, m2, by omega, by omega⟩, by unfold num; omega⟩

end Go.Proofs.YtpkhhbplabfeaaaDoor
