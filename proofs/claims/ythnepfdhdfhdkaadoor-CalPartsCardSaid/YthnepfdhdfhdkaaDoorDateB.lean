/-
  What Leap, From, Of, Week and Months of package date do: contracts.
-/
import Derived.Test.YthnepfdhdfhdkaaDoorDateA
namespace Go.Proofs.YthnepfdhdfhdkaaDoor
open Go.RowKit
set_option linter.unusedVariables false

theorem leap_ok (y : Int) (h1 : 1 ≤ y) (h2 : y ≤ 9999) (w : World) :
    Calls Tryd.prog 27 #[.int .i64 y] w fun e w' => e = .returned (.tuple #[.bool (leapB y), .int .i64 0]) ∧ w = w' := by
  go_enter Tryd.func27, Tryd.ntmps27
  go_wp2_with (first
    | (go_at_call 38; (with_reducible refine (isYear_t _ h1 h2 _).mono ?_); rintro e w' ⟨rfl, rfl⟩)
    | (go_at_call 39; (with_reducible refine (isLeap_any _ h1 h2 _).mono ?_); rintro e w' ⟨rfl, rfl⟩))
  go_ret2
  exact ⟨rfl, rfl⟩
theorem leap_rng (y : Int) (h : y < 1 ∨ 9999 < y) (w : World) :
    Calls Tryd.prog 27 #[.int .i64 y] w fun e w' => e = .returned (.tuple #[.bool false, .int .i64 3]) ∧ w = w' := by
  have H := Lib.hid h; clear h
  go_enter Tryd.func27, Tryd.ntmps27
  go_wp2_with (go_at_call 38; (with_reducible refine (isYear_f _ H.out _).mono ?_); rintro e w' ⟨rfl, rfl⟩)
  go_ret2
  exact ⟨rfl, rfl⟩

set_option maxHeartbeats 400000 in
theorem from_ok (y m d : Int) (hv : vldB y m d = true) (w : World) (ht : Tab w) :
    Calls Tryd.prog 25 #[.int .i64 y, .int .i64 m, .int .i64 d] w fun e w' => e = .returned (.tuple #[.int .i64 (num y m d), .int .i64 0]) ∧ w = w' := by
  obtain ⟨v1, v2, v3, v4, v5, v6⟩ := vld_t hv
  have db := dim_bd y m
  have yb := yd_bd v1 (show y ≤ 10000 by omega)
  have HT := Lib.hid ht; clear ht
  clear hv
  go_enter Tryd.func25, Tryd.ntmps25
  go_wp2_with (first
    | (go_at_call 38; (with_reducible refine (isYear_t _ v1 v2 _).mono ?_); rintro e w' ⟨rfl, rfl⟩)
    | (go_at_call 32; (with_reducible refine (monthDays_any _ _ v1 v2 v3 v4 _ HT.out).mono ?_); rintro e w' ⟨rfl, rfl⟩)
    | (go_at_call 31; (with_reducible refine (daysBefore_any _ v1 (by omega) _).mono ?_); rintro e w' ⟨rfl, rfl⟩))
  go_loop [8, 9] (fun n i => ∃ k : Int, 1 ≤ k ∧ k ≤ m ∧ i = .int .i64 k ∧ n = .int .i64 (yd y + d - 1 + cum y k)) (fun _ i => (m - intOf i).toNat)
  case atStart => exact ⟨1, by omega, by omega, rfl, by rw [cum_one, Int.add_zero]⟩
  case round =>
    obtain ⟨k, k1, k2, rfl, rfl⟩ := hrel
    have cb := cum_bd y k1 (by omega)
    have lb := lp_01 y
    have dk := dim_bd y k
    by_cases hlt : k < m
    · have cs := Lib.hid (cum_succ y k1 (by omega))
      have c2 := cum_bd y (m := k + 1) (by omega) (by omega)
      go_wp2_with (go_at_call 32; (with_reducible refine (monthDays_any _ _ v1 v2 k1 (by omega) _ HT.out).mono ?_); rintro e w' ⟨rfl, rfl⟩)
      go_round
      case rel => exact ⟨k + 1, by omega, by omega, rfl, by rw [cs.out]; go_num⟩
      case measure => simp [intOf]; omega
    · obtain rfl : k = m := by omega
      go_wp2
      go_ret2
      exact ⟨ret_tup2 (by unfold num; omega) rfl, rfl⟩

theorem from_no (y m d : Int) (hv : vldB y m d = false) (w : World) (ht : Tab w) :
    Calls Tryd.prog 25 #[.int .i64 y, .int .i64 m, .int .i64 d] w fun e w' => e = .returned (.tuple #[.int .i64 0, .int .i64 3]) ∧ w = w' := by
  have hn := vld_f hv
  have HT := Lib.hid ht; clear ht hv
  by_cases a : y < 1 ∨ 9999 < y
  · have H := Lib.hid a; clear a hn
    go_enter Tryd.func25, Tryd.ntmps25
    go_wp2_with (go_at_call 38; (with_reducible refine (isYear_f _ H.out _).mono ?_); rintro e w' ⟨rfl, rfl⟩)
    go_ret2
    exact ⟨rfl, rfl⟩
  · have v1 : 1 ≤ y := by omega
    have v2 : y ≤ 9999 := by omega
    clear a
    by_cases b : m < 1
    · clear hn
      go_enter Tryd.func25, Tryd.ntmps25
      go_wp2_with (go_at_call 38; (with_reducible refine (isYear_t _ v1 v2 _).mono ?_); rintro e w' ⟨rfl, rfl⟩)
      go_ret2
      exact ⟨rfl, rfl⟩
    · by_cases c : 12 < m
      · clear hn
        go_enter Tryd.func25, Tryd.ntmps25
        go_wp2_with (go_at_call 38; (with_reducible refine (isYear_t _ v1 v2 _).mono ?_); rintro e w' ⟨rfl, rfl⟩)
        go_ret2
        exact ⟨rfl, rfl⟩
      · have v3 : 1 ≤ m := by omega
        have v4 : m ≤ 12 := by omega
        clear b c
        by_cases f : d < 1
        · clear hn
          go_enter Tryd.func25, Tryd.ntmps25
          go_wp2_with (go_at_call 38; (with_reducible refine (isYear_t _ v1 v2 _).mono ?_); rintro e w' ⟨rfl, rfl⟩)
          go_ret2
          exact ⟨rfl, rfl⟩
        · have g : dim y m < d := by omega
          clear hn
          have db := dim_bd y m
          go_enter Tryd.func25, Tryd.ntmps25
          go_wp2_with (first
            | (go_at_call 38; (with_reducible refine (isYear_t _ v1 v2 _).mono ?_); rintro e w' ⟨rfl, rfl⟩)
            | (go_at_call 32; (with_reducible refine (monthDays_any _ _ v1 v2 v3 v4 _ HT.out).mono ?_); rintro e w' ⟨rfl, rfl⟩))
          go_ret2
          exact ⟨rfl, rfl⟩

theorem ret_tup4 {a b c d e f g h : Int} {k1 k2 k3 k4 : IntKind} (h1 : a = b) (h2 : c = d) (h3 : e = f) (h4 : g = h) : Ending.returned (.tuple #[.int k1 a, .int k2 c, .int k3 e, .int k4 g]) = .returned (.tuple #[.int k1 b, .int k2 d, .int k3 f, .int k4 h]) := by rw [h1, h2, h3, h4]

set_option maxHeartbeats 400000 in
theorem of_at (y m d n : Int) (hv : vldB y m d = true) (hN : num y m d = n) (w : World) (ht : Tab w) :
    Calls Tryd.prog 14 #[.int .i64 n] w fun e w' => e = .returned (.tuple #[.int .i64 y, .int .i64 m, .int .i64 d, .int .i64 0]) ∧ w = w' := by
  have nb := num_bd hv
  rw [hN] at nb
  obtain ⟨n0, n1⟩ := nb
  obtain ⟨v1, v2, v3, v4, v5, v6⟩ := vld_t hv
  have yb := yd_bd v1 (show y ≤ 10000 by omega)
  have cb := cum_bd y v3 v4
  have lb := lp_01 y
  have hs := yd_succ y
  have hN' : n = yd y + cum y m + (d - 1) := by rw [← hN]; rfl
  have a1 : yd y ≤ n := by omega
  have a2 : n < yd (y + 1) := by omega
  have HN := Lib.hid hN'
  have db := dim_bd y m
  have r0 : 0 ≤ n - yd y ∧ n - yd y ≤ 365 := by omega
  have HT := Lib.hid ht
  clear ht hv hN hs hN'
  go_enter Tryd.func14, Tryd.ntmps14
  go_wp2_with (first
    | (go_at_call 29; (with_reducible refine (isDay_t _ n0 n1 _).mono ?_); rintro e w' ⟨rfl, rfl⟩)
    | (go_at_call 30; (with_reducible refine (yearOf_any _ y n0 n1 a1 a2 _).mono ?_); rintro e w' ⟨rfl, rfl⟩)
    | (go_at_call 31; (with_reducible refine (daysBefore_any _ v1 (by omega) _).mono ?_); rintro e w' ⟨rfl, rfl⟩))
  go_loop [7, 8] (fun i r => ∃ k : Int, 1 ≤ k ∧ k ≤ m ∧ i = .int .i64 k ∧ r = .int .i64 (n - yd y - cum y k)) (fun i _ => (m - intOf i).toNat)
  case atStart => exact ⟨1, by omega, by omega, rfl, by rw [cum_one, Int.sub_zero]⟩
  case round =>
    obtain ⟨k, k1, k2, rfl, rfl⟩ := hrel
    have ck := cum_bd y k1 (by omega)
    have dk := dim_bd y k
    by_cases hlt : k < m
    · have cs := Lib.hid (cum_succ y k1 (by omega))
      have cl := cum_lt y k1 hlt (by omega)
      have ge : dim y k ≤ n - yd y - cum y k := by have := HN.out; omega
      go_wp2_with (go_at_call 32; (with_reducible refine (monthDays_any _ _ v1 v2 k1 (by omega) _ HT.out).mono ?_); rintro e w' ⟨rfl, rfl⟩)
      go_round
      case rel => exact ⟨k + 1, by omega, by omega, rfl, by rw [cs.out]; go_num⟩
      case measure => simp [intOf]; omega
    · obtain rfl : k = m := by omega
      have lt : n - yd y - cum y k < dim y k := by have := HN.out; omega
      have g0 : 0 ≤ n - yd y - cum y k := by have := HN.out; omega
      go_wp2_with (go_at_call 32; (with_reducible refine (monthDays_any _ _ v1 v2 k1 (by omega) _ HT.out).mono ?_); rintro e w' ⟨rfl, rfl⟩)
      refine bodyPost_ret (v := .tuple #[.int .i64 y, .int .i64 k, .int .i64 (n - yd y - cum y k + 1), .int .i64 0]) (by simp [results, Tryd.results14, go_sem]) rfl ?_
      exact ⟨ret_tup4 rfl rfl (by have := HN.out; omega) rfl, rfl⟩

theorem of_no (n : Int) (h : n < 0 ∨ 3652058 < n) (w : World) :
    Calls Tryd.prog 14 #[.int .i64 n] w fun e w' => e = .returned (.tuple #[.int .i64 0, .int .i64 0, .int .i64 0, .int .i64 3]) ∧ w = w' := by
  have H := Lib.hid h; clear h
  go_enter Tryd.func14, Tryd.ntmps14
  go_wp2_with (go_at_call 29; (with_reducible refine (isDay_f _ H.out _).mono ?_); rintro e w' ⟨rfl, rfl⟩)
  refine bodyPost_ret (v := .tuple #[.int .i64 0, .int .i64 0, .int .i64 0, .int .i64 3]) (by simp [results, Tryd.results14, go_sem]) rfl ?_
  exact ⟨rfl, rfl⟩

theorem week_ok (n : Int) (h0 : 0 ≤ n) (h1 : n ≤ 3652058) (w : World) :
    Calls Tryd.prog 26 #[.int .i64 n] w fun e w' => e = .returned (.tuple #[.int .i64 (n % 7), .int .i64 0]) ∧ w = w' := by
  go_enter Tryd.func26, Tryd.ntmps26
  go_wp2_with (go_at_call 29; (with_reducible refine (isDay_t _ h0 h1 _).mono ?_); rintro e w' ⟨rfl, rfl⟩)
  go_ret2
  exact ⟨rfl, rfl⟩
theorem week_no (n : Int) (h : n < 0 ∨ 3652058 < n) (w : World) :
    Calls Tryd.prog 26 #[.int .i64 n] w fun e w' => e = .returned (.tuple #[.int .i64 0, .int .i64 3]) ∧ w = w' := by
  have H := Lib.hid h; clear h
  go_enter Tryd.func26, Tryd.ntmps26
  go_wp2_with (go_at_call 29; (with_reducible refine (isDay_f _ H.out _).mono ?_); rintro e w' ⟨rfl, rfl⟩)
  go_ret2
  exact ⟨rfl, rfl⟩

/-- each number from 0 to 3652058 is a date's -/
theorem num_onto (n : Int) (h0 : 0 ≤ n) (h1 : n ≤ 3652058) : ∃ y m d : Int, vldB y m d = true ∧ num y m d = n := by
  obtain ⟨s1, s2, s3, s4⟩ := yearOf_spec h0 h1 rfl rfl rfl rfl rfl rfl
  generalize 400 * (n / 146097) + 100 * min (n % 146097 / 36524) 3 + 4 * ((n % 146097 - min (n % 146097 / 36524) 3 * 36524) / 1461) + min ((n % 146097 - min (n % 146097 / 36524) 3 * 36524) % 1461 / 365) 3 + 1 = y at s1 s2 s3 s4
  rw [yd_succ] at s4
  have hm : ∃ m : Int, 1 ≤ m ∧ m ≤ 12 ∧ cum y m ≤ n - yd y ∧ n - yd y < cum y m + dim y m := by
    have lb := lp_01 y
    have step : ∀ m : Int, 1 ≤ m → m ≤ 12 → cum y m ≤ n - yd y → (n - yd y < cum y m + dim y m) ∨ cum y (m + 1) ≤ n - yd y := by
      intro m a b c
      rw [cum_succ y a b]
      omega
    have go : ∀ k : Nat, k ≤ 12 → (∃ m : Int, 1 ≤ m ∧ m ≤ 12 ∧ cum y m ≤ n - yd y ∧ n - yd y < cum y m + dim y m) ∨ cum y ((k : Int) + 1) ≤ n - yd y := by
      intro k
      induction k with
      | zero => intro _; right; show cum y (0 + 1) ≤ _; rw [Int.zero_add, cum_one]; omega
      | succ k ih =>
        intro hk
        rcases ih (by omega) with h | h
        · exact .inl h
        · rcases step ((k : Int) + 1) (by omega) (by omega) h with g | g
          · exact .inl ⟨_, by omega, by omega, h, g⟩
          · right; rw [show ((k + 1 : Nat) : Int) + 1 = (k : Int) + 1 + 1 by omega]; exact g
    rcases go 12 (by omega) with h | h
    · exact h
    · rw [show (((12 : Nat) : Int) + 1) = 13 by rfl, cum_13] at h; omega
  obtain ⟨m, m1, m2, m3, m4⟩ := hm
  exact ⟨y, m, n - yd y - cum y m + 1, vld_mk ⟨s1, s2, m1, m2, by omega, by omega⟩, by unfold num; omega⟩

end Go.Proofs.YthnepfdhdfhdkaaDoor
