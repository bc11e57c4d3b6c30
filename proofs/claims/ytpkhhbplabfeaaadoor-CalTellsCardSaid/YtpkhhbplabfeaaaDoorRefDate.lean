/-
  What the reference's calls on days do: contracts.
-/
import Derived.Test.YtpkhhbplabfeaaaDoorRefLong
namespace Go.Proofs.YtpkhhbplabfeaaaDoor
open Go.RowKit
set_option linter.unusedVariables false

theorem rdw_t (x a b : Int) (h1 : a ≤ x) (h2 : x ≤ b) (w : World) :
    Calls Tryd.prog 25 #[.int .i64 x, .int .i64 a, .int .i64 b] w fun e w' => e = .returned (.bool true) ∧ w = w' := by
  have q1 := decide_eq_true h1
  have q2 := decide_eq_true h2
  go_enter Tryd.func25, Tryd.ntmps25
  go_wp2
  go_ret
  exact ⟨rfl, rfl⟩
theorem rdw_f (x a b : Int) (h : x < a ∨ b < x) (w : World) :
    Calls Tryd.prog 25 #[.int .i64 x, .int .i64 a, .int .i64 b] w fun e w' => e = .returned (.bool false) ∧ w = w' := by
  by_cases h1 : a ≤ x
  · have h2 : decide (x ≤ b) = false := decide_eq_false (by omega)
    have q1 := decide_eq_true h1
    clear h
    go_enter Tryd.func25, Tryd.ntmps25
    go_wp2
    go_ret
    exact ⟨rfl, rfl⟩
  · have q1 := decide_eq_false h1
    clear h
    go_enter Tryd.func25, Tryd.ntmps25
    go_wp2
    go_ret
    exact ⟨rfl, rfl⟩

theorem yd_cycle (q : Int) : yd (q * 400 + 1) = q * 146097 := by
  unfold yd
  have a : (q * 400 + 1 - 1) / 4 = 100 * q := by omega
  have b : (q * 400 + 1 - 1) / 100 = 4 * q := by omega
  have c : (q * 400 + 1 - 1) / 400 = q := by omega
  rw [a, b, c]; omega

set_option maxHeartbeats 400000 in
theorem ref_of_at (y m d n : Int) (hv : vldB y m d = true) (hN : num y m d = n) (w : World) :
    Calls Tryd.prog 26 #[.int .i64 n] w fun e w' => e = .returned (.tuple #[.int .i64 y, .int .i64 m, .int .i64 d, .int .i64 0]) ∧ w = w' := by
  have nb := num_bd hv
  rw [hN] at nb
  obtain ⟨n0, n1⟩ := nb
  obtain ⟨v1, v2, v3, v4, v5, v6⟩ := vld_t hv
  have yb := yd_bd v1 (show y ≤ 10000 by omega)
  have cb := cum_bd y v3 v4
  have lb := lp_01 y
  have hs := yd_succ y
  have hN' : n = yd y + cum y m + (d - 1) := by rw [← hN]; rfl
  have a1 : yd y ≤ n := by omega
  have a2 : n < yd (y + 1) := by omega
  have HN := Lib.hid hN'
  have db := dim_bd y m
  have r0 : 0 ≤ n - yd y ∧ n - yd y ≤ 365 := by omega
  have q0 : 0 ≤ n / 146097 ∧ n / 146097 ≤ 24 := by omega
  have HY := Lib.hid (yd_cycle (n / 146097))
  clear hv hN hs hN'
  go_enter Tryd.func26, Tryd.ntmps26
  go_wp2_with (go_at_call 25; (with_reducible refine (rdw_t n 0 3652058 n0 n1 _).mono ?_); rintro e w' ⟨rfl, rfl⟩)
  go_loop [0, 6] (fun r i => ∃ k : Int, 1 ≤ k ∧ k ≤ y ∧ i = .int .i64 k ∧ r = .int .i64 (n - yd k)) (fun _ i => (y - intOf i).toNat)
  case atStart =>
    refine ⟨1 + n / 146097 * 400, by omega, ?_, rfl, ?_⟩
    · rcases (show y < 1 + n / 146097 * 400 ∨ 1 + n / 146097 * 400 ≤ y by omega) with h | h
      · have := yd_mono (show y + 1 ≤ 1 + n / 146097 * 400 from h)
        rw [Int.add_comm 1, HY.out] at this
        omega
      · exact h
    · rw [Int.add_comm 1, HY.out]
      congr 1
      omega
  case round =>
    obtain ⟨k, k1, k2, rfl, rfl⟩ := hrel
    have kb := yd_bd (y := k) k1 (by omega)
    have km := yd_mono k2
    clear HY q0
    have L := ref_leap k (by omega) (by omega) w
    have ys := yd_succ k
    by_cases hlt : k < y
    · have yl := yd_lt hlt
      cases hl : leapB k with
      | true =>
        rw [hl] at L
        rw [lp_t hl] at ys yl
        replace L := Lib.hid L
        have YS := Lib.hid ys
        clear ys hl
        have ge : 366 ≤ n - yd k := by omega
        go_wp2_with (go_at_call 35; (with_reducible refine L.out.mono ?_); rintro e w' ⟨rfl, rfl⟩)
        go_round
        case rel => exact ⟨k + 1, by omega, by omega, rfl, by rw [YS.out]; go_num⟩
        case measure => simp [intOf]; omega
      | false =>
        rw [hl] at L
        rw [lp_f hl] at ys yl
        replace L := Lib.hid L
        have YS := Lib.hid ys
        clear ys hl
        have ge : 365 ≤ n - yd k := by omega
        go_wp2_with (go_at_call 35; (with_reducible refine L.out.mono ?_); rintro e w' ⟨rfl, rfl⟩)
        go_round
        case rel => exact ⟨k + 1, by omega, by omega, rfl, by rw [YS.out]; go_num⟩
        case measure => simp [intOf]; omega
    · obtain rfl : k = y := by omega
      have lt : n - yd k < 365 + lp k := by omega
      cases hl : leapB k with
      | true =>
        rw [hl] at L
        rw [lp_t hl] at lt
        replace L := Lib.hid L
        have lt' : n - yd k < 366 := by omega
        have q' := decide_eq_true lt'
        clear ys hl lt
        go_wp2_with (go_at_call 35; (with_reducible refine L.out.mono ?_); rintro e w' ⟨rfl, rfl⟩)
        go_loop [0, 8] (fun r i => ∃ j : Int, 1 ≤ j ∧ j ≤ m ∧ i = .int .i64 j ∧ r = .int .i64 (n - yd k - cum k j)) (fun _ i => (m - intOf i).toNat)
        case atStart => exact ⟨1, by omega, by omega, rfl, by rw [cum_one, Int.sub_zero]⟩
        case round =>
          obtain ⟨j, j1, j2, rfl, rfl⟩ := hrel
          have ck := cum_bd k j1 (by omega)
          have dk := dim_bd k j
          by_cases hlt : j < m
          · have cs := Lib.hid (cum_succ k j1 (by omega))
            have cl := cum_lt k j1 hlt (by omega)
            have ge : dim k j ≤ n - yd k - cum k j := by have := HN.out; omega
            go_wp2_with (go_at_call 36; (with_reducible refine (ref_long k j (by omega) (by omega) _).mono ?_); rintro e w' ⟨rfl, rfl⟩)
            go_round
            case rel => exact ⟨j + 1, by omega, by omega, rfl, by rw [cs.out]; go_num⟩
            case measure => simp [intOf]; omega
          · obtain rfl : j = m := by omega
            have lt : n - yd k - cum k j < dim k j := by have := HN.out; omega
            have g0 : 0 ≤ n - yd k - cum k j := by have := HN.out; omega
            go_wp2_with (go_at_call 36; (with_reducible refine (ref_long k j (by omega) (by omega) _).mono ?_); rintro e w' ⟨rfl, rfl⟩)
            refine bodyPost_ret (v := .tuple #[.int .i64 k, .int .i64 j, .int .i64 (n - yd k - cum k j + 1), .int .i64 0]) (by simp [results, Tryd.results26, go_sem]) rfl ?_
            exact ⟨ret_tup4 rfl rfl (by have := HN.out; omega) rfl, rfl⟩
      | false =>
        rw [hl] at L
        rw [lp_f hl] at lt
        replace L := Lib.hid L
        have lt' : n - yd k < 365 := by omega
        have q' := decide_eq_true lt'
        clear ys hl lt
        go_wp2_with (go_at_call 35; (with_reducible refine L.out.mono ?_); rintro e w' ⟨rfl, rfl⟩)
        go_loop [0, 8] (fun r i => ∃ j : Int, 1 ≤ j ∧ j ≤ m ∧ i = .int .i64 j ∧ r = .int .i64 (n - yd k - cum k j)) (fun _ i => (m - intOf i).toNat)
        case atStart => exact ⟨1, by omega, by omega, rfl, by rw [cum_one, Int.sub_zero]⟩
        case round =>
          obtain ⟨j, j1, j2, rfl, rfl⟩ := hrel
          have ck := cum_bd k j1 (by omega)
          have dk := dim_bd k j
          by_cases hlt : j < m
          · have cs := Lib.hid (cum_succ k j1 (by omega))
            have cl := cum_lt k j1 hlt (by omega)
            have ge : dim k j ≤ n - yd k - cum k j := by have := HN.out; omega
            go_wp2_with (go_at_call 36; (with_reducible refine (ref_long k j (by omega) (by omega) _).mono ?_); rintro e w' ⟨rfl, rfl⟩)
            go_round
            case rel => exact ⟨j + 1, by omega, by omega, rfl, by rw [cs.out]; go_num⟩
            case measure => simp [intOf]; omega
          · obtain rfl : j = m := by omega
            have lt : n - yd k - cum k j < dim k j := by have := HN.out; omega
            have g0 : 0 ≤ n - yd k - cum k j := by have := HN.out; omega
            go_wp2_with (go_at_call 36; (with_reducible refine (ref_long k j (by omega) (by omega) _).mono ?_); rintro e w' ⟨rfl, rfl⟩)
            refine bodyPost_ret (v := .tuple #[.int .i64 k, .int .i64 j, .int .i64 (n - yd k - cum k j + 1), .int .i64 0]) (by simp [results, Tryd.results26, go_sem]) rfl ?_
            exact ⟨ret_tup4 rfl rfl (by have := HN.out; omega) rfl, rfl⟩

theorem ref_of_no (n : Int) (h : n < 0 ∨ 3652058 < n) (w : World) :
    Calls Tryd.prog 26 #[.int .i64 n] w fun e w' => e = .returned (.tuple #[.int .i64 0, .int .i64 0, .int .i64 0, .int .i64 3]) ∧ w = w' := by
  have H := Lib.hid (rdw_f n 0 3652058 h w); clear h
  go_enter Tryd.func26, Tryd.ntmps26
  go_wp2_with (go_at_call 25; (with_reducible refine H.out.mono ?_); rintro e w' ⟨rfl, rfl⟩)
  refine bodyPost_ret (v := .tuple #[.int .i64 0, .int .i64 0, .int .i64 0, .int .i64 3]) (by simp [results, Tryd.results26, go_sem]) rfl ?_
  exact ⟨rfl, rfl⟩

end Go.Proofs.YtpkhhbplabfeaaaDoor
