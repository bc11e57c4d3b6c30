/-
  DateMonths, DateLong: the laws answer true.
-/
import Derived.Test.YteidcplhneiaoaaDoorDateC
namespace Go.Proofs.YteidcplhneiaoaaDoor
open Go.RowKit
set_option linter.unusedVariables false

theorem ref_leap (y : Int) (h1 : -20000 ≤ y) (h2 : y ≤ 20000) (w : World) :
    Calls Tryd.prog 20 #[.int .i64 y] w fun e w' => e = .returned (.bool (leapB y)) ∧ w = w' := by
  have t4 : (y.tmod 4 = 0) ↔ y % 4 = 0 := by constructor <;> intro h <;> first | (have := Int.dvd_of_tmod_eq_zero h; omega) | exact Int.tmod_eq_zero_of_dvd (by omega)
  have t100 : (y.tmod 100 = 0) ↔ y % 100 = 0 := by constructor <;> intro h <;> first | (have := Int.dvd_of_tmod_eq_zero h; omega) | exact Int.tmod_eq_zero_of_dvd (by omega)
  have t400 : (y.tmod 400 = 0) ↔ y % 400 = 0 := by constructor <;> intro h <;> first | (have := Int.dvd_of_tmod_eq_zero h; omega) | exact Int.tmod_eq_zero_of_dvd (by omega)
  by_cases c : y % 400 = 0
  · have E := Lib.hid (leap_mk (y := y) (by omega))
    have c' := t400.2 c
    clear t4 t100 t400
    go_enter Tryd.func20, Tryd.ntmps20
    go_wp2
    go_ret
    exact ⟨ret_bool E.out.symm, rfl⟩
  · have c' : ¬ y.tmod 400 = 0 := fun h => c (t400.1 h)
    by_cases a : y % 4 = 0
    · have a' := t4.2 a
      by_cases b : y % 100 = 0
      · have E := Lib.hid (leap_no (y := y) (by omega))
        have b' := t100.2 b
        clear t4 t100 t400
        go_enter Tryd.func20, Tryd.ntmps20
        go_wp2
        go_ret
        first | exact ⟨ret_bool E.out.symm, rfl⟩ | exact ⟨ret_bool (by rw [E.out]; simp [b', b]), rfl⟩
      · have E := Lib.hid (leap_mk (y := y) (by omega))
        have b' : ¬ y.tmod 100 = 0 := fun h => b (t100.1 h)
        clear t4 t100 t400
        go_enter Tryd.func20, Tryd.ntmps20
        go_wp2
        go_ret
        first | exact ⟨ret_bool E.out.symm, rfl⟩ | exact ⟨ret_bool (by rw [E.out]; simp [b', b]), rfl⟩
    · have E := Lib.hid (leap_no (y := y) (by omega))
      have a' : ¬ y.tmod 4 = 0 := fun h => a (t4.1 h)
      clear t4 t100 t400
      go_enter Tryd.func20, Tryd.ntmps20
      go_wp2
      go_ret
      exact ⟨ret_bool E.out.symm, rfl⟩

theorem ref_long (y m : Int) (h1 : -20000 ≤ y) (h2 : y ≤ 20000) (w : World) :
    Calls Tryd.prog 25 #[.int .i64 y, .int .i64 m] w fun e w' => e = .returned (.int .i64 (dim y m)) ∧ w = w' := by
  have L := Lib.hid (ref_leap y h1 h2 w)
  by_cases e2 : m = 2
  · subst e2
    cases hl : leapB y with
    | true =>
      rw [hl] at L
      have E : Hid (dim y 2 = 29) := by unfold Hid dim; rw [if_pos rfl, lp_t hl]; rfl
      clear hl
      go_enter Tryd.func25, Tryd.ntmps25
      go_wp2_with (go_at_call 20; (with_reducible refine L.out.mono ?_); rintro e w' ⟨rfl, rfl⟩)
      go_ret
      exact ⟨ret_int E.out.symm, rfl⟩
    | false =>
      rw [hl] at L
      have E : Hid (dim y 2 = 28) := by unfold Hid dim; rw [if_pos rfl, lp_f hl]; rfl
      clear hl
      go_enter Tryd.func25, Tryd.ntmps25
      go_wp2_with (go_at_call 20; (with_reducible refine L.out.mono ?_); rintro e w' ⟨rfl, rfl⟩)
      go_ret
      exact ⟨ret_int E.out.symm, rfl⟩
  · clear L
    by_cases e4 : m = 4
    · subst e4
      have E : Hid (dim y 4 = 30) := rfl
      go_enter Tryd.func25, Tryd.ntmps25
      go_wp2
      go_ret
      exact ⟨ret_int E.out.symm, rfl⟩
    · by_cases e6 : m = 6
      · subst e6
        have E : Hid (dim y 6 = 30) := rfl
        go_enter Tryd.func25, Tryd.ntmps25
        go_wp2
        go_ret
        exact ⟨ret_int E.out.symm, rfl⟩
      · by_cases e9 : m = 9
        · subst e9
          have E : Hid (dim y 9 = 30) := rfl
          go_enter Tryd.func25, Tryd.ntmps25
          go_wp2
          go_ret
          exact ⟨ret_int E.out.symm, rfl⟩
        · by_cases e11 : m = 11
          · subst e11
            have E : Hid (dim y 11 = 30) := rfl
            go_enter Tryd.func25, Tryd.ntmps25
            go_wp2
            go_ret
            exact ⟨ret_int E.out.symm, rfl⟩
          · have E : Hid (dim y m = 31) := by unfold Hid dim; rw [if_neg e2, if_neg (by omega)]
            have f2 : (m == 2) = false := beq_eq_false_iff_ne.2 e2
            have f4 : (m == 4) = false := beq_eq_false_iff_ne.2 e4
            have f6 : (m == 6) = false := beq_eq_false_iff_ne.2 e6
            have f9 : (m == 9) = false := beq_eq_false_iff_ne.2 e9
            have f11 : (m == 11) = false := beq_eq_false_iff_ne.2 e11
            go_enter Tryd.func25, Tryd.ntmps25
            go_wp2
            go_ret
            exact ⟨ret_int E.out.symm, rfl⟩

/-- there and back by months -/
theorem there_back {y m d many : Int} (hv : vldB y m d = true) (hm : mthB y m many = true) :
    ∃ Y M D K : Int, vldB Y M D = true ∧ num Y M D = K ∧ mthN y m d many = K ∧ mthB Y M (-many) = true ∧ mthN Y M D (-many) = num y m d - (d - D) ∧
      (M - m - many).tmod 12 = 0 ∧ ((D = d) ∨ (D < d ∧ D = dim Y M ∧ 28 ≤ D ∧ d ≤ 31)) := by
  have hv2 := mth_vld hv hm
  obtain ⟨v1, v2, v3, v4, v5, v6⟩ := vld_t hv
  obtain ⟨m1, m2, m3, m4⟩ := mth_t hm
  have db := dim_bd y m
  have db2 := dim_bd (mth y m many / 12 + 1) (mth y m many % 12 + 1)
  have hY : mth (mth y m many / 12 + 1) (mth y m many % 12 + 1) (-many) = (y - 1) * 12 + m - 1 := by
    have : mth y m many = (y - 1) * 12 + m - 1 + many := rfl
    generalize mth y m many = q at this
    unfold mth
    omega
  refine ⟨_, _, _, _, hv2, rfl, rfl, ?_, ?_, ?_, ?_⟩
  · exact decide_eq_true ⟨by omega, by omega, by rw [hY]; omega, by rw [hY]; omega⟩
  · unfold mthN
    rw [hY]
    have a1 : ((y - 1) * 12 + m - 1) / 12 + 1 = y := by omega
    have a2 : ((y - 1) * 12 + m - 1) % 12 + 1 = m := by omega
    rw [a1, a2]
    unfold num
    generalize dim (mth y m many / 12 + 1) (mth y m many % 12 + 1) = D at db2
    omega
  · refine Int.tmod_eq_zero_of_dvd ?_
    have : mth y m many = (y - 1) * 12 + m - 1 + many := rfl
    generalize mth y m many = q at this
    omega
  · generalize dim (mth y m many / 12 + 1) (mth y m many % 12 + 1) = D at db2
    omega

set_option maxRecDepth 100000 in
set_option maxHeartbeats 1000000 in
theorem dateMonths_walk (n many : Int) (w : World) (ht : Tab w) :
    Calls Tryd.prog 7 #[.int .i64 n, .int .i64 many] w fun r w' => r = .returned (.bool true) ∧ w = w' := by
  have B := Lib.hid (dateBegun w ht)
  by_cases hn : 0 ≤ n ∧ n ≤ 3652058
  · obtain ⟨y, m, d, hv, hN⟩ := num_onto n hn.1 hn.2
    have O1 := Lib.hid (of_at y m d n hv hN w ht)
    cases hm : mthB y m many with
    | false =>
      have M1 := Lib.hid (months_wide y m d n many hv hN hm w ht)
      clear hn hv hN hm ht
      go_enter Tryd.func7, Tryd.ntmps7
      go_wp2_with (first
        | (go_at_call 19; (with_reducible refine M1.out.mono ?_); rintro e w' ⟨rfl, rfl⟩)
        | (go_at_call 17; (with_reducible refine O1.out.mono ?_); rintro e w' ⟨rfl, rfl⟩)
        | (go_at_call 24; (with_reducible refine B.out.mono ?_); rintro e w' ⟨rfl, rfl⟩))
      go_ret
      exact ⟨rfl, rfl⟩
    | true =>
      obtain ⟨Y, M, D, K, u1, u2, u3, u4, u5, u6, u7⟩ := there_back hv hm
      have M1 := months_ok y m d n many hv hN hm w ht
      rw [u3] at M1
      replace M1 := Lib.hid M1
      have O2 := Lib.hid (of_at Y M D K u1 u2 w ht)
      have M2 := months_ok Y M D K (-many) u1 u2 u4 w ht
      rw [u5, hN] at M2
      replace M2 := Lib.hid M2
      obtain ⟨m1, m2, -, -⟩ := mth_t hm
      obtain ⟨v1, v2, v3, v4, v5, v6⟩ := vld_t hv
      obtain ⟨x1, x2, x3, x4, x5, x6⟩ := vld_t u1
      have db := dim_bd y m
      have db2 := dim_bd Y M
      have LG := Lib.hid (ref_long Y M (by omega) (by omega) w)
      clear hv hN hm ht u1 u2 u3 u4 u5
      rcases u7 with rfl | ⟨l1, l2, l3, l4⟩
      · have M3 : Hid (Calls Tryd.prog 19 #[.int .i64 K, .int .i64 (-many)] w fun e w' => e = .returned (.tuple #[.int .i64 n, .int .i64 0]) ∧ w = w') := by
          have := M2.out
          rw [Int.sub_self, Int.sub_zero] at this
          exact this
        clear M2 x6 db db2
        obtain ⟨hn0, hn1⟩ := hn
        have q1 : decide (D ≤ 28) = true ∨ decide (28 < D) = true := by simp only [decide_eq_true_eq]; omega
        rcases q1 with q1 | q1
        all_goals
          have q2 := of_decide_eq_true q1
          go_enter Tryd.func7, Tryd.ntmps7
          go_wp2_with (first
            | (go_at_call 19; (with_reducible refine M1.out.mono ?_); rintro e w' ⟨rfl, rfl⟩)
            | (go_at_call 17; (with_reducible refine O1.out.mono ?_); rintro e w' ⟨rfl, rfl⟩)
            | (go_at_call 24; (with_reducible refine B.out.mono ?_); rintro e w' ⟨rfl, rfl⟩)
            | (go_at_call 17; (with_reducible refine O2.out.mono ?_); rintro e w' ⟨rfl, rfl⟩)
            | (go_at_call 19; (with_reducible refine M3.out.mono ?_); rintro e w' ⟨rfl, rfl⟩))
          go_ret
          exact ⟨rfl, rfl⟩
      · have L2 := Lib.hid l2
        have LG2 := LG.out
        rw [← l2] at LG2
        replace LG2 := Lib.hid LG2
        obtain ⟨P, hP⟩ : ∃ P, P = n - (d - D) := ⟨_, rfl⟩
        rw [← hP] at M2
        obtain ⟨hn0, hn1⟩ := hn
        have p1 : P ≤ n := by omega
        have p2 : n - P ≤ 3 := by omega
        have p3 : 28 < d := by omega
        have p4 : 0 ≤ P + 3 := by omega
        have q1 := decide_eq_true p1
        have q2 := decide_eq_true p2
        have q3 := decide_eq_true p3
        clear l2 hP LG
        go_enter Tryd.func7, Tryd.ntmps7
        go_wp2_with (first
          | (go_at_call 19; (with_reducible refine M1.out.mono ?_); rintro e w' ⟨rfl, rfl⟩)
          | (go_at_call 17; (with_reducible refine O1.out.mono ?_); rintro e w' ⟨rfl, rfl⟩)
          | (go_at_call 24; (with_reducible refine B.out.mono ?_); rintro e w' ⟨rfl, rfl⟩)
          | (go_at_call 17; (with_reducible refine O2.out.mono ?_); rintro e w' ⟨rfl, rfl⟩)
          | (go_at_call 25; (with_reducible refine LG2.out.mono ?_); rintro e w' ⟨rfl, rfl⟩)
          | (go_at_call 19; (with_reducible refine M2.out.mono ?_); rintro e w' ⟨rfl, rfl⟩))
        go_ret
        exact ⟨rfl, rfl⟩
  · have O1 := Lib.hid (of_no n (by omega) w)
    have M1 := Lib.hid (months_no n many (by omega) w)
    clear hn ht
    go_enter Tryd.func7, Tryd.ntmps7
    go_wp2_with (first
      | (go_at_call 19; (with_reducible refine M1.out.mono ?_); rintro e w' ⟨rfl, rfl⟩)
      | (go_at_call 17; (with_reducible refine O1.out.mono ?_); rintro e w' ⟨rfl, rfl⟩)
      | (go_at_call 24; (with_reducible refine B.out.mono ?_); rintro e w' ⟨rfl, rfl⟩))
    go_ret
    exact ⟨rfl, rfl⟩

theorem eight (y : Int) (h : 1 ≤ y) : yd (y + 8) - yd y - 365 * (y + 8 - y) = 1 ∨ yd (y + 8) - yd y - 365 * (y + 8 - y) = 2 := by unfold yd; omega
theorem new_year (k : Int) (h1 : 1 ≤ k) (h2 : k ≤ 9999) : vldB k 1 1 = true := vld_mk ⟨h1, h2, by omega, by omega, by omega, (dim_bd k 1).1 |> fun h => by omega⟩
theorem num_year (k : Int) : num k 1 1 = yd k := by unfold num; rw [cum_one]; omega

set_option maxRecDepth 100000 in
set_option maxHeartbeats 1000000 in
theorem dateLong_walk (y : Int) (w : World) (ht : Tab w) :
    Calls Tryd.prog 8 #[.int .i64 y] w fun r w' => r = .returned (.bool true) ∧ w = w' := by
  have B := Lib.hid (dateBegun w ht)
  have HT := Lib.hid ht
  clear ht
  by_cases a : y < 1
  · go_enter Tryd.func8, Tryd.ntmps8
    go_wp2_with (go_at_call 24; (with_reducible refine B.out.mono ?_); rintro e w' ⟨rfl, rfl⟩)
    go_ret
    exact ⟨rfl, rfl⟩
  · by_cases b : 9991 < y
    · go_enter Tryd.func8, Tryd.ntmps8
      go_wp2_with (go_at_call 24; (with_reducible refine B.out.mono ?_); rintro e w' ⟨rfl, rfl⟩)
      go_ret
      exact ⟨rfl, rfl⟩
    · have a' : 1 ≤ y := by omega
      have b' : y ≤ 9991 := by omega
      clear a b
      go_enter Tryd.func8, Tryd.ntmps8
      go_wp2_with (go_at_call 24; (with_reducible refine B.out.mono ?_); rintro e w' ⟨rfl, rfl⟩)
      go_loop [3, 4] (fun l i => ∃ k c : Int, y ≤ k ∧ k ≤ y + 8 ∧ i = .int .i64 k ∧ l = .int .i64 c ∧ 0 ≤ c ∧ c ≤ k - y ∧ Hid (c = yd k - yd y - 365 * (k - y))) (fun _ i => (y + 8 - intOf i).toNat)
      case atStart => exact ⟨y, 0, by omega, by omega, rfl, rfl, by omega, by omega, by unfold Hid; omega⟩
      case round =>
        obtain ⟨k, c, k1, k2, rfl, rfl, c1, c2, HC⟩ := hrel
        by_cases hlt : k < y + 8
        · have L1 := leap_ok k (by omega) (by omega) w
          have F1 := from_ok k 1 1 (new_year k (by omega) (by omega)) w HT.out
          have F2 := from_ok (k + 1) 1 1 (new_year (k + 1) (by omega) (by omega)) w HT.out
          rw [num_year] at F1 F2
          have ys := yd_succ k
          have y0 := yd_bd (y := k) (by omega) (by omega)
          have y1 := yd_bd (y := k + 1) (by omega) (by omega)
          have hc := HC.out
          have hR : ∀ z, z = lp k → (c + z = yd (k + 1) - yd y - 365 * (k + 1 - y)) := by intro z hz; omega
          cases hl : leapB k with
          | true =>
            have HR := Lib.hid (hR 1 (lp_t hl).symm)
            rw [lp_t hl] at ys
            rw [hl] at L1
            generalize yd (k + 1) = q at F2 ys y1
            generalize yd k = p at F1 ys y0
            obtain rfl : q = p + 366 := by omega
            replace L1 := Lib.hid L1
            replace F1 := Lib.hid F1
            replace F2 := Lib.hid F2
            clear hR ys hc hl HC
            go_wp2_with (first
              | (go_at_call 15; (with_reducible refine L1.out.mono ?_); rintro e w' ⟨rfl, rfl⟩)
              | (go_at_call 16; (with_reducible refine F1.out.mono ?_); rintro e w' ⟨rfl, rfl⟩)
              | (go_at_call 16; (with_reducible refine F2.out.mono ?_); rintro e w' ⟨rfl, rfl⟩))
            go_round
            case rel => exact ⟨k + 1, c + 1, by omega, by omega, rfl, rfl, by omega, by omega, HR.out⟩
            case measure => simp [intOf]; omega
          | false =>
            have HR := Lib.hid (hR 0 (lp_f hl).symm)
            rw [lp_f hl] at ys
            rw [hl] at L1
            generalize yd (k + 1) = q at F2 ys y1
            generalize yd k = p at F1 ys y0
            obtain rfl : q = p + 365 := by omega
            replace L1 := Lib.hid L1
            replace F1 := Lib.hid F1
            replace F2 := Lib.hid F2
            clear hR ys hc hl HC
            go_wp2_with (first
              | (go_at_call 15; (with_reducible refine L1.out.mono ?_); rintro e w' ⟨rfl, rfl⟩)
              | (go_at_call 16; (with_reducible refine F1.out.mono ?_); rintro e w' ⟨rfl, rfl⟩)
              | (go_at_call 16; (with_reducible refine F2.out.mono ?_); rintro e w' ⟨rfl, rfl⟩))
            go_round
            case rel => exact ⟨k + 1, c, by omega, by omega, rfl, rfl, by omega, by omega, by have := HR.out; rw [Int.add_zero] at this; exact this⟩
            case measure => simp [intOf]; omega
        · obtain rfl : k = y + 8 := by omega
          have e8 := eight y a'
          rw [← HC.out] at e8
          clear HC
          rcases e8 with rfl | rfl
          all_goals
            go_wp2
            go_ret
            exact ⟨rfl, rfl⟩

end Go.Proofs.YteidcplhneiaoaaDoor
