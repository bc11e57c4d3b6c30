/-
  The reference: LeapYear, MonthLong; there and back by months.
-/
import Derived.Test.YtpkhhbplabfeaaaDoorDateC
namespace Go.Proofs.YtpkhhbplabfeaaaDoor
open Go.RowKit
set_option linter.unusedVariables false

theorem ref_leap (y : Int) (h1 : -20000 ≤ y) (h2 : y ≤ 20000) (w : World) :
    Calls Tryd.prog 35 #[.int .i64 y] w fun e w' => e = .returned (.bool (leapB y)) ∧ w = w' := by
  have t4 : (y.tmod 4 = 0) ↔ y % 4 = 0 := by constructor <;> intro h <;> first | (have := Int.dvd_of_tmod_eq_zero h; omega) | exact Int.tmod_eq_zero_of_dvd (by omega)
  have t100 : (y.tmod 100 = 0) ↔ y % 100 = 0 := by constructor <;> intro h <;> first | (have := Int.dvd_of_tmod_eq_zero h; omega) | exact Int.tmod_eq_zero_of_dvd (by omega)
  have t400 : (y.tmod 400 = 0) ↔ y % 400 = 0 := by constructor <;> intro h <;> first | (have := Int.dvd_of_tmod_eq_zero h; omega) | exact Int.tmod_eq_zero_of_dvd (by omega)
  by_cases c : y % 400 = 0
  · have E := Lib.hid (leap_mk (y := y) (by omega))
    have c' := t400.2 c
    clear t4 t100 t400
    go_enter Tryd.func35, Tryd.ntmps35
    go_wp2
    go_ret
    exact ⟨ret_bool E.out.symm, rfl⟩
  · have c' : ¬ y.tmod 400 = 0 := fun h => c (t400.1 h)
    by_cases a : y % 4 = 0
    · have a' := t4.2 a
      by_cases b : y % 100 = 0
      · have E := Lib.hid (leap_no (y := y) (by omega))
        have b' := t100.2 b
        clear t4 t100 t400
        go_enter Tryd.func35, Tryd.ntmps35
        go_wp2
        go_ret
        first | exact ⟨ret_bool E.out.symm, rfl⟩ | exact ⟨ret_bool (by rw [E.out]; simp [b']), rfl⟩
      · have E := Lib.hid (leap_mk (y := y) (by omega))
        have b' : ¬ y.tmod 100 = 0 := fun h => b (t100.1 h)
        clear t4 t100 t400
        go_enter Tryd.func35, Tryd.ntmps35
        go_wp2
        go_ret
        first | exact ⟨ret_bool E.out.symm, rfl⟩ | exact ⟨ret_bool (by rw [E.out]; simp [b']), rfl⟩
    · have E := Lib.hid (leap_no (y := y) (by omega))
      have a' : ¬ y.tmod 4 = 0 := fun h => a (t4.1 h)
      clear t4 t100 t400
      go_enter Tryd.func35, Tryd.ntmps35
      go_wp2
      go_ret
      exact ⟨ret_bool E.out.symm, rfl⟩

theorem ref_long (y m : Int) (h1 : -20000 ≤ y) (h2 : y ≤ 20000) (w : World) :
    Calls Tryd.prog 36 #[.int .i64 y, .int .i64 m] w fun e w' => e = .returned (.int .i64 (dim y m)) ∧ w = w' := by
  have L := Lib.hid (ref_leap y h1 h2 w)
  by_cases e2 : m = 2
  · subst e2
    cases hl : leapB y with
    | true =>
      rw [hl] at L
      have E : Hid (dim y 2 = 29) := by unfold Hid dim; rw [if_pos rfl, lp_t hl]; rfl
      clear hl
      go_enter Tryd.func36, Tryd.ntmps36
      go_wp2_with (go_at_call 35; (with_reducible refine L.out.mono ?_); rintro e w' ⟨rfl, rfl⟩)
      go_ret
      exact ⟨ret_int E.out.symm, rfl⟩
    | false =>
      rw [hl] at L
      have E : Hid (dim y 2 = 28) := by unfold Hid dim; rw [if_pos rfl, lp_f hl]; rfl
      clear hl
      go_enter Tryd.func36, Tryd.ntmps36
      go_wp2_with (go_at_call 35; (with_reducible refine L.out.mono ?_); rintro e w' ⟨rfl, rfl⟩)
      go_ret
      exact ⟨ret_int E.out.symm, rfl⟩
  · clear L
    by_cases e4 : m = 4
    · subst e4
      have E : Hid (dim y 4 = 30) := rfl
      go_enter Tryd.func36, Tryd.ntmps36
      go_wp2
      go_ret
      exact ⟨ret_int E.out.symm, rfl⟩
    · by_cases e6 : m = 6
      · subst e6
        have E : Hid (dim y 6 = 30) := rfl
        go_enter Tryd.func36, Tryd.ntmps36
        go_wp2
        go_ret
        exact ⟨ret_int E.out.symm, rfl⟩
      · by_cases e9 : m = 9
        · subst e9
          have E : Hid (dim y 9 = 30) := rfl
          go_enter Tryd.func36, Tryd.ntmps36
          go_wp2
          go_ret
          exact ⟨ret_int E.out.symm, rfl⟩
        · by_cases e11 : m = 11
          · subst e11
            have E : Hid (dim y 11 = 30) := rfl
            go_enter Tryd.func36, Tryd.ntmps36
            go_wp2
            go_ret
            exact ⟨ret_int E.out.symm, rfl⟩
          · have E : Hid (dim y m = 31) := by unfold Hid dim; rw [if_neg e2, if_neg (by omega)]
            have f2 : (m == 2) = false := beq_eq_false_iff_ne.2 e2
            have f4 : (m == 4) = false := beq_eq_false_iff_ne.2 e4
            have f6 : (m == 6) = false := beq_eq_false_iff_ne.2 e6
            have f9 : (m == 9) = false := beq_eq_false_iff_ne.2 e9
            have f11 : (m == 11) = false := beq_eq_false_iff_ne.2 e11
            go_enter Tryd.func36, Tryd.ntmps36
            go_wp2
            go_ret
            exact ⟨ret_int E.out.symm, rfl⟩

/-- there and back by months -/
theorem there_back {y m d many : Int} (hv : vldB y m d = true) (hm : mthB y m many = true) :
    ∃ Y M D K : Int, vldB Y M D = true ∧ num Y M D = K ∧ mthN y m d many = K ∧ mthB Y M (-many) = true ∧ mthN Y M D (-many) = num y m d - (d - D) ∧
      (M - m - many).tmod 12 = 0 ∧ ((D = d) ∨ (D < d ∧ D = dim Y M ∧ 28 ≤ D ∧ d ≤ 31)) := by
  have hv2 := mth_vld hv hm
  obtain ⟨v1, v2, v3, v4, v5, v6⟩ := vld_t hv
  obtain ⟨m1, m2, m3, m4⟩ := mth_t hm
  have db := dim_bd y m
  have db2 := dim_bd (mth y m many / 12 + 1) (mth y m many % 12 + 1)
  have hY : mth (mth y m many / 12 + 1) (mth y m many % 12 + 1) (-many) = (y - 1) * 12 + m - 1 := by
    have : mth y m many = (y - 1) * 12 + m - 1 + many := rfl
    generalize mth y m many = q at this
    unfold mth
    omega
  refine ⟨_, _, _, _, hv2, rfl, rfl, ?_, ?_, ?_, ?_⟩
  · exact decide_eq_true ⟨by omega, by omega, by rw [hY]; omega, by rw [hY]; omega⟩
  · unfold mthN
    rw [hY]
    have a1 : ((y - 1) * 12 + m - 1) / 12 + 1 = y := by omega
    have a2 : ((y - 1) * 12 + m - 1) % 12 + 1 = m := by omega
    rw [a1, a2]
    unfold num
    generalize dim (mth y m many / 12 + 1) (mth y m many % 12 + 1) = D at db2
    omega
  · refine Int.tmod_eq_zero_of_dvd ?_
    have : mth y m many = (y - 1) * 12 + m - 1 + many := rfl
    generalize mth y m many = q at this
    omega
  · generalize dim (mth y m many / 12 + 1) (mth y m many % 12 + 1) = D at db2
    omega

end Go.Proofs.YtpkhhbplabfeaaaDoor
