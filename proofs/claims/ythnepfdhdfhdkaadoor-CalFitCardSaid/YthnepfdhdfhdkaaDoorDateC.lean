/-
  What Months of package date does, and what must be of days in any case: contracts.
-/
import Derived.Test.YthnepfdhdfhdkaaDoorDateB
namespace Go.Proofs.YthnepfdhdfhdkaaDoor
open Go.RowKit
set_option linter.unusedVariables false

/-- the month that lies so many months behind -/
def mth (y m many : Int) : Int := (y - 1) * 12 + m - 1 + many
def mthB (y m many : Int) : Bool := decide (-120000 ≤ many ∧ many ≤ 120000 ∧ 0 ≤ mth y m many ∧ mth y m many < 119988)
/-- the day of that month -/
def mthN (y m d many : Int) : Int := num (mth y m many / 12 + 1) (mth y m many % 12 + 1) (min d (dim (mth y m many / 12 + 1) (mth y m many % 12 + 1)))
theorem mth_t {y m many : Int} (h : mthB y m many = true) : -120000 ≤ many ∧ many ≤ 120000 ∧ 0 ≤ mth y m many ∧ mth y m many < 119988 := of_decide_eq_true h
theorem mth_f {y m many : Int} (h : mthB y m many = false) : ¬ (-120000 ≤ many ∧ many ≤ 120000 ∧ 0 ≤ mth y m many ∧ mth y m many < 119988) := of_decide_eq_false h
theorem mth_vld {y m d many : Int} (hv : vldB y m d = true) (h : mthB y m many = true) :
    vldB (mth y m many / 12 + 1) (mth y m many % 12 + 1) (min d (dim (mth y m many / 12 + 1) (mth y m many % 12 + 1))) = true := by
  obtain ⟨v1, v2, v3, v4, v5, v6⟩ := vld_t hv
  obtain ⟨m1, m2, m3, m4⟩ := mth_t h
  have := dim_bd (mth y m many / 12 + 1) (mth y m many % 12 + 1)
  exact vld_mk ⟨by omega, by omega, by omega, by omega, by omega, by omega⟩

set_option maxHeartbeats 400000 in
theorem months_ok (y m d n many : Int) (hv : vldB y m d = true) (hN : num y m d = n) (hm : mthB y m many = true) (w : World) (ht : Tab w) :
    Calls Tryd.prog 28 #[.int .i64 n, .int .i64 many] w fun e w' => e = .returned (.tuple #[.int .i64 (mthN y m d many), .int .i64 0]) ∧ w = w' := by
  have O := Lib.hid (of_at y m d n hv hN w ht)
  obtain ⟨v1, v2, v3, v4, v5, v6⟩ := vld_t hv
  obtain ⟨m1, m2, m3, m4⟩ := mth_t hm
  have hv2 := mth_vld hv hm
  have HE : Hid (mthN y m d many = num (mth y m many / 12 + 1) (mth y m many % 12 + 1) (min d (dim (mth y m many / 12 + 1) (mth y m many % 12 + 1)))) := rfl
  unfold mth at m3 m4
  have db := dim_bd y m
  obtain ⟨Y, hY⟩ : ∃ Y, mth y m many / 12 + 1 = Y := ⟨_, rfl⟩
  obtain ⟨M, hM⟩ : ∃ M, mth y m many % 12 + 1 = M := ⟨_, rfl⟩
  rw [hY, hM] at hv2
  unfold Hid at HE
  rw [hY, hM] at HE
  obtain ⟨u1, u2, u3, u4, u5, u6⟩ := vld_t hv2
  unfold mth at hY hM
  have D := dim_bd Y M
  have e1 : ((y - 1) * 12 + m - 1 + many) / 12 = Y - 1 := by omega
  have e2 : ((y - 1) * 12 + m - 1 + many) % 12 = M - 1 := by omega
  have HT := Lib.hid ht
  clear hY hM ht hv hN hm
  by_cases hd : d ≤ dim Y M
  · rw [Int.min_eq_left hd] at HE hv2
    have HV := Lib.hid hv2
    have HE' := Lib.hid HE
    clear HE hv2 u5 u6
    go_enter Tryd.func28, Tryd.ntmps28
    go_wp2_with (first
      | (go_at_call 14; (with_reducible refine O.out.mono ?_); rintro e w' ⟨rfl, rfl⟩)
      | (go_at_call 32; (with_reducible refine (monthDays_any Y M u1 u2 u3 u4 _ HT.out).mono ?_); rintro e w' ⟨rfl, rfl⟩)
      | (go_at_call 25; (with_reducible refine (from_ok Y M d HV.out _ HT.out).mono ?_); rintro e w' ⟨rfl, rfl⟩))
    go_ret2
    exact ⟨ret_tup2 HE'.out.symm rfl, rfl⟩
  · rw [Int.min_eq_right (by omega)] at HE hv2
    have HV := Lib.hid hv2
    have HE' := Lib.hid HE
    clear HE hv2 u5 u6
    go_enter Tryd.func28, Tryd.ntmps28
    go_wp2_with (first
      | (go_at_call 14; (with_reducible refine O.out.mono ?_); rintro e w' ⟨rfl, rfl⟩)
      | (go_at_call 32; (with_reducible refine (monthDays_any Y M u1 u2 u3 u4 _ HT.out).mono ?_); rintro e w' ⟨rfl, rfl⟩)
      | (go_at_call 25; (with_reducible refine (from_ok Y M (dim Y M) HV.out _ HT.out).mono ?_); rintro e w' ⟨rfl, rfl⟩))
    go_ret2
    exact ⟨ret_tup2 HE'.out.symm rfl, rfl⟩

theorem months_wide (y m d n many : Int) (hv : vldB y m d = true) (hN : num y m d = n) (hm : mthB y m many = false) (w : World) (ht : Tab w) :
    Calls Tryd.prog 28 #[.int .i64 n, .int .i64 many] w fun e w' => e = .returned (.tuple #[.int .i64 0, .int .i64 8]) ∧ w = w' := by
  have O := Lib.hid (of_at y m d n hv hN w ht)
  obtain ⟨v1, v2, v3, v4, v5, v6⟩ := vld_t hv
  have h := mth_f hm
  unfold mth at h
  have db := dim_bd y m
  clear hv hN hm ht
  by_cases a : many < -120000
  · clear h
    go_enter Tryd.func28, Tryd.ntmps28
    go_wp2_with (go_at_call 14; (with_reducible refine O.out.mono ?_); rintro e w' ⟨rfl, rfl⟩)
    go_ret2
    exact ⟨rfl, rfl⟩
  · by_cases b : 120000 < many
    · clear h
      go_enter Tryd.func28, Tryd.ntmps28
      go_wp2_with (go_at_call 14; (with_reducible refine O.out.mono ?_); rintro e w' ⟨rfl, rfl⟩)
      go_ret2
      exact ⟨rfl, rfl⟩
    · have a' : -120000 ≤ many := by omega
      have b' : many ≤ 120000 := by omega
      clear a b
      by_cases c : (y - 1) * 12 + m - 1 + many < 0
      · clear h
        go_enter Tryd.func28, Tryd.ntmps28
        go_wp2_with (go_at_call 14; (with_reducible refine O.out.mono ?_); rintro e w' ⟨rfl, rfl⟩)
        go_ret2
        exact ⟨rfl, rfl⟩
      · have c' : 119988 ≤ (y - 1) * 12 + m - 1 + many := by omega
        clear h
        go_enter Tryd.func28, Tryd.ntmps28
        go_wp2_with (go_at_call 14; (with_reducible refine O.out.mono ?_); rintro e w' ⟨rfl, rfl⟩)
        go_ret2
        exact ⟨rfl, rfl⟩

theorem months_no (n many : Int) (h : n < 0 ∨ 3652058 < n) (w : World) :
    Calls Tryd.prog 28 #[.int .i64 n, .int .i64 many] w fun e w' => e = .returned (.tuple #[.int .i64 0, .int .i64 3]) ∧ w = w' := by
  have O := Lib.hid (of_no n h w)
  clear h
  go_enter Tryd.func28, Tryd.ntmps28
  go_wp2_with (go_at_call 14; (with_reducible refine O.out.mono ?_); rintro e w' ⟨rfl, rfl⟩)
  go_ret2
  exact ⟨rfl, rfl⟩

theorem begun_from1 (w : World) (ht : Tab w) : Calls Tryd.prog 25 #[.int .i64 2026, .int .i64 11, .int .i64 16] w fun e w' => e = .returned (.tuple #[.int .i64 739935, .int .i64 0]) ∧ w = w' := from_ok 2026 11 16 (by decide) w ht
theorem begun_from2 (w : World) (ht : Tab w) : Calls Tryd.prog 25 #[.int .i64 9999, .int .i64 12, .int .i64 31] w fun e w' => e = .returned (.tuple #[.int .i64 3652058, .int .i64 0]) ∧ w = w' := from_ok 9999 12 31 (by decide) w ht
theorem begun_from3 (w : World) (ht : Tab w) : Calls Tryd.prog 25 #[.int .i64 2023, .int .i64 2, .int .i64 29] w fun e w' => e = .returned (.tuple #[.int .i64 0, .int .i64 3]) ∧ w = w' := from_no 2023 2 29 (by decide) w ht
theorem begun_of (w : World) (ht : Tab w) : Calls Tryd.prog 14 #[.int .i64 739935] w fun e w' => e = .returned (.tuple #[.int .i64 2026, .int .i64 11, .int .i64 16, .int .i64 0]) ∧ w = w' := of_at 2026 11 16 739935 (by decide) (by decide) w ht
theorem begun_week (w : World) : Calls Tryd.prog 26 #[.int .i64 739935] w fun e w' => e = .returned (.tuple #[.int .i64 0, .int .i64 0]) ∧ w = w' := week_ok 739935 (by decide) (by decide) w
theorem begun_leap (w : World) : Calls Tryd.prog 27 #[.int .i64 1900] w fun e w' => e = .returned (.tuple #[.bool false, .int .i64 0]) ∧ w = w' := leap_ok 1900 (by decide) (by decide) w
theorem begun_months (w : World) (ht : Tab w) : Calls Tryd.prog 28 #[.int .i64 739935, .int .i64 3] w fun e w' => e = .returned (.tuple #[.int .i64 740027, .int .i64 0]) ∧ w = w' := months_ok 2026 11 16 739935 3 (by decide) (by decide) (by decide) w ht

set_option maxRecDepth 100000 in
set_option maxHeartbeats 1000000 in
theorem dateBegun (w : World) (ht : Tab w) : Calls Tryd.prog 13 #[] w fun e w' => e = .returned (.bool true) ∧ w = w' := by
  have HT := Lib.hid ht; clear ht
  go_enter Tryd.func13, Tryd.ntmps13
  go_wp2_with (first
    | (go_at_call 25; (with_reducible refine (begun_from1 _ HT.out).mono ?_); rintro e w' ⟨rfl, rfl⟩)
    | (go_at_call 25; (with_reducible refine (begun_from2 _ HT.out).mono ?_); rintro e w' ⟨rfl, rfl⟩)
    | (go_at_call 25; (with_reducible refine (begun_from3 _ HT.out).mono ?_); rintro e w' ⟨rfl, rfl⟩)
    | (go_at_call 14; (with_reducible refine (begun_of _ HT.out).mono ?_); rintro e w' ⟨rfl, rfl⟩)
    | (go_at_call 26; (with_reducible refine (begun_week _).mono ?_); rintro e w' ⟨rfl, rfl⟩)
    | (go_at_call 27; (with_reducible refine (begun_leap _).mono ?_); rintro e w' ⟨rfl, rfl⟩)
    | (go_at_call 28; (with_reducible refine (begun_months _ HT.out).mono ?_); rintro e w' ⟨rfl, rfl⟩))
  go_ret
  exact ⟨rfl, rfl⟩

end Go.Proofs.YthnepfdhdfhdkaaDoor
