/-
  DateTells: the law answers true.
-/
import Derived.Test.YteidcplhneiaoaaDoorRefDate2
namespace Go.Proofs.YteidcplhneiaoaaDoor
open Go.RowKit
set_option linter.unusedVariables false

/-- the calls on a date agree -/
theorem from_both (y m d : Int) (w : World) (ht : Tab w) : ∃ k f : Int, (Calls Tryd.prog 16 #[.int .i64 y, .int .i64 m, .int .i64 d] w fun e w' => e = .returned (.tuple #[.int .i64 k, .int .i64 f]) ∧ w = w') ∧
    (Calls Tryd.prog 21 #[.int .i64 y, .int .i64 m, .int .i64 d] w fun e w' => e = .returned (.tuple #[.int .i64 k, .int .i64 f]) ∧ w = w') := by
  cases hv : vldB y m d with
  | true => exact ⟨_, _, from_ok y m d hv w ht, ref_from_ok y m d hv w⟩
  | false => exact ⟨_, _, from_no y m d hv w ht, ref_from_no y m d hv w⟩
/-- the calls on a number agree -/
theorem of_both (n many : Int) (h : 0 ≤ n ∧ n ≤ 3652058) (w : World) (ht : Tab w) : ∃ a b c o i : Int,
    (Calls Tryd.prog 17 #[.int .i64 n] w fun e w' => e = .returned (.tuple #[.int .i64 a, .int .i64 b, .int .i64 c, .int .i64 0]) ∧ w = w') ∧
    (Calls Tryd.prog 22 #[.int .i64 n] w fun e w' => e = .returned (.tuple #[.int .i64 a, .int .i64 b, .int .i64 c, .int .i64 0]) ∧ w = w') ∧
    (Calls Tryd.prog 19 #[.int .i64 n, .int .i64 many] w fun e w' => e = .returned (.tuple #[.int .i64 o, .int .i64 i]) ∧ w = w') ∧
    (Calls Tryd.prog 23 #[.int .i64 n, .int .i64 many] w fun e w' => e = .returned (.tuple #[.int .i64 o, .int .i64 i]) ∧ w = w') := by
  obtain ⟨a, b, c, hv, hN⟩ := num_onto n h.1 h.2
  have R := ref_months_any a b c n many hv hN w
  unfold Turned at R
  cases hm : mthB a b many with
  | true =>
    rw [hm] at R
    exact ⟨a, b, c, _, _, of_at a b c n hv hN w ht, ref_of_at a b c n hv hN w, months_ok a b c n many hv hN hm w ht, R⟩
  | false =>
    rw [hm] at R
    exact ⟨a, b, c, _, _, of_at a b c n hv hN w ht, ref_of_at a b c n hv hN w, months_wide a b c n many hv hN hm w ht, R⟩

theorem week7 (n : Int) (h : 0 ≤ n) : n - n / 7 * 7 = n % 7 := by omega

set_option maxRecDepth 100000 in
set_option maxHeartbeats 2000000 in
theorem dateTells_walk (y m d n many : Int) (w : World) (ht : Tab w) :
    Calls Tryd.prog 3 #[.int .i64 y, .int .i64 m, .int .i64 d, .int .i64 n, .int .i64 many] w fun r w' => r = .returned (.bool true) ∧ w = w' := by
  have B := Lib.hid (dateBegun w ht)
  obtain ⟨k, f, F1, F2⟩ := from_both y m d w ht
  replace F1 := Lib.hid F1
  replace F2 := Lib.hid F2
  have Y : (y < 1 ∧ Hid (Calls Tryd.prog 15 #[.int .i64 y] w fun e w' => e = .returned (.tuple #[.bool false, .int .i64 3]) ∧ w = w')) ∨
      ((1 ≤ y ∧ 9999 < y) ∧ Hid (Calls Tryd.prog 15 #[.int .i64 y] w fun e w' => e = .returned (.tuple #[.bool false, .int .i64 3]) ∧ w = w')) ∨
      ((1 ≤ y ∧ y ≤ 9999) ∧ Hid (Calls Tryd.prog 15 #[.int .i64 y] w fun e w' => e = .returned (.tuple #[.bool (leapB y), .int .i64 0]) ∧ w = w')) := by
    by_cases a : y < 1
    · exact .inl ⟨a, leap_rng y (.inl a) w⟩
    · by_cases b : 9999 < y
      · exact .inr (.inl ⟨⟨by omega, b⟩, leap_rng y (.inr b) w⟩)
      · exact .inr (.inr ⟨⟨by omega, by omega⟩, leap_ok y (by omega) (by omega) w⟩)
  by_cases hn : 0 ≤ n ∧ n ≤ 3652058
  · obtain ⟨a, b, c, o, i, O1, O2, M1, M2⟩ := of_both n many hn w ht
    replace O1 := Lib.hid O1
    replace O2 := Lib.hid O2
    replace M1 := Lib.hid M1
    replace M2 := Lib.hid M2
    have W1 := week_ok n hn.1 hn.2 w
    have e7 := week7 n hn.1
    rw [← e7] at W1
    replace W1 := Lib.hid W1
    obtain ⟨hn0, hn1⟩ := hn
    clear ht e7
    rcases Y with ⟨y1, L1⟩ | ⟨⟨y1, y2⟩, L1⟩ | ⟨⟨y1, y2⟩, L1⟩
    · go_enter Tryd.func3, Tryd.ntmps3
      go_wp2_with (first
        | (go_at_call 15; (with_reducible refine L1.out.mono ?_); rintro e w' ⟨rfl, rfl⟩)
        | (go_at_call 16; (with_reducible refine F1.out.mono ?_); rintro e w' ⟨rfl, rfl⟩)
        | (go_at_call 17; (with_reducible refine O1.out.mono ?_); rintro e w' ⟨rfl, rfl⟩)
        | (go_at_call 18; (with_reducible refine W1.out.mono ?_); rintro e w' ⟨rfl, rfl⟩)
        | (go_at_call 19; (with_reducible refine M1.out.mono ?_); rintro e w' ⟨rfl, rfl⟩)
        | (go_at_call 21; (with_reducible refine F2.out.mono ?_); rintro e w' ⟨rfl, rfl⟩)
        | (go_at_call 22; (with_reducible refine O2.out.mono ?_); rintro e w' ⟨rfl, rfl⟩)
        | (go_at_call 23; (with_reducible refine M2.out.mono ?_); rintro e w' ⟨rfl, rfl⟩)
        | (go_at_call 24; (with_reducible refine B.out.mono ?_); rintro e w' ⟨rfl, rfl⟩))
      go_ret
      exact ⟨rfl, rfl⟩
    · go_enter Tryd.func3, Tryd.ntmps3
      go_wp2_with (first
        | (go_at_call 15; (with_reducible refine L1.out.mono ?_); rintro e w' ⟨rfl, rfl⟩)
        | (go_at_call 16; (with_reducible refine F1.out.mono ?_); rintro e w' ⟨rfl, rfl⟩)
        | (go_at_call 17; (with_reducible refine O1.out.mono ?_); rintro e w' ⟨rfl, rfl⟩)
        | (go_at_call 18; (with_reducible refine W1.out.mono ?_); rintro e w' ⟨rfl, rfl⟩)
        | (go_at_call 19; (with_reducible refine M1.out.mono ?_); rintro e w' ⟨rfl, rfl⟩)
        | (go_at_call 21; (with_reducible refine F2.out.mono ?_); rintro e w' ⟨rfl, rfl⟩)
        | (go_at_call 22; (with_reducible refine O2.out.mono ?_); rintro e w' ⟨rfl, rfl⟩)
        | (go_at_call 23; (with_reducible refine M2.out.mono ?_); rintro e w' ⟨rfl, rfl⟩)
        | (go_at_call 24; (with_reducible refine B.out.mono ?_); rintro e w' ⟨rfl, rfl⟩))
      go_ret
      exact ⟨rfl, rfl⟩
    · have RL := Lib.hid (ref_leap y (by omega) (by omega) w)
      go_enter Tryd.func3, Tryd.ntmps3
      go_wp2_with (first
        | (go_at_call 15; (with_reducible refine L1.out.mono ?_); rintro e w' ⟨rfl, rfl⟩)
        | (go_at_call 20; (with_reducible refine RL.out.mono ?_); rintro e w' ⟨rfl, rfl⟩)
        | (go_at_call 16; (with_reducible refine F1.out.mono ?_); rintro e w' ⟨rfl, rfl⟩)
        | (go_at_call 17; (with_reducible refine O1.out.mono ?_); rintro e w' ⟨rfl, rfl⟩)
        | (go_at_call 18; (with_reducible refine W1.out.mono ?_); rintro e w' ⟨rfl, rfl⟩)
        | (go_at_call 19; (with_reducible refine M1.out.mono ?_); rintro e w' ⟨rfl, rfl⟩)
        | (go_at_call 21; (with_reducible refine F2.out.mono ?_); rintro e w' ⟨rfl, rfl⟩)
        | (go_at_call 22; (with_reducible refine O2.out.mono ?_); rintro e w' ⟨rfl, rfl⟩)
        | (go_at_call 23; (with_reducible refine M2.out.mono ?_); rintro e w' ⟨rfl, rfl⟩)
        | (go_at_call 24; (with_reducible refine B.out.mono ?_); rintro e w' ⟨rfl, rfl⟩))
      go_ret
      exact ⟨rfl, rfl⟩
  · have O1 := Lib.hid (of_no n (by omega) w)
    have O2 := Lib.hid (ref_of_no n (by omega) w)
    have M1 := Lib.hid (months_no n many (by omega) w)
    have M2 := Lib.hid (ref_months_no n many (by omega) w)
    have W1 := Lib.hid (week_no n (by omega) w)
    clear ht hn
    rcases Y with ⟨y1, L1⟩ | ⟨⟨y1, y2⟩, L1⟩ | ⟨⟨y1, y2⟩, L1⟩
    · go_enter Tryd.func3, Tryd.ntmps3
      go_wp2_with (first
        | (go_at_call 15; (with_reducible refine L1.out.mono ?_); rintro e w' ⟨rfl, rfl⟩)
        | (go_at_call 16; (with_reducible refine F1.out.mono ?_); rintro e w' ⟨rfl, rfl⟩)
        | (go_at_call 17; (with_reducible refine O1.out.mono ?_); rintro e w' ⟨rfl, rfl⟩)
        | (go_at_call 18; (with_reducible refine W1.out.mono ?_); rintro e w' ⟨rfl, rfl⟩)
        | (go_at_call 19; (with_reducible refine M1.out.mono ?_); rintro e w' ⟨rfl, rfl⟩)
        | (go_at_call 21; (with_reducible refine F2.out.mono ?_); rintro e w' ⟨rfl, rfl⟩)
        | (go_at_call 22; (with_reducible refine O2.out.mono ?_); rintro e w' ⟨rfl, rfl⟩)
        | (go_at_call 23; (with_reducible refine M2.out.mono ?_); rintro e w' ⟨rfl, rfl⟩)
        | (go_at_call 24; (with_reducible refine B.out.mono ?_); rintro e w' ⟨rfl, rfl⟩))
      go_ret
      exact ⟨rfl, rfl⟩
    · go_enter Tryd.func3, Tryd.ntmps3
      go_wp2_with (first
        | (go_at_call 15; (with_reducible refine L1.out.mono ?_); rintro e w' ⟨rfl, rfl⟩)
        | (go_at_call 16; (with_reducible refine F1.out.mono ?_); rintro e w' ⟨rfl, rfl⟩)
        | (go_at_call 17; (with_reducible refine O1.out.mono ?_); rintro e w' ⟨rfl, rfl⟩)
        | (go_at_call 18; (with_reducible refine W1.out.mono ?_); rintro e w' ⟨rfl, rfl⟩)
        | (go_at_call 19; (with_reducible refine M1.out.mono ?_); rintro e w' ⟨rfl, rfl⟩)
        | (go_at_call 21; (with_reducible refine F2.out.mono ?_); rintro e w' ⟨rfl, rfl⟩)
        | (go_at_call 22; (with_reducible refine O2.out.mono ?_); rintro e w' ⟨rfl, rfl⟩)
        | (go_at_call 23; (with_reducible refine M2.out.mono ?_); rintro e w' ⟨rfl, rfl⟩)
        | (go_at_call 24; (with_reducible refine B.out.mono ?_); rintro e w' ⟨rfl, rfl⟩))
      go_ret
      exact ⟨rfl, rfl⟩
    · have RL := Lib.hid (ref_leap y (by omega) (by omega) w)
      go_enter Tryd.func3, Tryd.ntmps3
      go_wp2_with (first
        | (go_at_call 15; (with_reducible refine L1.out.mono ?_); rintro e w' ⟨rfl, rfl⟩)
        | (go_at_call 20; (with_reducible refine RL.out.mono ?_); rintro e w' ⟨rfl, rfl⟩)
        | (go_at_call 16; (with_reducible refine F1.out.mono ?_); rintro e w' ⟨rfl, rfl⟩)
        | (go_at_call 17; (with_reducible refine O1.out.mono ?_); rintro e w' ⟨rfl, rfl⟩)
        | (go_at_call 18; (with_reducible refine W1.out.mono ?_); rintro e w' ⟨rfl, rfl⟩)
        | (go_at_call 19; (with_reducible refine M1.out.mono ?_); rintro e w' ⟨rfl, rfl⟩)
        | (go_at_call 21; (with_reducible refine F2.out.mono ?_); rintro e w' ⟨rfl, rfl⟩)
        | (go_at_call 22; (with_reducible refine O2.out.mono ?_); rintro e w' ⟨rfl, rfl⟩)
        | (go_at_call 23; (with_reducible refine M2.out.mono ?_); rintro e w' ⟨rfl, rfl⟩)
        | (go_at_call 24; (with_reducible refine B.out.mono ?_); rintro e w' ⟨rfl, rfl⟩))
      go_ret
      exact ⟨rfl, rfl⟩

end Go.Proofs.YteidcplhneiaoaaDoor
