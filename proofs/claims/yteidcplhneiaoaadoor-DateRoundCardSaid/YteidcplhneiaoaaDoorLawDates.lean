/-
  DateBack, DateRound, DateOrder: the laws answer true.
-/
import Derived.Test.YteidcplhneiaoaaDoorDateC
namespace Go.Proofs.YteidcplhneiaoaaDoor
open Go.RowKit
set_option linter.unusedVariables false

set_option maxRecDepth 100000 in
set_option maxHeartbeats 1000000 in
theorem dateBack_walk (y m d n : Int) (w : World) (ht : Tab w) :
    Calls Tryd.prog 4 #[.int .i64 y, .int .i64 m, .int .i64 d, .int .i64 n] w fun r w' => r = .returned (.bool true) ∧ w = w' := by
  have B := Lib.hid (dateBegun w ht)
  by_cases hn : 0 ≤ n ∧ n ≤ 3652058
  · obtain ⟨a, b, c, hv2, hN⟩ := num_onto n hn.1 hn.2
    have F2 := from_ok a b c hv2 w ht
    rw [hN] at F2
    replace F2 := Lib.hid F2
    have O2 := Lib.hid (of_at a b c n hv2 hN w ht)
    cases hv : vldB y m d with
    | true =>
      have F1 := from_ok y m d hv w ht
      have O1 := of_at y m d (num y m d) hv rfl w ht
      generalize num y m d = k at F1 O1
      replace F1 := Lib.hid F1
      replace O1 := Lib.hid O1
      clear hn hv hv2 hN ht
      go_enter Tryd.func4, Tryd.ntmps4
      go_wp2_with (first
        | (go_at_call 16; (with_reducible refine F1.out.mono ?_); rintro e w' ⟨rfl, rfl⟩)
        | (go_at_call 17; (with_reducible refine O2.out.mono ?_); rintro e w' ⟨rfl, rfl⟩)
        | (go_at_call 24; (with_reducible refine B.out.mono ?_); rintro e w' ⟨rfl, rfl⟩)
        | (go_at_call 17; (with_reducible refine O1.out.mono ?_); rintro e w' ⟨rfl, rfl⟩)
        | (go_at_call 16; (with_reducible refine F2.out.mono ?_); rintro e w' ⟨rfl, rfl⟩))
      go_ret
      exact ⟨rfl, rfl⟩
    | false =>
      have F1 := Lib.hid (from_no y m d hv w ht)
      clear hn hv hv2 hN ht
      go_enter Tryd.func4, Tryd.ntmps4
      go_wp2_with (first
        | (go_at_call 16; (with_reducible refine F1.out.mono ?_); rintro e w' ⟨rfl, rfl⟩)
        | (go_at_call 17; (with_reducible refine O2.out.mono ?_); rintro e w' ⟨rfl, rfl⟩)
        | (go_at_call 24; (with_reducible refine B.out.mono ?_); rintro e w' ⟨rfl, rfl⟩)
        | (go_at_call 16; (with_reducible refine F2.out.mono ?_); rintro e w' ⟨rfl, rfl⟩))
      go_ret
      exact ⟨rfl, rfl⟩
  · have O2 := Lib.hid (of_no n (by omega) w)
    cases hv : vldB y m d with
    | true =>
      have F1 := from_ok y m d hv w ht
      have O1 := of_at y m d (num y m d) hv rfl w ht
      generalize num y m d = k at F1 O1
      replace F1 := Lib.hid F1
      replace O1 := Lib.hid O1
      clear hn hv ht
      go_enter Tryd.func4, Tryd.ntmps4
      go_wp2_with (first
        | (go_at_call 16; (with_reducible refine F1.out.mono ?_); rintro e w' ⟨rfl, rfl⟩)
        | (go_at_call 17; (with_reducible refine O2.out.mono ?_); rintro e w' ⟨rfl, rfl⟩)
        | (go_at_call 24; (with_reducible refine B.out.mono ?_); rintro e w' ⟨rfl, rfl⟩)
        | (go_at_call 17; (with_reducible refine O1.out.mono ?_); rintro e w' ⟨rfl, rfl⟩))
      go_ret
      exact ⟨rfl, rfl⟩
    | false =>
      have F1 := Lib.hid (from_no y m d hv w ht)
      clear hn hv ht
      go_enter Tryd.func4, Tryd.ntmps4
      go_wp2_with (first
        | (go_at_call 16; (with_reducible refine F1.out.mono ?_); rintro e w' ⟨rfl, rfl⟩)
        | (go_at_call 17; (with_reducible refine O2.out.mono ?_); rintro e w' ⟨rfl, rfl⟩)
        | (go_at_call 24; (with_reducible refine B.out.mono ?_); rintro e w' ⟨rfl, rfl⟩))
      go_ret
      exact ⟨rfl, rfl⟩

theorem num_400 (y m d : Int) : num (y + 400) m d = num y m d + 146097 := by
  unfold num; rw [yd_400, cum_400]; omega
theorem vld_400 {y m d : Int} (h : vldB y m d = true) (h' : y ≤ 9599) : vldB (y + 400) m d = true := by
  obtain ⟨v1, v2, v3, v4, v5, v6⟩ := vld_t h
  exact vld_mk ⟨by omega, by omega, v3, v4, v5, by rw [dim_400]; exact v6⟩

set_option maxRecDepth 100000 in
set_option maxHeartbeats 1000000 in
theorem dateRound_walk (y m d : Int) (w : World) (ht : Tab w) :
    Calls Tryd.prog 5 #[.int .i64 y, .int .i64 m, .int .i64 d] w fun r w' => r = .returned (.bool true) ∧ w = w' := by
  have B := Lib.hid (dateBegun w ht)
  cases hv : vldB y m d with
  | true =>
    have F1 := from_ok y m d hv w ht
    have nb := num_bd hv
    obtain ⟨v1, v2, -⟩ := vld_t hv
    by_cases h : y ≤ 9599
    · have F2 := from_ok (y + 400) m d (vld_400 hv h) w ht
      have nb2 := num_bd (vld_400 hv h)
      rw [num_400] at F2 nb2
      generalize num y m d = n at F1 F2 nb nb2
      obtain ⟨nb, nb'⟩ := nb
      obtain ⟨nc, nc'⟩ := nb2
      have W1 := Lib.hid (week_ok n nb nb' w)
      have W2 := week_ok (n + 146097) nc nc' w
      have e7 : (n + 146097) % 7 = n % 7 := by omega
      rw [e7] at W2
      replace W2 := Lib.hid W2
      replace F1 := Lib.hid F1
      replace F2 := Lib.hid F2
      clear e7 hv ht
      go_enter Tryd.func5, Tryd.ntmps5
      go_wp2_with (first
        | (go_at_call 16; (with_reducible refine F1.out.mono ?_); rintro e w' ⟨rfl, rfl⟩)
        | (go_at_call 24; (with_reducible refine B.out.mono ?_); rintro e w' ⟨rfl, rfl⟩)
        | (go_at_call 16; (with_reducible refine F2.out.mono ?_); rintro e w' ⟨rfl, rfl⟩)
        | (go_at_call 18; (with_reducible refine W1.out.mono ?_); rintro e w' ⟨rfl, rfl⟩)
        | (go_at_call 18; (with_reducible refine W2.out.mono ?_); rintro e w' ⟨rfl, rfl⟩))
      go_ret
      exact ⟨rfl, rfl⟩
    · generalize num y m d = n at F1
      replace F1 := Lib.hid F1
      clear hv ht nb
      go_enter Tryd.func5, Tryd.ntmps5
      go_wp2_with (first
        | (go_at_call 16; (with_reducible refine F1.out.mono ?_); rintro e w' ⟨rfl, rfl⟩)
        | (go_at_call 24; (with_reducible refine B.out.mono ?_); rintro e w' ⟨rfl, rfl⟩))
      go_ret
      exact ⟨rfl, rfl⟩
  | false =>
    have F1 := Lib.hid (from_no y m d hv w ht)
    clear hv ht
    go_enter Tryd.func5, Tryd.ntmps5
    go_wp2_with (first
      | (go_at_call 16; (with_reducible refine F1.out.mono ?_); rintro e w' ⟨rfl, rfl⟩)
      | (go_at_call 24; (with_reducible refine B.out.mono ?_); rintro e w' ⟨rfl, rfl⟩))
    go_ret
    exact ⟨rfl, rfl⟩

end Go.Proofs.YteidcplhneiaoaaDoor
