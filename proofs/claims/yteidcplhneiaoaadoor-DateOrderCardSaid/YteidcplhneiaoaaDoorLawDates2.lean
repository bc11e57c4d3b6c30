/-
  DateOrder, DateMonths, DateLong: the laws answer true.
-/
import Derived.Test.YteidcplhneiaoaaDoorDateC
namespace Go.Proofs.YteidcplhneiaoaaDoor
open Go.RowKit
set_option linter.unusedVariables false

set_option maxRecDepth 100000 in
set_option maxHeartbeats 1000000 in
theorem dateOrder_no (n k : Int) (h : ¬ (0 ≤ n ∧ n ≤ 3652058 ∧ 0 ≤ k ∧ k ≤ 3652058)) (w : World) (ht : Tab w) :
    Calls Tryd.prog 6 #[.int .i64 n, .int .i64 k] w fun r w' => r = .returned (.bool true) ∧ w = w' := by
  have B := Lib.hid (dateBegun w ht)
  by_cases hn : 0 ≤ n ∧ n ≤ 3652058
  · obtain ⟨a, b, c, hv2, hN⟩ := num_onto n hn.1 hn.2
    have O1 := Lib.hid (of_at a b c n hv2 hN w ht)
    have O2 := Lib.hid (of_no k (by omega) w)
    clear hn hv2 hN ht h
    go_enter Tryd.func6, Tryd.ntmps6
    go_wp2_with (first
      | (go_at_call 17; (with_reducible refine O1.out.mono ?_); rintro e w' ⟨rfl, rfl⟩)
      | (go_at_call 17; (with_reducible refine O2.out.mono ?_); rintro e w' ⟨rfl, rfl⟩)
      | (go_at_call 24; (with_reducible refine B.out.mono ?_); rintro e w' ⟨rfl, rfl⟩))
    go_ret
    exact ⟨rfl, rfl⟩
  · have O1 := Lib.hid (of_no n (by omega) w)
    have O2 : Hid (∃ a b c g : Int, Calls Tryd.prog 17 #[.int .i64 k] w fun e w' => e = .returned (.tuple #[.int .i64 a, .int .i64 b, .int .i64 c, .int .i64 g]) ∧ w = w') := by
      by_cases hk : 0 ≤ k ∧ k ≤ 3652058
      · obtain ⟨a, b, c, hv2, hN⟩ := num_onto k hk.1 hk.2
        exact ⟨a, b, c, 0, of_at a b c k hv2 hN w ht⟩
      · exact ⟨0, 0, 0, 3, of_no k (by omega) w⟩
    obtain ⟨a, b, c, g, O2⟩ := O2.out
    replace O2 := Lib.hid O2
    clear hn ht h
    go_enter Tryd.func6, Tryd.ntmps6
    go_wp2_with (first
      | (go_at_call 17; (with_reducible refine O1.out.mono ?_); rintro e w' ⟨rfl, rfl⟩)
      | (go_at_call 17; (with_reducible refine O2.out.mono ?_); rintro e w' ⟨rfl, rfl⟩)
      | (go_at_call 24; (with_reducible refine B.out.mono ?_); rintro e w' ⟨rfl, rfl⟩))
    go_ret
    exact ⟨rfl, rfl⟩

/-- how two dates can lie -/
theorem lie {a b c x y z n k : Int} (h1 : vldB a b c = true) (e1 : num a b c = n) (h2 : vldB x y z = true) (e2 : num x y z = k) :
    (a < x ∧ n < k) ∨ (x < a ∧ k ≤ n) ∨ (x = a ∧ b < y ∧ n < k) ∨ (x = a ∧ y < b ∧ k ≤ n) ∨ (x = a ∧ y = b ∧ c < z ∧ n < k) ∨ (x = a ∧ y = b ∧ z ≤ c ∧ k ≤ n) := by
  have l := num_later h1 h2
  rw [e1, e2] at l
  by_cases h : n < k
  · rw [decide_eq_true h] at l
    have := of_decide_eq_true l
    omega
  · rw [decide_eq_false h] at l
    have := of_decide_eq_false l
    omega
theorem lt_f {a b : Int} (h : b ≤ a) : decide (a < b) = false := decide_eq_false (by omega)
theorem eq_f {a b : Int} (h : a < b) : (a == b) = false := beq_eq_false_iff_ne.2 (by omega)

theorem seven (n : Int) (h : 0 ≤ n) : (n % 7 + 1) % 7 = (n + 1) % 7 := by omega

set_option maxRecDepth 100000 in
set_option maxHeartbeats 4000000 in
theorem dateOrder_yes (n k : Int) (n0 : 0 ≤ n) (n1 : n ≤ 3652058) (k0 : 0 ≤ k) (k1 : k ≤ 3652058) (w : World) (ht : Tab w) :
    Calls Tryd.prog 6 #[.int .i64 n, .int .i64 k] w fun r w' => r = .returned (.bool true) ∧ w = w' := by
  have B := Lib.hid (dateBegun w ht)
  obtain ⟨a, b, c, hv, hN⟩ := num_onto n n0 n1
  obtain ⟨x, y, z, hv2, hK⟩ := num_onto k k0 k1
  have O1 := Lib.hid (of_at a b c n hv hN w ht)
  have O2 := Lib.hid (of_at x y z k hv2 hK w ht)
  have L := lie hv hN hv2 hK
  have W1 := Lib.hid (week_ok n n0 n1 w)
  clear hv hv2 hN hK ht
  by_cases hm : n = 3652058
  · subst hm
    have W2 : Hid (Calls Tryd.prog 18 #[.int .i64 3652059] w fun e w' => e = .returned (.tuple #[.int .i64 0, .int .i64 3]) ∧ w = w') := week_no 3652059 (by omega) w
    rcases L with ⟨l1, l2⟩ | ⟨l1, l2⟩ | ⟨rfl, l1, l2⟩ | ⟨rfl, l1, l2⟩ | ⟨rfl, rfl, l1, l2⟩ | ⟨rfl, rfl, l1, l2⟩
    · exfalso; omega
    all_goals first
      | (exfalso; omega)
      | (have q1 := decide_eq_true l1
         have q2 := decide_eq_true l2
         (try have q3 := lt_f l2)
         (try have q4 := lt_f (Int.le_of_lt l1))
         (try have q4' := lt_f l1)
         (try have q5 := eq_f l1)
         go_enter Tryd.func6, Tryd.ntmps6
         go_wp2_with (first
          | (go_at_call 17; (with_reducible refine O1.out.mono ?_); rintro e w' ⟨rfl, rfl⟩)
          | (go_at_call 17; (with_reducible refine O2.out.mono ?_); rintro e w' ⟨rfl, rfl⟩)
          | (go_at_call 24; (with_reducible refine B.out.mono ?_); rintro e w' ⟨rfl, rfl⟩)
          | (go_at_call 18; (with_reducible refine W1.out.mono ?_); rintro e w' ⟨rfl, rfl⟩)
          | (go_at_call 18; (with_reducible refine W2.out.mono ?_); rintro e w' ⟨rfl, rfl⟩))
         go_ret
         exact ⟨rfl, rfl⟩)
  · have n2 : n + 1 ≤ 3652058 := by omega
    have s7 := seven n n0
    have W2 := Lib.hid (week_ok (n + 1) (by omega) n2 w)
    rcases L with ⟨l1, l2⟩ | ⟨l1, l2⟩ | ⟨rfl, l1, l2⟩ | ⟨rfl, l1, l2⟩ | ⟨rfl, rfl, l1, l2⟩ | ⟨rfl, rfl, l1, l2⟩
    all_goals
      have q1 := decide_eq_true l1
      have q2 := decide_eq_true l2
      (try have q3 := lt_f l2)
      (try have q4 := lt_f (Int.le_of_lt l1))
      (try have q4' := lt_f l1)
      (try have q5 := eq_f l1)
      go_enter Tryd.func6, Tryd.ntmps6
      go_wp2_with (first
        | (go_at_call 17; (with_reducible refine O1.out.mono ?_); rintro e w' ⟨rfl, rfl⟩)
        | (go_at_call 17; (with_reducible refine O2.out.mono ?_); rintro e w' ⟨rfl, rfl⟩)
        | (go_at_call 24; (with_reducible refine B.out.mono ?_); rintro e w' ⟨rfl, rfl⟩)
        | (go_at_call 18; (with_reducible refine W1.out.mono ?_); rintro e w' ⟨rfl, rfl⟩)
        | (go_at_call 18; (with_reducible refine W2.out.mono ?_); rintro e w' ⟨rfl, rfl⟩))
      go_ret
      exact ⟨rfl, rfl⟩

theorem dateOrder_walk (n k : Int) (w : World) (ht : Tab w) :
    Calls Tryd.prog 6 #[.int .i64 n, .int .i64 k] w fun r w' => r = .returned (.bool true) ∧ w = w' := by
  by_cases h : 0 ≤ n ∧ n ≤ 3652058 ∧ 0 ≤ k ∧ k ≤ 3652058
  · exact dateOrder_yes n k h.1 h.2.1 h.2.2.1 h.2.2.2 w ht
  · exact dateOrder_no n k h w ht

end Go.Proofs.YteidcplhneiaoaaDoor
