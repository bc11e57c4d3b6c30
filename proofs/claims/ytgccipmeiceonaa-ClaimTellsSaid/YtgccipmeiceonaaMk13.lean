/-
  Merged: RefClm.
-/
import Derived.Test.YtgccipmeiceonaaMk1
import Derived.Test.YtgccipmeiceonaaMk9
import Derived.Test.YtgccipmeiceonaaMk8
import Derived.Test.YtgccipmeiceonaaMk12
-- RefClm
namespace Go.Proofs.Ytgccipmeiceonaa
open Go.RowKit
set_option linter.unusedVariables false

set_option maxHeartbeats 2000000 in
theorem rev_run (P C G O : Int) (w : World) : Calls Try.prog 46 #[.agg #[.int .i64 P, .int .i64 C, .int .i64 G, .int .i64 O]] w fun e w' => e = .returned (.int .i64 (evE P C G O)) ∧ Kpt w w' := by
  have PC := Lib.hid (fun w => rprc_run C w)
  by_cases h0 : 1 ≤ P ∧ P ≤ 20
  · have B0 := Lib.hid (fun w => rbt_any P 1 20 true (by unfold btw; exact decide_eq_true h0) w)
    cases hp : prcB C with
    | true =>
      rw [hp, if_pos rfl] at PC
      have pb := prc_t hp
      by_cases h2 : 0 ≤ G ∧ G ≤ 1000
      · have B2 := Lib.hid (fun w => rbt_any G 0 1000 true (by unfold btw; exact decide_eq_true h2) w)
        by_cases h3 : 0 ≤ O ∧ O ≤ 1000
        · have B3 := Lib.hid (fun w => rbt_any O 0 1000 true (by unfold btw; exact decide_eq_true h3) w)
          have e0 : evE P C G O = (if (G = 0 ∧ O ≠ 0) ∨ (G ≠ 0 ∧ O = 0) then 1 else if O = 0 ∧ C = 0 then 1 else 0) := if_pos (by omega)
          rw [e0]
          clear e0
          by_cases hG : G = 0
          · have g0 : (G == 0) = true := beq_iff_eq.2 hG
            have g1 : decide (0 < G) = false := decide_eq_false (by omega)
            by_cases hO : O = 0
            · have o0 : (O == 0) = true := beq_iff_eq.2 hO
              have o1 : decide (0 < O) = false := decide_eq_false (by omega)
              rw [if_neg (by omega)]
              by_cases hC : C = 0
              · have c0 : (C == 0) = true := beq_iff_eq.2 hC
                rw [if_pos ⟨hO, hC⟩]
                clear hC
                have := trivial
                clear hG hO h0 h2 h3 pb hp
                go_enter Try.func46, Try.ntmps46
                go_wp2_with (first
                  | (go_at_call 61; (with_reducible refine (B0.out _).mono ?_); rintro e w9 ⟨rfl, rfl⟩)
                  | (go_at_call 62; (with_reducible refine (PC.out _).mono ?_); rintro e w9 ⟨rfl, rfl⟩)
                  | (go_at_call 61; (with_reducible refine (B2.out _).mono ?_); rintro e w9 ⟨rfl, rfl⟩)
                  | (go_at_call 61; (with_reducible refine (B3.out _).mono ?_); rintro e w9 ⟨rfl, rfl⟩)
                  | fail)
                go_ret
                exact ⟨rfl, (Kpt.refl w).alloc _⟩
              · have c0 : (C == 0) = false := beq_eq_false_iff_ne.2 hC
                rw [if_neg (by omega)]
                clear hC
                have := trivial
                clear hG hO h0 h2 h3 pb hp
                go_enter Try.func46, Try.ntmps46
                go_wp2_with (first
                  | (go_at_call 61; (with_reducible refine (B0.out _).mono ?_); rintro e w9 ⟨rfl, rfl⟩)
                  | (go_at_call 62; (with_reducible refine (PC.out _).mono ?_); rintro e w9 ⟨rfl, rfl⟩)
                  | (go_at_call 61; (with_reducible refine (B2.out _).mono ?_); rintro e w9 ⟨rfl, rfl⟩)
                  | (go_at_call 61; (with_reducible refine (B3.out _).mono ?_); rintro e w9 ⟨rfl, rfl⟩)
                  | fail)
                go_ret
                exact ⟨rfl, (Kpt.refl w).alloc _⟩
            · have o0 : (O == 0) = false := beq_eq_false_iff_ne.2 hO
              have o1 : decide (0 < O) = true := decide_eq_true (by omega)
              rw [if_pos (by omega)]
              clear hG hO h0 h2 h3 pb hp
              go_enter Try.func46, Try.ntmps46
              go_wp2_with (first
                | (go_at_call 61; (with_reducible refine (B0.out _).mono ?_); rintro e w9 ⟨rfl, rfl⟩)
                | (go_at_call 62; (with_reducible refine (PC.out _).mono ?_); rintro e w9 ⟨rfl, rfl⟩)
                | (go_at_call 61; (with_reducible refine (B2.out _).mono ?_); rintro e w9 ⟨rfl, rfl⟩)
                | (go_at_call 61; (with_reducible refine (B3.out _).mono ?_); rintro e w9 ⟨rfl, rfl⟩)
                | fail)
              go_ret
              exact ⟨rfl, (Kpt.refl w).alloc _⟩
          · have g0 : (G == 0) = false := beq_eq_false_iff_ne.2 hG
            have g1 : decide (0 < G) = true := decide_eq_true (by omega)
            by_cases hO : O = 0
            · have o0 : (O == 0) = true := beq_iff_eq.2 hO
              have o1 : decide (0 < O) = false := decide_eq_false (by omega)
              rw [if_pos (by omega)]
              clear hG hO h0 h2 h3 pb hp
              go_enter Try.func46, Try.ntmps46
              go_wp2_with (first
                | (go_at_call 61; (with_reducible refine (B0.out _).mono ?_); rintro e w9 ⟨rfl, rfl⟩)
                | (go_at_call 62; (with_reducible refine (PC.out _).mono ?_); rintro e w9 ⟨rfl, rfl⟩)
                | (go_at_call 61; (with_reducible refine (B2.out _).mono ?_); rintro e w9 ⟨rfl, rfl⟩)
                | (go_at_call 61; (with_reducible refine (B3.out _).mono ?_); rintro e w9 ⟨rfl, rfl⟩)
                | fail)
              go_ret
              exact ⟨rfl, (Kpt.refl w).alloc _⟩
            · have o0 : (O == 0) = false := beq_eq_false_iff_ne.2 hO
              have o1 : decide (0 < O) = true := decide_eq_true (by omega)
              rw [if_neg (by omega)]
              rw [if_neg (by omega)]
              clear hG hO h0 h2 h3 pb hp
              go_enter Try.func46, Try.ntmps46
              go_wp2_with (first
                | (go_at_call 61; (with_reducible refine (B0.out _).mono ?_); rintro e w9 ⟨rfl, rfl⟩)
                | (go_at_call 62; (with_reducible refine (PC.out _).mono ?_); rintro e w9 ⟨rfl, rfl⟩)
                | (go_at_call 61; (with_reducible refine (B2.out _).mono ?_); rintro e w9 ⟨rfl, rfl⟩)
                | (go_at_call 61; (with_reducible refine (B3.out _).mono ?_); rintro e w9 ⟨rfl, rfl⟩)
                | fail)
              go_ret
              exact ⟨rfl, (Kpt.refl w).alloc _⟩
        · have B3 := Lib.hid (fun w => rbt_any O 0 1000 false (by unfold btw; exact decide_eq_false h3) w)
          rw [show evE P C G O = 3 from if_neg (by omega)]
          clear h0 h2 h3 pb hp
          go_enter Try.func46, Try.ntmps46
          go_wp2_with (first
            | (go_at_call 61; (with_reducible refine (B0.out _).mono ?_); rintro e w9 ⟨rfl, rfl⟩)
            | (go_at_call 62; (with_reducible refine (PC.out _).mono ?_); rintro e w9 ⟨rfl, rfl⟩)
            | (go_at_call 61; (with_reducible refine (B2.out _).mono ?_); rintro e w9 ⟨rfl, rfl⟩)
            | (go_at_call 61; (with_reducible refine (B3.out _).mono ?_); rintro e w9 ⟨rfl, rfl⟩)
            | fail)
          go_ret
          exact ⟨rfl, (Kpt.refl w).alloc _⟩
      · have B2 := Lib.hid (fun w => rbt_any G 0 1000 false (by unfold btw; exact decide_eq_false h2) w)
        rw [show evE P C G O = 3 from if_neg (by omega)]
        clear h0 h2 pb hp
        go_enter Try.func46, Try.ntmps46
        go_wp2_with (first
          | (go_at_call 61; (with_reducible refine (B0.out _).mono ?_); rintro e w9 ⟨rfl, rfl⟩)
          | (go_at_call 62; (with_reducible refine (PC.out _).mono ?_); rintro e w9 ⟨rfl, rfl⟩)
          | (go_at_call 61; (with_reducible refine (B2.out _).mono ?_); rintro e w9 ⟨rfl, rfl⟩)
          | fail)
        go_ret
        exact ⟨rfl, (Kpt.refl w).alloc _⟩
    | false =>
      rw [hp, if_neg (by decide)] at PC
      have pb : ¬ (0 ≤ C ∧ C ≤ 1099511627776) := of_decide_eq_false hp
      rw [show evE P C G O = 3 from if_neg (by omega)]
      clear h0 pb hp
      go_enter Try.func46, Try.ntmps46
      go_wp2_with (first
        | (go_at_call 61; (with_reducible refine (B0.out _).mono ?_); rintro e w9 ⟨rfl, rfl⟩)
        | (go_at_call 62; (with_reducible refine (PC.out _).mono ?_); rintro e w9 ⟨rfl, rfl⟩)
        | fail)
      go_ret
      exact ⟨rfl, (Kpt.refl w).alloc _⟩
  · have B0 := Lib.hid (fun w => rbt_any P 1 20 false (by unfold btw; exact decide_eq_false h0) w)
    rw [show evE P C G O = 3 from if_neg (by omega)]
    clear h0
    go_enter Try.func46, Try.ntmps46
    go_wp2_with (first
      | (go_at_call 61; (with_reducible refine (B0.out _).mono ?_); rintro e w9 ⟨rfl, rfl⟩)
      | fail)
    go_ret
    exact ⟨rfl, (Kpt.refl w).alloc _⟩

set_option maxHeartbeats 2000000 in
theorem revE_run (P C G O U : Int) (w : World) : Calls Try.prog 39 #[.agg #[.int .i64 P, .int .i64 C, .int .i64 G, .int .i64 O], .int .i64 U] w fun e w' => e = .returned (.int .i64 (hoE P C G O U)) ∧ Kpt w w' := by
  have CE := Lib.hid (fun w' => rev_run P C G O w')
  have KA : Hid (Kpt w (w.alloc (.cells #[.int .i64 P, .int .i64 C, .int .i64 G, .int .i64 O] 53))) := (Kpt.refl w).alloc _
  by_cases h : evE P C G O = 0
  · rw [show hoE P C G O U = (if 0 ≤ U ∧ U ≤ 1073741824 then 0 else 3) from if_pos h]
    rw [h] at CE
    by_cases hu : 0 ≤ U ∧ U ≤ 1073741824
    · have B1 := Lib.hid (fun w => rbt_any U 0 1073741824 true (by unfold btw; exact decide_eq_true hu) w)
      rw [if_pos hu]
      clear h hu
      go_enter Try.func39, Try.ntmps39
      go_wp2_with (first
        | (go_at_call 46; (with_reducible refine (CE.out _).mono ?_); rintro e w1 ⟨rfl, k1⟩; have K1 := Lib.hid (ktr KA.out k1); clear k1)
        | (go_at_call 61; (with_reducible refine (B1.out _).mono ?_); rintro e w2 ⟨rfl, rfl⟩)
        | fail)
      go_ret
      exact ⟨rfl, K1.out⟩
    · have B1 := Lib.hid (fun w => rbt_any U 0 1073741824 false (by unfold btw; exact decide_eq_false hu) w)
      rw [if_neg hu]
      clear h hu
      go_enter Try.func39, Try.ntmps39
      go_wp2_with (first
        | (go_at_call 46; (with_reducible refine (CE.out _).mono ?_); rintro e w1 ⟨rfl, k1⟩; have K1 := Lib.hid (ktr KA.out k1); clear k1)
        | (go_at_call 61; (with_reducible refine (B1.out _).mono ?_); rintro e w2 ⟨rfl, rfl⟩)
        | fail)
      go_ret
      exact ⟨rfl, K1.out⟩
  · rw [show hoE P C G O U = evE P C G O from if_neg h]
    have q0 : (evE P C G O == 0) = false := beq_eq_false_iff_ne.2 h
    clear h
    generalize evE P C G O = E at *
    go_enter Try.func39, Try.ntmps39
    go_wp2_with (first
      | (go_at_call 46; (with_reducible refine (CE.out _).mono ?_); rintro e w1 ⟨rfl, k1⟩; have K1 := Lib.hid (ktr KA.out k1); clear k1)
      | fail)
    go_ret
    exact ⟨rfl, K1.out⟩

theorem rcash_run (P C G O U : Int) (hc : 0 ≤ C ∧ C ≤ 1099511627776) (hu : 0 ≤ U ∧ U ≤ 1073741824) (w : World) : Calls Try.prog 40 #[.agg #[.int .i64 P, .int .i64 C, .int .i64 G, .int .i64 O], .int .i64 U] w fun e w' => e = .returned (.int .i64 (hoC C U)) ∧ Kpt w w' := by
  unfold hoC
  have cb := cost_bd hu hc
  have PT := Lib.hid (pof_is (a := U) (b := C) (c := 10000) (by omega) (by omega) (by omega) (by omega))
  clear cb hc hu
  generalize U * C / 10000 = q at *
  generalize U * C % 10000 = r at *
  go_enter Try.func40, Try.ntmps40
  go_wp2_with (first
    | (go_at_call 77; (with_reducible refine (PT.out.run _).mono ?_); rintro e w2 ⟨rfl, rfl⟩)
    | fail)
  go_ret
  exact ⟨rfl, (Kpt.refl w).alloc _⟩
theorem rfresh_run (P C G O U : Int) (hg : 0 ≤ G ∧ G ≤ 1000) (ho : 0 ≤ O ∧ O ≤ 1000) (hu : 0 ≤ U ∧ U ≤ 1073741824) (w : World) : Calls Try.prog 41 #[.agg #[.int .i64 P, .int .i64 C, .int .i64 G, .int .i64 O], .int .i64 U] w fun e w' => e = .returned (.tuple #[.int .i64 (hoN G O U), .int .i64 (hoR G O U)]) ∧ Kpt w w' := by
  by_cases h : O = 0
  · rw [show hoN G O U = 0 from if_pos h, show hoR G O U = 0 from if_pos h]
    have q : (O == 0) = true := beq_iff_eq.2 h
    clear h hg ho hu
    go_enter Try.func41, Try.ntmps41
    go_wp2
    go_ret2
    exact ⟨rfl, (Kpt.refl w).alloc _⟩
  · rw [show hoN G O U = U * G / O from if_neg h, show hoR G O U = U * G % O from if_neg h]
    have q : (O == 0) = false := beq_eq_false_iff_ne.2 h
    have mb := ho_mul hu hg
    have db : U * G / O ≤ 1073741824000 := Int.le_trans (Int.ediv_le_self _ mb.1) mb.2
    have PT := Lib.hid (pof_is (a := U) (b := G) (c := O) (by omega) (by omega) (by omega) (by omega))
    clear h hg ho hu mb db
    generalize U * G / O = qq at *
    generalize U * G % O = r at *
    go_enter Try.func41, Try.ntmps41
    go_wp2_with (first
      | (go_at_call 77; (with_reducible refine (PT.out.run _).mono ?_); rintro e w2 ⟨rfl, rfl⟩)
      | fail)
    go_ret2
    exact ⟨rfl, (Kpt.refl w).alloc _⟩

end Go.Proofs.Ytgccipmeiceonaa
