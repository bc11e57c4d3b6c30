/-
  What Check of package claim does, and what a holding yields.
-/
import Derived.Test.YtklaojahocjeiaaCost
import Derived.Test.YtklaojahocjeiaaBlk
import Derived.Test.YtklaojahocjeiaaTrip
import Derived.Test.YtklaojahocjeiaaFailE
import Derived.Test.YtklaojahocjeiaaPrices
import Derived.BigQuiet
namespace Go.Proofs.Ytklaojahocjeiaa
open Go.RowKit
set_option linter.unusedVariables false

/-- the error of an event: paper, cash, gives, of -/
def evE (P C G O : Int) : Int :=
  if 1 ≤ P ∧ P ≤ 20 ∧ 0 ≤ C ∧ C ≤ 1099511627776 ∧ 0 ≤ G ∧ G ≤ 1000 ∧ 0 ≤ O ∧ O ≤ 1000 then (if (G = 0 ∧ O ≠ 0) ∨ (G ≠ 0 ∧ O = 0) then 1 else if O = 0 ∧ C = 0 then 1 else 0) else 3
theorem evE_0 {P C G O : Int} (h : evE P C G O = 0) : (1 ≤ P ∧ P ≤ 20) ∧ (0 ≤ C ∧ C ≤ 1099511627776) ∧ (0 ≤ G ∧ G ≤ 1000) ∧ (0 ≤ O ∧ O ≤ 1000) ∧ (G = 0 ↔ O = 0) := by
  unfold evE at h
  split at h
  · next a =>
    split at h
    · omega
    · next b => omega
  · omega
set_option maxHeartbeats 1000000 in
theorem ev_run (P C G O : Int) (w : World) : Calls Try.prog 18 #[.agg #[.int .i64 P, .int .i64 C, .int .i64 G, .int .i64 O]] w fun e w' => e = .returned (.int .i64 (evE P C G O)) ∧ Kpt w w' := by
  by_cases h0 : P < 1
  · rw [show evE P C G O = 3 from if_neg (by omega)]
    have d0 : decide (P < 1) = true := decide_eq_true h0
    go_enter Try.func18, Try.ntmps18
    go_wp2
    go_ret
    exact ⟨rfl, (Kpt.refl w).alloc _⟩
  have d0 : decide (P < 1) = false := decide_eq_false h0
  by_cases h1 : 20 < P
  · rw [show evE P C G O = 3 from if_neg (by omega)]
    have d1 : decide (20 < P) = true := decide_eq_true h1
    go_enter Try.func18, Try.ntmps18
    go_wp2
    go_ret
    exact ⟨rfl, (Kpt.refl w).alloc _⟩
  have d1 : decide (20 < P) = false := decide_eq_false h1
  by_cases h2 : C < 0
  · rw [show evE P C G O = 3 from if_neg (by omega)]
    have d2 : decide (C < 0) = true := decide_eq_true h2
    go_enter Try.func18, Try.ntmps18
    go_wp2
    go_ret
    exact ⟨rfl, (Kpt.refl w).alloc _⟩
  have d2 : decide (C < 0) = false := decide_eq_false h2
  by_cases h3 : 1099511627776 < C
  · rw [show evE P C G O = 3 from if_neg (by omega)]
    have d3 : decide (1099511627776 < C) = true := decide_eq_true h3
    go_enter Try.func18, Try.ntmps18
    go_wp2
    go_ret
    exact ⟨rfl, (Kpt.refl w).alloc _⟩
  have d3 : decide (1099511627776 < C) = false := decide_eq_false h3
  by_cases h4 : G < 0
  · rw [show evE P C G O = 3 from if_neg (by omega)]
    have d4 : decide (G < 0) = true := decide_eq_true h4
    go_enter Try.func18, Try.ntmps18
    go_wp2
    go_ret
    exact ⟨rfl, (Kpt.refl w).alloc _⟩
  have d4 : decide (G < 0) = false := decide_eq_false h4
  by_cases h5 : 1000 < G
  · rw [show evE P C G O = 3 from if_neg (by omega)]
    have d5 : decide (1000 < G) = true := decide_eq_true h5
    go_enter Try.func18, Try.ntmps18
    go_wp2
    go_ret
    exact ⟨rfl, (Kpt.refl w).alloc _⟩
  have d5 : decide (1000 < G) = false := decide_eq_false h5
  by_cases h6 : O < 0
  · rw [show evE P C G O = 3 from if_neg (by omega)]
    have d6 : decide (O < 0) = true := decide_eq_true h6
    go_enter Try.func18, Try.ntmps18
    go_wp2
    go_ret
    exact ⟨rfl, (Kpt.refl w).alloc _⟩
  have d6 : decide (O < 0) = false := decide_eq_false h6
  by_cases h7 : 1000 < O
  · rw [show evE P C G O = 3 from if_neg (by omega)]
    have d7 : decide (1000 < O) = true := decide_eq_true h7
    go_enter Try.func18, Try.ntmps18
    go_wp2
    go_ret
    exact ⟨rfl, (Kpt.refl w).alloc _⟩
  have d7 : decide (1000 < O) = false := decide_eq_false h7
  have hb : 1 ≤ P ∧ P ≤ 20 ∧ 0 ≤ C ∧ C ≤ 1099511627776 ∧ 0 ≤ G ∧ G ≤ 1000 ∧ 0 ≤ O ∧ O ≤ 1000 := by omega
  have e0 : evE P C G O = (if (G = 0 ∧ O ≠ 0) ∨ (G ≠ 0 ∧ O = 0) then 1 else if O = 0 ∧ C = 0 then 1 else 0) := if_pos hb
  rw [e0]
  clear e0 hb
  by_cases hG : G = 0
  · have g0 : (G == 0) = true := beq_iff_eq.2 hG
    by_cases hO : O = 0
    · have o0 : (O == 0) = true := beq_iff_eq.2 hO
      rw [if_neg (by omega)]
      by_cases hC : C = 0
      · have c0 : (C == 0) = true := beq_iff_eq.2 hC
        rw [if_pos ⟨hO, hC⟩]
        clear hG hO hC
        go_enter Try.func18, Try.ntmps18
        go_wp2
        go_ret
        exact ⟨rfl, (Kpt.refl w).alloc _⟩
      · have c0 : (C == 0) = false := beq_eq_false_iff_ne.2 hC
        rw [if_neg (by omega)]
        clear hG hO hC
        go_enter Try.func18, Try.ntmps18
        go_wp2
        go_ret
        exact ⟨rfl, (Kpt.refl w).alloc _⟩
    · have o0 : (O == 0) = false := beq_eq_false_iff_ne.2 hO
      rw [if_pos (by omega)]
      clear hG hO
      go_enter Try.func18, Try.ntmps18
      go_wp2
      go_ret
      exact ⟨rfl, (Kpt.refl w).alloc _⟩
  · have g0 : (G == 0) = false := beq_eq_false_iff_ne.2 hG
    by_cases hO : O = 0
    · have o0 : (O == 0) = true := beq_iff_eq.2 hO
      rw [if_pos (by omega)]
      clear hG hO
      go_enter Try.func18, Try.ntmps18
      go_wp2
      go_ret
      exact ⟨rfl, (Kpt.refl w).alloc _⟩
    · have o0 : (O == 0) = false := beq_eq_false_iff_ne.2 hO
      rw [if_neg (by omega), if_neg (by omega)]
      clear hG hO
      go_enter Try.func18, Try.ntmps18
      go_wp2
      go_ret
      exact ⟨rfl, (Kpt.refl w).alloc _⟩

/-- the error of so many units of it -/
def hoE (P C G O U : Int) : Int := if evE P C G O = 0 then (if 0 ≤ U ∧ U ≤ 1073741824 then 0 else 3) else evE P C G O

end Go.Proofs.Ytklaojahocjeiaa
