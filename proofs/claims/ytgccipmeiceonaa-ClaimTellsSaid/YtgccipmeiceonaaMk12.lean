/-
  Merged: ClmA, ClmB, ClmC.
-/
import Derived.Test.YtgccipmeiceonaaCost
import Derived.Test.YtgccipmeiceonaaBlk
import Derived.Test.YtgccipmeiceonaaTrip
import Derived.Test.YtgccipmeiceonaaMk11
import Derived.Test.YtgccipmeiceonaaPrices
import Derived.BigQuiet
-- ClmA
namespace Go.Proofs.Ytgccipmeiceonaa
open Go.RowKit
set_option linter.unusedVariables false

/-- the error of an event: paper, cash, gives, of -/
def evE (P C G O : Int) : Int :=
  if 1 ≤ P ∧ P ≤ 20 ∧ 0 ≤ C ∧ C ≤ 1099511627776 ∧ 0 ≤ G ∧ G ≤ 1000 ∧ 0 ≤ O ∧ O ≤ 1000 then (if (G = 0 ∧ O ≠ 0) ∨ (G ≠ 0 ∧ O = 0) then 1 else if O = 0 ∧ C = 0 then 1 else 0) else 3
theorem evE_0 {P C G O : Int} (h : evE P C G O = 0) : (1 ≤ P ∧ P ≤ 20) ∧ (0 ≤ C ∧ C ≤ 1099511627776) ∧ (0 ≤ G ∧ G ≤ 1000) ∧ (0 ≤ O ∧ O ≤ 1000) ∧ (G = 0 ↔ O = 0) := by
  unfold evE at h
  split at h
  · next a =>
    split at h
    · omega
    · next b => omega
  · omega
set_option maxHeartbeats 1000000 in
theorem ev_run (P C G O : Int) (w : World) : Calls Try.prog 45 #[.agg #[.int .i64 P, .int .i64 C, .int .i64 G, .int .i64 O]] w fun e w' => e = .returned (.int .i64 (evE P C G O)) ∧ Kpt w w' := by
  by_cases h0 : P < 1
  · rw [show evE P C G O = 3 from if_neg (by omega)]
    have d0 : decide (P < 1) = true := decide_eq_true h0
    go_enter Try.func45, Try.ntmps45
    go_wp2
    go_ret
    exact ⟨rfl, (Kpt.refl w).alloc _⟩
  have d0 : decide (P < 1) = false := decide_eq_false h0
  by_cases h1 : 20 < P
  · rw [show evE P C G O = 3 from if_neg (by omega)]
    have d1 : decide (20 < P) = true := decide_eq_true h1
    go_enter Try.func45, Try.ntmps45
    go_wp2
    go_ret
    exact ⟨rfl, (Kpt.refl w).alloc _⟩
  have d1 : decide (20 < P) = false := decide_eq_false h1
  by_cases h2 : C < 0
  · rw [show evE P C G O = 3 from if_neg (by omega)]
    have d2 : decide (C < 0) = true := decide_eq_true h2
    go_enter Try.func45, Try.ntmps45
    go_wp2
    go_ret
    exact ⟨rfl, (Kpt.refl w).alloc _⟩
  have d2 : decide (C < 0) = false := decide_eq_false h2
  by_cases h3 : 1099511627776 < C
  · rw [show evE P C G O = 3 from if_neg (by omega)]
    have d3 : decide (1099511627776 < C) = true := decide_eq_true h3
    go_enter Try.func45, Try.ntmps45
    go_wp2
    go_ret
    exact ⟨rfl, (Kpt.refl w).alloc _⟩
  have d3 : decide (1099511627776 < C) = false := decide_eq_false h3
  by_cases h4 : G < 0
  · rw [show evE P C G O = 3 from if_neg (by omega)]
    have d4 : decide (G < 0) = true := decide_eq_true h4
    go_enter Try.func45, Try.ntmps45
    go_wp2
    go_ret
    exact ⟨rfl, (Kpt.refl w).alloc _⟩
  have d4 : decide (G < 0) = false := decide_eq_false h4
  by_cases h5 : 1000 < G
  · rw [show evE P C G O = 3 from if_neg (by omega)]
    have d5 : decide (1000 < G) = true := decide_eq_true h5
    go_enter Try.func45, Try.ntmps45
    go_wp2
    go_ret
    exact ⟨rfl, (Kpt.refl w).alloc _⟩
  have d5 : decide (1000 < G) = false := decide_eq_false h5
  by_cases h6 : O < 0
  · rw [show evE P C G O = 3 from if_neg (by omega)]
    have d6 : decide (O < 0) = true := decide_eq_true h6
    go_enter Try.func45, Try.ntmps45
    go_wp2
    go_ret
    exact ⟨rfl, (Kpt.refl w).alloc _⟩
  have d6 : decide (O < 0) = false := decide_eq_false h6
  by_cases h7 : 1000 < O
  · rw [show evE P C G O = 3 from if_neg (by omega)]
    have d7 : decide (1000 < O) = true := decide_eq_true h7
    go_enter Try.func45, Try.ntmps45
    go_wp2
    go_ret
    exact ⟨rfl, (Kpt.refl w).alloc _⟩
  have d7 : decide (1000 < O) = false := decide_eq_false h7
  have hb : 1 ≤ P ∧ P ≤ 20 ∧ 0 ≤ C ∧ C ≤ 1099511627776 ∧ 0 ≤ G ∧ G ≤ 1000 ∧ 0 ≤ O ∧ O ≤ 1000 := by omega
  have e0 : evE P C G O = (if (G = 0 ∧ O ≠ 0) ∨ (G ≠ 0 ∧ O = 0) then 1 else if O = 0 ∧ C = 0 then 1 else 0) := if_pos hb
  rw [e0]
  clear e0 hb
  by_cases hG : G = 0
  · have g0 : (G == 0) = true := beq_iff_eq.2 hG
    by_cases hO : O = 0
    · have o0 : (O == 0) = true := beq_iff_eq.2 hO
      rw [if_neg (by omega)]
      by_cases hC : C = 0
      · have c0 : (C == 0) = true := beq_iff_eq.2 hC
        rw [if_pos ⟨hO, hC⟩]
        clear hG hO hC
        go_enter Try.func45, Try.ntmps45
        go_wp2
        go_ret
        exact ⟨rfl, (Kpt.refl w).alloc _⟩
      · have c0 : (C == 0) = false := beq_eq_false_iff_ne.2 hC
        rw [if_neg (by omega)]
        clear hG hO hC
        go_enter Try.func45, Try.ntmps45
        go_wp2
        go_ret
        exact ⟨rfl, (Kpt.refl w).alloc _⟩
    · have o0 : (O == 0) = false := beq_eq_false_iff_ne.2 hO
      rw [if_pos (by omega)]
      clear hG hO
      go_enter Try.func45, Try.ntmps45
      go_wp2
      go_ret
      exact ⟨rfl, (Kpt.refl w).alloc _⟩
  · have g0 : (G == 0) = false := beq_eq_false_iff_ne.2 hG
    by_cases hO : O = 0
    · have o0 : (O == 0) = true := beq_iff_eq.2 hO
      rw [if_pos (by omega)]
      clear hG hO
      go_enter Try.func45, Try.ntmps45
      go_wp2
      go_ret
      exact ⟨rfl, (Kpt.refl w).alloc _⟩
    · have o0 : (O == 0) = false := beq_eq_false_iff_ne.2 hO
      rw [if_neg (by omega), if_neg (by omega)]
      clear hG hO
      go_enter Try.func45, Try.ntmps45
      go_wp2
      go_ret
      exact ⟨rfl, (Kpt.refl w).alloc _⟩

/-- the error of so many units of it -/
def hoE (P C G O U : Int) : Int := if evE P C G O = 0 then (if 0 ≤ U ∧ U ≤ 1073741824 then 0 else 3) else evE P C G O

end Go.Proofs.Ytgccipmeiceonaa

-- ClmB
namespace Go.Proofs.Ytgccipmeiceonaa
open Go.RowKit
set_option linter.unusedVariables false

theorem hcheck_run (P C G O U : Int) (w : World) : Calls Try.prog 90 #[.agg #[.int .i64 P, .int .i64 C, .int .i64 G, .int .i64 O, .int .i64 U]] w fun e w' => e = .returned (.int .i64 (hoE P C G O U)) ∧ Kpt w w' := by
  have EV := Lib.hid (fun w => ev_run P C G O w)
  have KA : Hid (Kpt w (w.alloc (.cells #[.int .i64 P, .int .i64 C, .int .i64 G, .int .i64 O, .int .i64 U] 116))) := (Kpt.refl w).alloc _
  have BA : Hid (Blk (w.alloc (.cells #[.int .i64 P, .int .i64 C, .int .i64 G, .int .i64 O, .int .i64 U] 116)) w.heap.size #[.int .i64 P, .int .i64 C, .int .i64 G, .int .i64 O, .int .i64 U] 116) := Blk.made _ _ _
  unfold hoE
  by_cases h : evE P C G O = 0
  · rw [if_pos h]
    rw [h] at EV
    clear h
    by_cases h1 : U < 0
    · rw [if_neg (by omega)]
      have d1 : decide (U < 0) = true := decide_eq_true h1
      go_enter Try.func90, Try.ntmps90
      go_wp2_with (go_at_call 45; (with_reducible refine (EV.out _).mono ?_); rintro e w1 ⟨rfl, k1⟩; have K1 := Lib.hid (ktr KA.out k1); have c4 : w1.cell? ⟨w.heap.size, 4, none⟩ = some (.int .i64 U) := (BA.out.kpt k1).cell 4; clear k1)
      go_ret
      exact ⟨rfl, K1.out⟩
    have d1 : decide (U < 0) = false := decide_eq_false h1
    by_cases h2 : 1073741824 < U
    · rw [if_neg (by omega)]
      have d2 : decide (1073741824 < U) = true := decide_eq_true h2
      go_enter Try.func90, Try.ntmps90
      go_wp2_with (go_at_call 45; (with_reducible refine (EV.out _).mono ?_); rintro e w1 ⟨rfl, k1⟩; have K1 := Lib.hid (ktr KA.out k1); have c4 : w1.cell? ⟨w.heap.size, 4, none⟩ = some (.int .i64 U) := (BA.out.kpt k1).cell 4; clear k1)
      go_ret
      exact ⟨rfl, K1.out⟩
    have d2 : decide (1073741824 < U) = false := decide_eq_false h2
    rw [if_pos (by omega)]
    go_enter Try.func90, Try.ntmps90
    go_wp2_with (go_at_call 45; (with_reducible refine (EV.out _).mono ?_); rintro e w1 ⟨rfl, k1⟩; have K1 := Lib.hid (ktr KA.out k1); have c4 : w1.cell? ⟨w.heap.size, 4, none⟩ = some (.int .i64 U) := (BA.out.kpt k1).cell 4; clear k1)
    go_ret
    exact ⟨rfl, K1.out⟩
  · rw [if_neg h]
    have z : (evE P C G O != 0) = true := bne_iff_ne.2 h
    clear h
    generalize evE P C G O = E at *
    go_enter Try.func90, Try.ntmps90
    go_wp2_with (go_at_call 45; (with_reducible refine (EV.out _).mono ?_); rintro e w1 ⟨rfl, k1⟩; have K1 := Lib.hid (ktr KA.out k1); clear k1)
    go_ret
    exact ⟨rfl, K1.out⟩

/-- the money, the papers and what is left of so many units -/
def hoC (C U : Int) : Int := U * C / 10000
def hoN (G O U : Int) : Int := if O = 0 then 0 else U * G / O
def hoR (G O U : Int) : Int := if O = 0 then 0 else U * G % O
theorem hcash_run (P C G O U : Int) (hc : 0 ≤ C ∧ C ≤ 1099511627776) (hu : 0 ≤ U ∧ U ≤ 1073741824) (w : World) : Calls Try.prog 91 #[.agg #[.int .i64 P, .int .i64 C, .int .i64 G, .int .i64 O, .int .i64 U]] w fun e w' => e = .returned (.int .i64 (hoC C U)) ∧ Kpt w w' := by
  have d := cos_dly (p := C) hu
  have CO := Lib.hid (fun w' => cost_any U C w')
  rw [d.1, d.2, prc_mk hc.1 hc.2, if_pos rfl, if_pos rfl] at CO
  unfold hoC
  clear d hc hu
  generalize U * C / 10000 = r at *
  generalize cosR U C = m at *
  have KA : Hid (Kpt w (w.alloc (.cells #[.int .i64 P, .int .i64 C, .int .i64 G, .int .i64 O, .int .i64 U] 116))) := (Kpt.refl w).alloc _
  go_enter Try.func91, Try.ntmps91
  go_wp2_with (go_at_call 48; (with_reducible refine (CO.out _).mono ?_); rintro e w1 ⟨rfl, k1⟩; have K1 := Lib.hid (ktr KA.out k1); clear k1)
  go_ret
  exact ⟨rfl, K1.out⟩
theorem ho_mul {U G : Int} (hu : 0 ≤ U ∧ U ≤ 1073741824) (hg : 0 ≤ G ∧ G ≤ 1000) : 0 ≤ U * G ∧ U * G ≤ 1073741824000 := by
  have a : 0 ≤ U * G := Int.mul_nonneg hu.1 hg.1
  have b : U * G ≤ 1073741824 * 1000 := Int.mul_le_mul hu.2 hg.2 hg.1 (by omega)
  omega
theorem hfresh_run (P C G O U : Int) (hg : 0 ≤ G ∧ G ≤ 1000) (ho : 0 ≤ O ∧ O ≤ 1000) (hu : 0 ≤ U ∧ U ≤ 1073741824) (w : World) : Calls Try.prog 92 #[.agg #[.int .i64 P, .int .i64 C, .int .i64 G, .int .i64 O, .int .i64 U]] w fun e w' => e = .returned (.tuple #[.int .i64 (hoN G O U), .int .i64 (hoR G O U)]) ∧ Kpt w w' := by
  have mb := ho_mul hu hg
  unfold hoN hoR
  have KA : Hid (Kpt w (w.alloc (.cells #[.int .i64 P, .int .i64 C, .int .i64 G, .int .i64 O, .int .i64 U] 116))) := (Kpt.refl w).alloc _
  by_cases h : O = 0
  · rw [if_pos h, if_pos h]
    have z : (O == 0) = true := beq_iff_eq.2 h
    clear h
    go_enter Try.func92, Try.ntmps92
    go_wp2
    go_ret2
    exact ⟨rfl, KA.out⟩
  · rw [if_neg h, if_neg h]
    have z : (O == 0) = false := beq_eq_false_iff_ne.2 h
    have wn : IntKind.i64.wrap (U * G) = U * G := IntWalk.i64_in _ (by omega)
    have w1 : IntKind.i64.wrap (U * G / O) = U * G / O := by
      have a : 0 ≤ U * G / O := Int.ediv_nonneg mb.1 ho.1
      have b : U * G / O ≤ U * G := Int.ediv_le_self _ mb.1
      exact IntWalk.i64_in _ (by omega)
    have t1 : Int.tdiv (U * G) O = U * G / O := Int.tdiv_eq_ediv_of_nonneg mb.1
    have t2 : Int.tmod (U * G) O = U * G % O := Int.tmod_eq_emod_of_nonneg mb.1
    have w2 : IntKind.i64.wrap (U * G % O) = U * G % O := by
      have a : 0 ≤ U * G % O := Int.emod_nonneg _ h
      have b : U * G % O < O := Int.emod_lt_of_pos _ (by omega)
      exact IntWalk.i64_in _ (by omega)
    have h0 : ¬ O = 0 := h
    go_enter Try.func92, Try.ntmps92
    go_wp2
    go_quiet (fail)
    go_wp2
    go_ret2
    exact ⟨rfl, KA.out.drewN _⟩

end Go.Proofs.Ytgccipmeiceonaa

-- ClmC
namespace Go.Proofs.Ytgccipmeiceonaa
open Go.RowKit
set_option linter.unusedVariables false

theorem hoE_0 {P C G O U : Int} (h : hoE P C G O U = 0) : evE P C G O = 0 ∧ 0 ≤ U ∧ U ≤ 1073741824 := by
  unfold hoE at h
  split at h
  · next a =>
    split at h
    · exact ⟨a, by assumption⟩
    · cases h
  · next a => exact absurd h a
theorem cash_any (P C G O U : Int) (w : World) : Calls Try.prog 35 #[.agg #[.int .i64 P, .int .i64 C, .int .i64 G, .int .i64 O], .int .i64 U] w fun e w' => e = .returned (.tuple #[.int .i64 (if hoE P C G O U = 0 then hoC C U else 0), .int .i64 (hoE P C G O U)]) ∧ Kpt w w' := by
  have HK := Lib.hid (fun w => hcheck_run P C G O U w)
  have KA : Hid (Kpt w ((w.alloc (.cells #[.int .i64 P, .int .i64 C, .int .i64 G, .int .i64 O] 53)).alloc (.cells #[.int .i64 P, .int .i64 C, .int .i64 G, .int .i64 O, .int .i64 U] 116))) := ((Kpt.refl w).alloc _).alloc _
  have BA : Hid (Blk ((w.alloc (.cells #[.int .i64 P, .int .i64 C, .int .i64 G, .int .i64 O] 53)).alloc (.cells #[.int .i64 P, .int .i64 C, .int .i64 G, .int .i64 O, .int .i64 U] 116)) (w.heap.size + 1) #[.int .i64 P, .int .i64 C, .int .i64 G, .int .i64 O, .int .i64 U] 116) := by
    have := Blk.made (w.alloc (.cells #[.int .i64 P, .int .i64 C, .int .i64 G, .int .i64 O] 53)) #[.int .i64 P, .int .i64 C, .int .i64 G, .int .i64 O, .int .i64 U] 116
    rwa [World.size_alloc] at this
  by_cases h : hoE P C G O U = 0
  · rw [if_pos h, h]
    rw [h] at HK
    obtain ⟨h1, h2⟩ := hoE_0 h
    obtain ⟨-, h3, -⟩ := evE_0 h1
    have CA := Lib.hid (fun w => hcash_run P C G O U h3 h2 w)
    clear h h1 h2 h3
    generalize hoC C U = r at *
    go_enter Try.func35, Try.ntmps35
    go_wp2_with (first
      | (go_at_call 90; (with_reducible refine (HK.out _).mono ?_); rintro e w1 ⟨rfl, k1⟩; have K1 := Lib.hid (ktr KA.out k1); have B1 := Lib.hid (BA.out.kpt k1); have c0 : w1.cell? ⟨w.heap.size + 1, 0, none⟩ = some (.int .i64 P) := B1.out.cell 0; have c1 : w1.cell? ⟨w.heap.size + 1, 1, none⟩ = some (.int .i64 C) := B1.out.cell 1; have c2 : w1.cell? ⟨w.heap.size + 1, 2, none⟩ = some (.int .i64 G) := B1.out.cell 2; have c3 : w1.cell? ⟨w.heap.size + 1, 3, none⟩ = some (.int .i64 O) := B1.out.cell 3; have c4 : w1.cell? ⟨w.heap.size + 1, 4, none⟩ = some (.int .i64 U) := B1.out.cell 4; clear k1)
      | (go_at_call 91; (with_reducible refine (CA.out _).mono ?_); rintro e w2 ⟨rfl, k1⟩; have K2 := Lib.hid (ktr K1.out k1); clear k1))
    go_ret2
    exact ⟨rfl, K2.out⟩
  · rw [if_neg h]
    have z : (hoE P C G O U != 0) = true := bne_iff_ne.2 h
    clear h
    generalize hoE P C G O U = E at *
    go_enter Try.func35, Try.ntmps35
    go_wp2_with (go_at_call 90; (with_reducible refine (HK.out _).mono ?_); rintro e w1 ⟨rfl, k1⟩; have K1 := Lib.hid (ktr KA.out k1); clear k1)
    go_ret2
    exact ⟨rfl, K1.out⟩
theorem fresh_any (P C G O U : Int) (w : World) : Calls Try.prog 36 #[.agg #[.int .i64 P, .int .i64 C, .int .i64 G, .int .i64 O], .int .i64 U] w fun e w' => e = .returned (.tuple #[.int .i64 (if hoE P C G O U = 0 then hoN G O U else 0), .int .i64 (if hoE P C G O U = 0 then hoR G O U else 0), .int .i64 (hoE P C G O U)]) ∧ Kpt w w' := by
  have HK := Lib.hid (fun w => hcheck_run P C G O U w)
  have KA : Hid (Kpt w ((w.alloc (.cells #[.int .i64 P, .int .i64 C, .int .i64 G, .int .i64 O] 53)).alloc (.cells #[.int .i64 P, .int .i64 C, .int .i64 G, .int .i64 O, .int .i64 U] 116))) := ((Kpt.refl w).alloc _).alloc _
  have BA : Hid (Blk ((w.alloc (.cells #[.int .i64 P, .int .i64 C, .int .i64 G, .int .i64 O] 53)).alloc (.cells #[.int .i64 P, .int .i64 C, .int .i64 G, .int .i64 O, .int .i64 U] 116)) (w.heap.size + 1) #[.int .i64 P, .int .i64 C, .int .i64 G, .int .i64 O, .int .i64 U] 116) := by
    have := Blk.made (w.alloc (.cells #[.int .i64 P, .int .i64 C, .int .i64 G, .int .i64 O] 53)) #[.int .i64 P, .int .i64 C, .int .i64 G, .int .i64 O, .int .i64 U] 116
    rwa [World.size_alloc] at this
  by_cases h : hoE P C G O U = 0
  · rw [if_pos h, if_pos h, h]
    rw [h] at HK
    obtain ⟨h1, h2⟩ := hoE_0 h
    obtain ⟨-, -, h3, h4, -⟩ := evE_0 h1
    have FA := Lib.hid (fun w => hfresh_run P C G O U h3 h4 h2 w)
    clear h h1 h2 h3 h4
    generalize hoN G O U = r at *
    generalize hoR G O U = s at *
    go_enter Try.func36, Try.ntmps36
    go_wp2_with (first
      | (go_at_call 90; (with_reducible refine (HK.out _).mono ?_); rintro e w1 ⟨rfl, k1⟩; have K1 := Lib.hid (ktr KA.out k1); have B1 := Lib.hid (BA.out.kpt k1); have c0 : w1.cell? ⟨w.heap.size + 1, 0, none⟩ = some (.int .i64 P) := B1.out.cell 0; have c1 : w1.cell? ⟨w.heap.size + 1, 1, none⟩ = some (.int .i64 C) := B1.out.cell 1; have c2 : w1.cell? ⟨w.heap.size + 1, 2, none⟩ = some (.int .i64 G) := B1.out.cell 2; have c3 : w1.cell? ⟨w.heap.size + 1, 3, none⟩ = some (.int .i64 O) := B1.out.cell 3; have c4 : w1.cell? ⟨w.heap.size + 1, 4, none⟩ = some (.int .i64 U) := B1.out.cell 4; clear k1)
      | (go_at_call 92; (with_reducible refine (FA.out _).mono ?_); rintro e w2 ⟨rfl, k1⟩; have K2 := Lib.hid (ktr K1.out k1); clear k1))
    go_ret3
    exact ⟨rfl, K2.out⟩
  · rw [if_neg h, if_neg h]
    have z : (hoE P C G O U != 0) = true := bne_iff_ne.2 h
    clear h
    generalize hoE P C G O U = E at *
    go_enter Try.func36, Try.ntmps36
    go_wp2_with (go_at_call 90; (with_reducible refine (HK.out _).mono ?_); rintro e w1 ⟨rfl, k1⟩; have K1 := Lib.hid (ktr KA.out k1); clear k1)
    go_ret3
    exact ⟨rfl, K1.out⟩
/-- the error of an event and fails -/
def cwE (P C G O : Int) (fs : List (List Int)) : Int := if evE P C G O = 0 then checksE fs else evE P C G O
theorem checkWith_any (P C G O : Int) (v : Value) (fs : List (List Int)) (w : World) (hl : ReadsF w v fs) : Calls Try.prog 93 #[.agg #[.int .i64 P, .int .i64 C, .int .i64 G, .int .i64 O], v] w fun e w' => e = .returned (.int .i64 (cwE P C G O fs)) ∧ Kpt w w' := by
  have EV := Lib.hid (fun w => ev_run P C G O w)
  have CK := Lib.hid (fun w' (k : Kpt w w') => checks_run v fs w' (hl.kpt k))
  have KA : Hid (Kpt w (w.alloc (.cells #[.int .i64 P, .int .i64 C, .int .i64 G, .int .i64 O] 53))) := (Kpt.refl w).alloc _
  unfold cwE
  by_cases h : evE P C G O = 0
  · rw [if_pos h]
    rw [h] at EV
    clear h hl
    generalize checksE fs = E at *
    go_enter Try.func93, Try.ntmps93
    go_wp2_with (first
      | (go_at_call 45; (with_reducible refine (EV.out _).mono ?_); rintro e w1 ⟨rfl, k1⟩; have K1 := Lib.hid (ktr KA.out k1); clear k1)
      | (go_at_call 56; (with_reducible refine (CK.out _ K1.out).mono ?_); rintro e w2 ⟨rfl, k1⟩; have K2 := Lib.hid (ktr K1.out k1); clear k1))
    go_ret
    exact ⟨rfl, K2.out⟩
  · rw [if_neg h]
    have z : (evE P C G O != 0) = true := bne_iff_ne.2 h
    clear h hl
    generalize evE P C G O = E at *
    go_enter Try.func93, Try.ntmps93
    go_wp2_with (go_at_call 45; (with_reducible refine (EV.out _).mono ?_); rintro e w1 ⟨rfl, k1⟩; have K1 := Lib.hid (ktr KA.out k1); clear k1)
    go_ret
    exact ⟨rfl, K1.out⟩
theorem holdings_run (P C G O : Int) (a : Option Addr) (n cap : Nat) (w : World) : Calls Try.prog 94 #[.agg #[.int .i64 P, .int .i64 C, .int .i64 G, .int .i64 O], .slice a n cap] w fun e w' => e = .returned (.func (.func 125) #[] #[.pointer (some ⟨w.heap.size + 1, 0, none⟩), .pointer (some ⟨w.heap.size, 0, none⟩)]) ∧ w' = (w.alloc (.cells #[.int .i64 P, .int .i64 C, .int .i64 G, .int .i64 O] 53)).alloc (.cells #[.slice a n cap] 26) := by
  go_enter Try.func94, Try.ntmps94
  go_wp2
  go_ret
  exact ⟨rfl, rfl⟩

end Go.Proofs.Ytgccipmeiceonaa
