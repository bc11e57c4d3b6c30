/-
  What a holding yields.
-/
import Derived.Test.YtklaojahocjeiaaClmA
namespace Go.Proofs.Ytklaojahocjeiaa
open Go.RowKit
set_option linter.unusedVariables false

theorem hcheck_run (P C G O U : Int) (w : World) : Calls Try.prog 28 #[.agg #[.int .i64 P, .int .i64 C, .int .i64 G, .int .i64 O, .int .i64 U]] w fun e w' => e = .returned (.int .i64 (hoE P C G O U)) ∧ Kpt w w' := by
  have EV := Lib.hid (fun w => ev_run P C G O w)
  have KA : Hid (Kpt w (w.alloc (.cells #[.int .i64 P, .int .i64 C, .int .i64 G, .int .i64 O, .int .i64 U] 58))) := (Kpt.refl w).alloc _
  have BA : Hid (Blk (w.alloc (.cells #[.int .i64 P, .int .i64 C, .int .i64 G, .int .i64 O, .int .i64 U] 58)) w.heap.size #[.int .i64 P, .int .i64 C, .int .i64 G, .int .i64 O, .int .i64 U] 58) := Blk.made _ _ _
  unfold hoE
  by_cases h : evE P C G O = 0
  · rw [if_pos h]
    rw [h] at EV
    clear h
    by_cases h1 : U < 0
    · rw [if_neg (by omega)]
      have d1 : decide (U < 0) = true := decide_eq_true h1
      go_enter Try.func28, Try.ntmps28
      go_wp2_with (go_at_call 18; (with_reducible refine (EV.out _).mono ?_); rintro e w1 ⟨rfl, k1⟩; have K1 := Lib.hid (ktr KA.out k1); have c4 : w1.cell? ⟨w.heap.size, 4, none⟩ = some (.int .i64 U) := (BA.out.kpt k1).cell 4; clear k1)
      go_ret
      exact ⟨rfl, K1.out⟩
    have d1 : decide (U < 0) = false := decide_eq_false h1
    by_cases h2 : 1073741824 < U
    · rw [if_neg (by omega)]
      have d2 : decide (1073741824 < U) = true := decide_eq_true h2
      go_enter Try.func28, Try.ntmps28
      go_wp2_with (go_at_call 18; (with_reducible refine (EV.out _).mono ?_); rintro e w1 ⟨rfl, k1⟩; have K1 := Lib.hid (ktr KA.out k1); have c4 : w1.cell? ⟨w.heap.size, 4, none⟩ = some (.int .i64 U) := (BA.out.kpt k1).cell 4; clear k1)
      go_ret
      exact ⟨rfl, K1.out⟩
    have d2 : decide (1073741824 < U) = false := decide_eq_false h2
    rw [if_pos (by omega)]
    go_enter Try.func28, Try.ntmps28
    go_wp2_with (go_at_call 18; (with_reducible refine (EV.out _).mono ?_); rintro e w1 ⟨rfl, k1⟩; have K1 := Lib.hid (ktr KA.out k1); have c4 : w1.cell? ⟨w.heap.size, 4, none⟩ = some (.int .i64 U) := (BA.out.kpt k1).cell 4; clear k1)
    go_ret
    exact ⟨rfl, K1.out⟩
  · rw [if_neg h]
    have z : (evE P C G O != 0) = true := bne_iff_ne.2 h
    clear h
    generalize evE P C G O = E at *
    go_enter Try.func28, Try.ntmps28
    go_wp2_with (go_at_call 18; (with_reducible refine (EV.out _).mono ?_); rintro e w1 ⟨rfl, k1⟩; have K1 := Lib.hid (ktr KA.out k1); clear k1)
    go_ret
    exact ⟨rfl, K1.out⟩

/-- the money, the papers and what is left of so many units -/
def hoC (C U : Int) : Int := U * C / 10000
def hoN (G O U : Int) : Int := if O = 0 then 0 else U * G / O
def hoR (G O U : Int) : Int := if O = 0 then 0 else U * G % O
theorem hcash_run (P C G O U : Int) (hc : 0 ≤ C ∧ C ≤ 1099511627776) (hu : 0 ≤ U ∧ U ≤ 1073741824) (w : World) : Calls Try.prog 29 #[.agg #[.int .i64 P, .int .i64 C, .int .i64 G, .int .i64 O, .int .i64 U]] w fun e w' => e = .returned (.int .i64 (hoC C U)) ∧ Kpt w w' := by
  have d := cos_dly (p := C) hu
  have CO := Lib.hid (fun w' => cost_any U C w')
  rw [d.1, d.2, prc_mk hc.1 hc.2, if_pos rfl, if_pos rfl] at CO
  unfold hoC
  clear d hc hu
  generalize U * C / 10000 = r at *
  generalize cosR U C = m at *
  have KA : Hid (Kpt w (w.alloc (.cells #[.int .i64 P, .int .i64 C, .int .i64 G, .int .i64 O, .int .i64 U] 58))) := (Kpt.refl w).alloc _
  go_enter Try.func29, Try.ntmps29
  go_wp2_with (go_at_call 54; (with_reducible refine (CO.out _).mono ?_); rintro e w1 ⟨rfl, k1⟩; have K1 := Lib.hid (ktr KA.out k1); clear k1)
  go_ret
  exact ⟨rfl, K1.out⟩
theorem ho_mul {U G : Int} (hu : 0 ≤ U ∧ U ≤ 1073741824) (hg : 0 ≤ G ∧ G ≤ 1000) : 0 ≤ U * G ∧ U * G ≤ 1073741824000 := by
  have a : 0 ≤ U * G := Int.mul_nonneg hu.1 hg.1
  have b : U * G ≤ 1073741824 * 1000 := Int.mul_le_mul hu.2 hg.2 hg.1 (by omega)
  omega
theorem hfresh_run (P C G O U : Int) (hg : 0 ≤ G ∧ G ≤ 1000) (ho : 0 ≤ O ∧ O ≤ 1000) (hu : 0 ≤ U ∧ U ≤ 1073741824) (w : World) : Calls Try.prog 30 #[.agg #[.int .i64 P, .int .i64 C, .int .i64 G, .int .i64 O, .int .i64 U]] w fun e w' => e = .returned (.tuple #[.int .i64 (hoN G O U), .int .i64 (hoR G O U)]) ∧ Kpt w w' := by
  have mb := ho_mul hu hg
  unfold hoN hoR
  have KA : Hid (Kpt w (w.alloc (.cells #[.int .i64 P, .int .i64 C, .int .i64 G, .int .i64 O, .int .i64 U] 58))) := (Kpt.refl w).alloc _
  by_cases h : O = 0
  · rw [if_pos h, if_pos h]
    have z : (O == 0) = true := beq_iff_eq.2 h
    clear h
    go_enter Try.func30, Try.ntmps30
    go_wp2
    go_ret2
    exact ⟨rfl, KA.out⟩
  · rw [if_neg h, if_neg h]
    have z : (O == 0) = false := beq_eq_false_iff_ne.2 h
    have wn : IntKind.i64.wrap (U * G) = U * G := IntWalk.i64_in _ (by omega)
    have w1 : IntKind.i64.wrap (U * G / O) = U * G / O := by
      have a : 0 ≤ U * G / O := Int.ediv_nonneg mb.1 ho.1
      have b : U * G / O ≤ U * G := Int.ediv_le_self _ mb.1
      exact IntWalk.i64_in _ (by omega)
    have t1 : Int.tdiv (U * G) O = U * G / O := Int.tdiv_eq_ediv_of_nonneg mb.1
    have t2 : Int.tmod (U * G) O = U * G % O := Int.tmod_eq_emod_of_nonneg mb.1
    have w2 : IntKind.i64.wrap (U * G % O) = U * G % O := by
      have a : 0 ≤ U * G % O := Int.emod_nonneg _ h
      have b : U * G % O < O := Int.emod_lt_of_pos _ (by omega)
      exact IntWalk.i64_in _ (by omega)
    have h0 : ¬ O = 0 := h
    go_enter Try.func30, Try.ntmps30
    go_wp2
    go_quiet (fail)
    go_wp2
    go_ret2
    exact ⟨rfl, KA.out.drewN _⟩

end Go.Proofs.Ytklaojahocjeiaa
