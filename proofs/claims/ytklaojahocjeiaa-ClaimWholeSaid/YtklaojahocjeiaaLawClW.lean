/-
  ClaimWhole: the law answers true.
-/
import Derived.Test.YtklaojahocjeiaaClmK
namespace Go.Proofs.Ytklaojahocjeiaa
open Go.RowKit
set_option linter.unusedVariables false

set_option maxHeartbeats 2000000 in
theorem cwh_bad (P C G O t U : Int) (h : evE P C G O ≠ 0) (w : World) : Calls Try.prog 5 #[.agg #[.int .i64 P, .int .i64 C, .int .i64 G, .int .i64 O], .int .i64 t, .int .i64 U] w fun e w' => e = .returned (.bool true) ∧ Kpt w w' := by
  have V1 := Lib.hid (fun w' => ev_run P C G O w')
  generalize evE P C G O = E at h V1
  have y : (E != 0) = true := bne_iff_ne.2 h
  clear h
  have K0 : Hid (Kpt w (w.alloc (.cells #[.int .i64 P, .int .i64 C, .int .i64 G, .int .i64 O] 23))) := (Kpt.refl w).alloc _
  have B0 : Hid (Blk (w.alloc (.cells #[.int .i64 P, .int .i64 C, .int .i64 G, .int .i64 O] 23)) w.heap.size #[.int .i64 P, .int .i64 C, .int .i64 G, .int .i64 O] 23) := Blk.made w _ _
  go_enter Try.func5, Try.ntmps5
  go_wp2_with (first
    | (go_at_call 17; (with_reducible refine (claimBegun _).mono ?_); rintro e w1 ⟨rfl, k1⟩; have K0 := Lib.hid (ktr K0.out k1); have B0 := Lib.hid (B0.out.kpt k1); have x0 : World.cell? w1 ⟨w.heap.size, 0, none⟩ = some (.int .i64 P) := B0.out.cell 0; have x1 : World.cell? w1 ⟨w.heap.size, 1, none⟩ = some (.int .i64 C) := B0.out.cell 1; have x2 : World.cell? w1 ⟨w.heap.size, 2, none⟩ = some (.int .i64 G) := B0.out.cell 2; have x3 : World.cell? w1 ⟨w.heap.size, 3, none⟩ = some (.int .i64 O) := B0.out.cell 3; clear k1)
    | (go_at_call 18; (with_reducible refine (V1.out _).mono ?_); rintro e w2 ⟨rfl, k1⟩; have K0 := Lib.hid (ktr K0.out k1); have B0 := Lib.hid (B0.out.kpt k1); have x0 : World.cell? w2 ⟨w.heap.size, 0, none⟩ = some (.int .i64 P) := B0.out.cell 0; have x1 : World.cell? w2 ⟨w.heap.size, 1, none⟩ = some (.int .i64 C) := B0.out.cell 1; have x2 : World.cell? w2 ⟨w.heap.size, 2, none⟩ = some (.int .i64 G) := B0.out.cell 2; have x3 : World.cell? w2 ⟨w.heap.size, 3, none⟩ = some (.int .i64 O) := B0.out.cell 3; clear k1))
  go_ret
  exact ⟨rfl, K0.out⟩
set_option maxHeartbeats 2000000 in
theorem cwh_neg (P C G O t U : Int) (h : evE P C G O = 0) (ht : t < 0) (w : World) : Calls Try.prog 5 #[.agg #[.int .i64 P, .int .i64 C, .int .i64 G, .int .i64 O], .int .i64 t, .int .i64 U] w fun e w' => e = .returned (.bool true) ∧ Kpt w w' := by
  have V1 := Lib.hid (fun w' => ev_run P C G O w')
  rw [h] at V1
  have y : decide (t < 0) = true := decide_eq_true ht
  clear h ht
  have K0 : Hid (Kpt w (w.alloc (.cells #[.int .i64 P, .int .i64 C, .int .i64 G, .int .i64 O] 23))) := (Kpt.refl w).alloc _
  have B0 : Hid (Blk (w.alloc (.cells #[.int .i64 P, .int .i64 C, .int .i64 G, .int .i64 O] 23)) w.heap.size #[.int .i64 P, .int .i64 C, .int .i64 G, .int .i64 O] 23) := Blk.made w _ _
  go_enter Try.func5, Try.ntmps5
  go_wp2_with (first
    | (go_at_call 17; (with_reducible refine (claimBegun _).mono ?_); rintro e w1 ⟨rfl, k1⟩; have K0 := Lib.hid (ktr K0.out k1); have B0 := Lib.hid (B0.out.kpt k1); have x0 : World.cell? w1 ⟨w.heap.size, 0, none⟩ = some (.int .i64 P) := B0.out.cell 0; have x1 : World.cell? w1 ⟨w.heap.size, 1, none⟩ = some (.int .i64 C) := B0.out.cell 1; have x2 : World.cell? w1 ⟨w.heap.size, 2, none⟩ = some (.int .i64 G) := B0.out.cell 2; have x3 : World.cell? w1 ⟨w.heap.size, 3, none⟩ = some (.int .i64 O) := B0.out.cell 3; clear k1)
    | (go_at_call 18; (with_reducible refine (V1.out _).mono ?_); rintro e w2 ⟨rfl, k1⟩; have K0 := Lib.hid (ktr K0.out k1); have B0 := Lib.hid (B0.out.kpt k1); have x0 : World.cell? w2 ⟨w.heap.size, 0, none⟩ = some (.int .i64 P) := B0.out.cell 0; have x1 : World.cell? w2 ⟨w.heap.size, 1, none⟩ = some (.int .i64 C) := B0.out.cell 1; have x2 : World.cell? w2 ⟨w.heap.size, 2, none⟩ = some (.int .i64 G) := B0.out.cell 2; have x3 : World.cell? w2 ⟨w.heap.size, 3, none⟩ = some (.int .i64 O) := B0.out.cell 3; clear k1))
  go_ret
  exact ⟨rfl, K0.out⟩
set_option maxHeartbeats 2000000 in
theorem cwh_big (P C G O t U : Int) (h : evE P C G O = 0) (ht : 1000 < t) (w : World) : Calls Try.prog 5 #[.agg #[.int .i64 P, .int .i64 C, .int .i64 G, .int .i64 O], .int .i64 t, .int .i64 U] w fun e w' => e = .returned (.bool true) ∧ Kpt w w' := by
  have V1 := Lib.hid (fun w' => ev_run P C G O w')
  rw [h] at V1
  have y : decide (1000 < t) = true := decide_eq_true ht
  have y2 : decide (t < 0) = false := decide_eq_false (by omega)
  clear h ht
  have K0 : Hid (Kpt w (w.alloc (.cells #[.int .i64 P, .int .i64 C, .int .i64 G, .int .i64 O] 23))) := (Kpt.refl w).alloc _
  have B0 : Hid (Blk (w.alloc (.cells #[.int .i64 P, .int .i64 C, .int .i64 G, .int .i64 O] 23)) w.heap.size #[.int .i64 P, .int .i64 C, .int .i64 G, .int .i64 O] 23) := Blk.made w _ _
  go_enter Try.func5, Try.ntmps5
  go_wp2_with (first
    | (go_at_call 17; (with_reducible refine (claimBegun _).mono ?_); rintro e w1 ⟨rfl, k1⟩; have K0 := Lib.hid (ktr K0.out k1); have B0 := Lib.hid (B0.out.kpt k1); have x0 : World.cell? w1 ⟨w.heap.size, 0, none⟩ = some (.int .i64 P) := B0.out.cell 0; have x1 : World.cell? w1 ⟨w.heap.size, 1, none⟩ = some (.int .i64 C) := B0.out.cell 1; have x2 : World.cell? w1 ⟨w.heap.size, 2, none⟩ = some (.int .i64 G) := B0.out.cell 2; have x3 : World.cell? w1 ⟨w.heap.size, 3, none⟩ = some (.int .i64 O) := B0.out.cell 3; clear k1)
    | (go_at_call 18; (with_reducible refine (V1.out _).mono ?_); rintro e w2 ⟨rfl, k1⟩; have K0 := Lib.hid (ktr K0.out k1); have B0 := Lib.hid (B0.out.kpt k1); have x0 : World.cell? w2 ⟨w.heap.size, 0, none⟩ = some (.int .i64 P) := B0.out.cell 0; have x1 : World.cell? w2 ⟨w.heap.size, 1, none⟩ = some (.int .i64 C) := B0.out.cell 1; have x2 : World.cell? w2 ⟨w.heap.size, 2, none⟩ = some (.int .i64 G) := B0.out.cell 2; have x3 : World.cell? w2 ⟨w.heap.size, 3, none⟩ = some (.int .i64 O) := B0.out.cell 3; clear k1))
  go_ret
  exact ⟨rfl, K0.out⟩
set_option maxHeartbeats 2000000 in
theorem cwh_no (P C G O t U : Int) (h : evE P C G O = 0) (ht : 0 ≤ t ∧ t ≤ 1000) (hO : O = 0) (w : World) : Calls Try.prog 5 #[.agg #[.int .i64 P, .int .i64 C, .int .i64 G, .int .i64 O], .int .i64 t, .int .i64 U] w fun e w' => e = .returned (.bool true) ∧ Kpt w w' := by
  have V1 := Lib.hid (fun w' => ev_run P C G O w')
  rw [h] at V1
  have y : decide (1000 < t) = false := decide_eq_false (by omega)
  have y2 : decide (t < 0) = false := decide_eq_false (by omega)
  have yO : (O == 0) = true := beq_iff_eq.2 hO
  clear h ht hO
  have K0 : Hid (Kpt w (w.alloc (.cells #[.int .i64 P, .int .i64 C, .int .i64 G, .int .i64 O] 23))) := (Kpt.refl w).alloc _
  have B0 : Hid (Blk (w.alloc (.cells #[.int .i64 P, .int .i64 C, .int .i64 G, .int .i64 O] 23)) w.heap.size #[.int .i64 P, .int .i64 C, .int .i64 G, .int .i64 O] 23) := Blk.made w _ _
  go_enter Try.func5, Try.ntmps5
  go_wp2_with (first
    | (go_at_call 17; (with_reducible refine (claimBegun _).mono ?_); rintro e w1 ⟨rfl, k1⟩; have K0 := Lib.hid (ktr K0.out k1); have B0 := Lib.hid (B0.out.kpt k1); have x0 : World.cell? w1 ⟨w.heap.size, 0, none⟩ = some (.int .i64 P) := B0.out.cell 0; have x1 : World.cell? w1 ⟨w.heap.size, 1, none⟩ = some (.int .i64 C) := B0.out.cell 1; have x2 : World.cell? w1 ⟨w.heap.size, 2, none⟩ = some (.int .i64 G) := B0.out.cell 2; have x3 : World.cell? w1 ⟨w.heap.size, 3, none⟩ = some (.int .i64 O) := B0.out.cell 3; clear k1)
    | (go_at_call 18; (with_reducible refine (V1.out _).mono ?_); rintro e w2 ⟨rfl, k1⟩; have K0 := Lib.hid (ktr K0.out k1); have B0 := Lib.hid (B0.out.kpt k1); have x0 : World.cell? w2 ⟨w.heap.size, 0, none⟩ = some (.int .i64 P) := B0.out.cell 0; have x1 : World.cell? w2 ⟨w.heap.size, 1, none⟩ = some (.int .i64 C) := B0.out.cell 1; have x2 : World.cell? w2 ⟨w.heap.size, 2, none⟩ = some (.int .i64 G) := B0.out.cell 2; have x3 : World.cell? w2 ⟨w.heap.size, 3, none⟩ = some (.int .i64 O) := B0.out.cell 3; clear k1))
  go_ret
  exact ⟨rfl, K0.out⟩
set_option maxHeartbeats 2000000 in
theorem cwh_err (P C G O t U : Int) (h : evE P C G O = 0) (ht : 0 ≤ t ∧ t ≤ 1000) (hO : O ≠ 0) (hU : hoE P C G O U ≠ 0) (w : World) : Calls Try.prog 5 #[.agg #[.int .i64 P, .int .i64 C, .int .i64 G, .int .i64 O], .int .i64 t, .int .i64 U] w fun e w' => e = .returned (.bool true) ∧ Kpt w w' := by
  have V1 := Lib.hid (fun w' => ev_run P C G O w')
  rw [h] at V1
  have y : decide (1000 < t) = false := decide_eq_false (by omega)
  have y2 : decide (t < 0) = false := decide_eq_false (by omega)
  obtain ⟨hP, hC, hG, hOb, hGO⟩ := evE_0 h
  have yO : (O == 0) = false := beq_eq_false_iff_ne.2 hO
  have hTOb : 0 ≤ t * O ∧ t * O ≤ 1000000 := ⟨Int.mul_nonneg ht.1 hOb.1, by have := Int.mul_le_mul ht.2 hOb.2 hOb.1 (by decide : (0 : Int) ≤ 1000); omega⟩
  have hTGb : 0 ≤ t * G ∧ t * G ≤ 1000000 := ⟨Int.mul_nonneg ht.1 hG.1, by have := Int.mul_le_mul ht.2 hG.2 hG.1 (by decide : (0 : Int) ≤ 1000); omega⟩
  have m1 : IntKind.i64.wrap (t * O) = t * O := IntWalk.i64_in _ (by omega)
  have m2 : IntKind.i64.wrap (t * G) = t * G := IntWalk.i64_in _ (by omega)
  have n1 : hoE P C G O (t * O) = 0 := by unfold hoE; rw [if_pos h, if_pos (by omega)]
  have n2 : hoN G O (t * O) = t * G := by
    unfold hoN
    rw [if_neg hO, show t * O * G = t * G * O by rw [Int.mul_assoc, Int.mul_comm O G, ← Int.mul_assoc], Int.mul_ediv_cancel _ hO]
  have n3 : hoR G O (t * O) = 0 := by
    unfold hoR
    rw [if_neg hO, show t * O * G = t * G * O by rw [Int.mul_assoc, Int.mul_comm O G, ← Int.mul_assoc], Int.mul_emod_left]
  have F1 := Lib.hid (fun w' => fresh_any P C G O (t * O) w')
  rw [n1, if_pos rfl, if_pos rfl, n2, n3] at F1
  obtain ⟨TO, eTO⟩ : ∃ z, z = t * O := ⟨_, rfl⟩
  obtain ⟨TG, eTG⟩ : ∃ z, z = t * G := ⟨_, rfl⟩
  replace m1 : IntKind.i64.wrap (t * O) = TO := by rw [m1, eTO]
  replace m2 : IntKind.i64.wrap (t * G) = TG := by rw [m2, eTG]
  rw [← eTO, ← eTG] at F1
  clear eTO eTG
  have F2 := Lib.hid (fun w' => fresh_any P C G O U w')
  rw [if_neg hU, if_neg hU] at F2
  generalize hoE P C G O U = E at hU F2
  have y3 : (E != 0) = true := bne_iff_ne.2 hU
  clear h ht hO hU hP hC hG hOb hGO hTOb hTGb n1 n2 n3
  have K0 : Hid (Kpt w (w.alloc (.cells #[.int .i64 P, .int .i64 C, .int .i64 G, .int .i64 O] 23))) := (Kpt.refl w).alloc _
  have B0 : Hid (Blk (w.alloc (.cells #[.int .i64 P, .int .i64 C, .int .i64 G, .int .i64 O] 23)) w.heap.size #[.int .i64 P, .int .i64 C, .int .i64 G, .int .i64 O] 23) := Blk.made w _ _
  go_enter Try.func5, Try.ntmps5
  go_wp2_with (first
    | (go_at_call 17; (with_reducible refine (claimBegun _).mono ?_); rintro e w1 ⟨rfl, k1⟩; have K0 := Lib.hid (ktr K0.out k1); have B0 := Lib.hid (B0.out.kpt k1); have x0 : World.cell? w1 ⟨w.heap.size, 0, none⟩ = some (.int .i64 P) := B0.out.cell 0; have x1 : World.cell? w1 ⟨w.heap.size, 1, none⟩ = some (.int .i64 C) := B0.out.cell 1; have x2 : World.cell? w1 ⟨w.heap.size, 2, none⟩ = some (.int .i64 G) := B0.out.cell 2; have x3 : World.cell? w1 ⟨w.heap.size, 3, none⟩ = some (.int .i64 O) := B0.out.cell 3; clear k1)
    | (go_at_call 18; (with_reducible refine (V1.out _).mono ?_); rintro e w2 ⟨rfl, k1⟩; have K0 := Lib.hid (ktr K0.out k1); have B0 := Lib.hid (B0.out.kpt k1); have x0 : World.cell? w2 ⟨w.heap.size, 0, none⟩ = some (.int .i64 P) := B0.out.cell 0; have x1 : World.cell? w2 ⟨w.heap.size, 1, none⟩ = some (.int .i64 C) := B0.out.cell 1; have x2 : World.cell? w2 ⟨w.heap.size, 2, none⟩ = some (.int .i64 G) := B0.out.cell 2; have x3 : World.cell? w2 ⟨w.heap.size, 3, none⟩ = some (.int .i64 O) := B0.out.cell 3; clear k1)
    | (go_at_call 9; (with_reducible refine (F1.out _).mono ?_); rintro e w3 ⟨rfl, k1⟩; have K0 := Lib.hid (ktr K0.out k1); have B0 := Lib.hid (B0.out.kpt k1); have x0 : World.cell? w3 ⟨w.heap.size, 0, none⟩ = some (.int .i64 P) := B0.out.cell 0; have x1 : World.cell? w3 ⟨w.heap.size, 1, none⟩ = some (.int .i64 C) := B0.out.cell 1; have x2 : World.cell? w3 ⟨w.heap.size, 2, none⟩ = some (.int .i64 G) := B0.out.cell 2; have x3 : World.cell? w3 ⟨w.heap.size, 3, none⟩ = some (.int .i64 O) := B0.out.cell 3; clear k1; clear F1)
    | (go_at_call 9; (with_reducible refine (F2.out _).mono ?_); rintro e w4 ⟨rfl, k1⟩; have K0 := Lib.hid (ktr K0.out k1); have B0 := Lib.hid (B0.out.kpt k1); have x0 : World.cell? w4 ⟨w.heap.size, 0, none⟩ = some (.int .i64 P) := B0.out.cell 0; have x1 : World.cell? w4 ⟨w.heap.size, 1, none⟩ = some (.int .i64 C) := B0.out.cell 1; have x2 : World.cell? w4 ⟨w.heap.size, 2, none⟩ = some (.int .i64 G) := B0.out.cell 2; have x3 : World.cell? w4 ⟨w.heap.size, 3, none⟩ = some (.int .i64 O) := B0.out.cell 3; clear k1; clear F2))
  go_ret
  exact ⟨rfl, K0.out⟩
set_option maxHeartbeats 2000000 in
theorem cwh_ok (P C G O t U : Int) (h : evE P C G O = 0) (ht : 0 ≤ t ∧ t ≤ 1000) (hO : O ≠ 0) (hU : hoE P C G O U = 0) (w : World) : Calls Try.prog 5 #[.agg #[.int .i64 P, .int .i64 C, .int .i64 G, .int .i64 O], .int .i64 t, .int .i64 U] w fun e w' => e = .returned (.bool true) ∧ Kpt w w' := by
  have V1 := Lib.hid (fun w' => ev_run P C G O w')
  rw [h] at V1
  have y : decide (1000 < t) = false := decide_eq_false (by omega)
  have y2 : decide (t < 0) = false := decide_eq_false (by omega)
  obtain ⟨hP, hC, hG, hOb, hGO⟩ := evE_0 h
  have yO : (O == 0) = false := beq_eq_false_iff_ne.2 hO
  have hTOb : 0 ≤ t * O ∧ t * O ≤ 1000000 := ⟨Int.mul_nonneg ht.1 hOb.1, by have := Int.mul_le_mul ht.2 hOb.2 hOb.1 (by decide : (0 : Int) ≤ 1000); omega⟩
  have hTGb : 0 ≤ t * G ∧ t * G ≤ 1000000 := ⟨Int.mul_nonneg ht.1 hG.1, by have := Int.mul_le_mul ht.2 hG.2 hG.1 (by decide : (0 : Int) ≤ 1000); omega⟩
  have m1 : IntKind.i64.wrap (t * O) = t * O := IntWalk.i64_in _ (by omega)
  have m2 : IntKind.i64.wrap (t * G) = t * G := IntWalk.i64_in _ (by omega)
  have n1 : hoE P C G O (t * O) = 0 := by unfold hoE; rw [if_pos h, if_pos (by omega)]
  have n2 : hoN G O (t * O) = t * G := by
    unfold hoN
    rw [if_neg hO, show t * O * G = t * G * O by rw [Int.mul_assoc, Int.mul_comm O G, ← Int.mul_assoc], Int.mul_ediv_cancel _ hO]
  have n3 : hoR G O (t * O) = 0 := by
    unfold hoR
    rw [if_neg hO, show t * O * G = t * G * O by rw [Int.mul_assoc, Int.mul_comm O G, ← Int.mul_assoc], Int.mul_emod_left]
  have F1 := Lib.hid (fun w' => fresh_any P C G O (t * O) w')
  rw [n1, if_pos rfl, if_pos rfl, n2, n3] at F1
  obtain ⟨TO, eTO⟩ : ∃ z, z = t * O := ⟨_, rfl⟩
  obtain ⟨TG, eTG⟩ : ∃ z, z = t * G := ⟨_, rfl⟩
  replace m1 : IntKind.i64.wrap (t * O) = TO := by rw [m1, eTO]
  replace m2 : IntKind.i64.wrap (t * G) = TG := by rw [m2, eTG]
  rw [← eTO, ← eTG] at F1
  clear eTO eTG
  have F2 := Lib.hid (fun w' => fresh_any P C G O U w')
  rw [hU, if_pos rfl, if_pos rfl] at F2
  obtain ⟨-, hu⟩ := hoE_0 hU
  have q1 := ho_mul hu hG
  have e1 : hoN G O U = U * G / O := if_neg hO
  have e2 : hoR G O U = U * G % O := if_neg hO
  rw [e1, e2] at F2
  have r1 := Int.emod_nonneg (U * G) hO
  have r2 := Int.emod_lt_of_pos (U * G) (show 0 < O by omega)
  have r3 := Int.mul_ediv_add_emod (U * G) O
  rw [Int.mul_comm O] at r3
  have m3 : IntKind.i64.wrap (U * G) = U * G := IntWalk.i64_in _ (by omega)
  obtain ⟨UG, eUG⟩ : ∃ z, z = U * G := ⟨_, rfl⟩
  replace m3 : IntKind.i64.wrap (U * G) = UG := by rw [m3, eUG]
  rw [← eUG] at F2 r1 r2 r3 q1
  clear eUG
  generalize UG / O = q at *
  generalize UG % O = r at *
  obtain ⟨z, ez⟩ : ∃ z, z = q * O := ⟨_, rfl⟩
  have m4 : IntKind.i64.wrap (q * O) = z := by rw [IntWalk.i64_in _ (by omega), ez]
  rw [← ez] at r3
  have m5 : IntKind.i64.wrap (z + r) = UG := by rw [IntWalk.i64_in _ (by omega)]; omega
  clear ez
  have y3 : decide (0 ≤ r) = true := decide_eq_true r1
  have y4 : decide (r < O) = true := decide_eq_true r2
  clear h ht hO hU hP hC hG hOb hGO hTOb hTGb n1 n2 n3 hu q1 e1 e2 r1 r2 r3
  have K0 : Hid (Kpt w (w.alloc (.cells #[.int .i64 P, .int .i64 C, .int .i64 G, .int .i64 O] 23))) := (Kpt.refl w).alloc _
  have B0 : Hid (Blk (w.alloc (.cells #[.int .i64 P, .int .i64 C, .int .i64 G, .int .i64 O] 23)) w.heap.size #[.int .i64 P, .int .i64 C, .int .i64 G, .int .i64 O] 23) := Blk.made w _ _
  go_enter Try.func5, Try.ntmps5
  go_wp2_with (first
    | (go_at_call 17; (with_reducible refine (claimBegun _).mono ?_); rintro e w1 ⟨rfl, k1⟩; have K0 := Lib.hid (ktr K0.out k1); have B0 := Lib.hid (B0.out.kpt k1); have x0 : World.cell? w1 ⟨w.heap.size, 0, none⟩ = some (.int .i64 P) := B0.out.cell 0; have x1 : World.cell? w1 ⟨w.heap.size, 1, none⟩ = some (.int .i64 C) := B0.out.cell 1; have x2 : World.cell? w1 ⟨w.heap.size, 2, none⟩ = some (.int .i64 G) := B0.out.cell 2; have x3 : World.cell? w1 ⟨w.heap.size, 3, none⟩ = some (.int .i64 O) := B0.out.cell 3; clear k1)
    | (go_at_call 18; (with_reducible refine (V1.out _).mono ?_); rintro e w2 ⟨rfl, k1⟩; have K0 := Lib.hid (ktr K0.out k1); have B0 := Lib.hid (B0.out.kpt k1); have x0 : World.cell? w2 ⟨w.heap.size, 0, none⟩ = some (.int .i64 P) := B0.out.cell 0; have x1 : World.cell? w2 ⟨w.heap.size, 1, none⟩ = some (.int .i64 C) := B0.out.cell 1; have x2 : World.cell? w2 ⟨w.heap.size, 2, none⟩ = some (.int .i64 G) := B0.out.cell 2; have x3 : World.cell? w2 ⟨w.heap.size, 3, none⟩ = some (.int .i64 O) := B0.out.cell 3; clear k1)
    | (go_at_call 9; (with_reducible refine (F1.out _).mono ?_); rintro e w3 ⟨rfl, k1⟩; have K0 := Lib.hid (ktr K0.out k1); have B0 := Lib.hid (B0.out.kpt k1); have x0 : World.cell? w3 ⟨w.heap.size, 0, none⟩ = some (.int .i64 P) := B0.out.cell 0; have x1 : World.cell? w3 ⟨w.heap.size, 1, none⟩ = some (.int .i64 C) := B0.out.cell 1; have x2 : World.cell? w3 ⟨w.heap.size, 2, none⟩ = some (.int .i64 G) := B0.out.cell 2; have x3 : World.cell? w3 ⟨w.heap.size, 3, none⟩ = some (.int .i64 O) := B0.out.cell 3; clear k1; clear F1)
    | (go_at_call 9; (with_reducible refine (F2.out _).mono ?_); rintro e w4 ⟨rfl, k1⟩; have K0 := Lib.hid (ktr K0.out k1); have B0 := Lib.hid (B0.out.kpt k1); have x0 : World.cell? w4 ⟨w.heap.size, 0, none⟩ = some (.int .i64 P) := B0.out.cell 0; have x1 : World.cell? w4 ⟨w.heap.size, 1, none⟩ = some (.int .i64 C) := B0.out.cell 1; have x2 : World.cell? w4 ⟨w.heap.size, 2, none⟩ = some (.int .i64 G) := B0.out.cell 2; have x3 : World.cell? w4 ⟨w.heap.size, 3, none⟩ = some (.int .i64 O) := B0.out.cell 3; clear k1; clear F2))
  go_ret
  exact ⟨rfl, K0.out⟩
theorem cwhole_plain (P C G O t U : Int) (w : World) : Calls Try.prog 5 #[.agg #[.int .i64 P, .int .i64 C, .int .i64 G, .int .i64 O], .int .i64 t, .int .i64 U] w fun e w' => e = .returned (.bool true) ∧ Kpt w w' := by
  by_cases h : evE P C G O = 0
  · by_cases h1 : t < 0
    · exact cwh_neg P C G O t U h h1 w
    by_cases h2 : 1000 < t
    · exact cwh_big P C G O t U h h2 w
    by_cases h3 : O = 0
    · exact cwh_no P C G O t U h (by omega) h3 w
    by_cases h4 : hoE P C G O U = 0
    · exact cwh_ok P C G O t U h (by omega) h3 h4 w
    · exact cwh_err P C G O t U h (by omega) h3 h4 w
  · exact cwh_bad P C G O t U h w

end Go.Proofs.Ytklaojahocjeiaa
