/-
  What must be of what is put down in any case: marginBegun answers true.
-/
import Derived.Test.YtlojdehjbcombaaMarI
import Derived.Test.YtlojdehjbcombaaTen
import Derived.Test.YtlojdehjbcombaaFailF
namespace Go.Proofs.Ytlojdehjbcombaa
open Go.RowKit
set_option linter.unusedVariables false

def stkL : List (Int × Int × Int) := [(1, 100, 9000), (2, 10, 5000)]
theorem stakes_run (w : World) : Calls Try.prog 81 #[] w fun e w' => ∃ v, e = .returned v ∧ ReadsP w' v stkL ∧ Kpt w w' := by
  have B := Lib.hid (Blk.made w #[.int .i64 1, .int .i64 100, .int .i64 9000, .int .i64 2, .int .i64 10, .int .i64 5000] 68)
  have K : Hid (Kpt w (w.alloc (.cells #[.int .i64 1, .int .i64 100, .int .i64 9000, .int .i64 2, .int .i64 10, .int .i64 5000] 68))) := (Kpt.refl w).alloc _
  go_enter Try.func81, Try.ntmps81
  go_wp2
  go_ret
  refine ⟨_, rfl, ⟨_, 2, rfl, (fun e => by cases e), by unfold maxLen; decide, by unfold stkL; decide, fun j hj => ⟨w.heap.size, 0, rfl, ?_⟩⟩, K.out⟩
  rcases (show j = 0 ∨ j = 1 by simp [stkL] at hj; omega) with rfl | rfl
  · exact ⟨B.out.cell 0, B.out.cell 1, B.out.cell 2⟩
  · exact ⟨B.out.cell 3, B.out.cell 4, B.out.cell 5⟩
def fl1 : List Int := [7, 1, 2, 0, 3, 739935, 100, 0, 0, 0]
theorem rf_fl1 (w : World) : ReadsF (w.alloc (.cells #[.int .i64 7, .int .i64 1, .int .i64 2, .int .i64 0, .int .i64 3, .int .i64 739935, .int .i64 100, .int .i64 0, .int .i64 0, .int .i64 0] 49)) (.slice (some ⟨w.heap.size, 0, none⟩) 1 1) [fl1] := by
  have B := Blk.made w #[.int .i64 7, .int .i64 1, .int .i64 2, .int .i64 0, .int .i64 3, .int .i64 739935, .int .i64 100, .int .i64 0, .int .i64 0, .int .i64 0] 49
  refine ⟨_, 1, rfl, by unfold maxLen; decide, by intro l hl; rw [List.mem_singleton.1 hl]; unfold FlB fl1; decide, fun k hk => ⟨w.heap.size, 0, rfl, fun j hj => ?_⟩⟩
  obtain rfl : k = 0 := by simp at hk; exact hk
  rw [Nat.zero_mul, Nat.zero_add, B.cell]
  rcases (show j = 0 ∨ j = 1 ∨ j = 2 ∨ j = 3 ∨ j = 4 ∨ j = 5 ∨ j = 6 ∨ j = 7 ∨ j = 8 ∨ j = 9 by omega) with rfl | rfl | rfl | rfl | rfl | rfl | rfl | rfl | rfl | rfl <;> rfl
theorem rp_none (w : World) : ReadsP (w.alloc (.cells #[.int .i64 0, .int .i64 0, .int .i64 0] 68)) (.slice (some ⟨w.heap.size, 0, none⟩) 1 1) [(0, 0, 0)] := by
  have B := Blk.made w #[.int .i64 0, .int .i64 0, .int .i64 0] 68
  refine ⟨_, 1, rfl, (fun e => by cases e), by unfold maxLen; decide, by decide, fun j hj => ⟨w.heap.size, 0, rfl, ?_⟩⟩
  obtain rfl : j = 0 := by simp at hj; exact hj
  exact ⟨B.cell 0, B.cell 1, B.cell 2⟩
theorem mb_val : valV stkL (tenL 20) = 950 ∧ valE stkL (tenL 20) = 0 := by decide +kernel
theorem mb_nd : ndV [fl1] (tenL 20) 1 2000 = 200 ∧ ndE [fl1] (tenL 20) 1 2000 = 0 := by decide +kernel
theorem mb_call : callV 150 200 10 = 50 ∧ callE 150 200 10 = 0 := by decide +kernel
theorem mb_prs : PrsOk (tenL 20) := prsOk (by decide +kernel)
theorem mb_sp1 : spE stkL (tenL 20) 500 0 = 0 := by decide +kernel
theorem mb_spv : spV stkL (tenL 20) 500 0 = 50 := by
  have hk : kpV (tenL 20) 1 100 9000 (wsum (tenL 20) stkL - 500) = 50 := kpV_is mb_prs (by decide) ⟨by decide, fun _ => by decide +kernel, fun _ => by decide +kernel⟩
  unfold spV
  rw [if_pos mb_sp1]
  show (100 : Int) - ((kpV (tenL 20) 1 100 9000 (wsum (tenL 20) stkL - 500) : Nat) : Int) = 50
  rw [hk]; rfl
theorem mb_sp2 : spE stkL (tenL 20) 951 0 = 4 := by decide +kernel
theorem mb_sp3 : spE stkL (tenL 20) 1 2 = 5 := by decide +kernel
theorem mb_no : stkE [(0, 0, 0)] = 3 := by decide +kernel

set_option maxRecDepth 100000 in
set_option maxHeartbeats 4000000 in
theorem marginBegun (w : World) : Calls Try.prog 43 #[] w fun e w' => e = .returned (.bool true) ∧ Kpt w w' := by
  have V1 := Lib.hid (fun v u w' hl hr => value_run v u stkL (tenL 20) w' hl hr)
  rw [mb_val.1, mb_val.2] at V1
  have N1 := Lib.hid (fun v u w' hl hr => need_any v u [fl1] (tenL 20) 1 2000 w' hl hr)
  rw [mb_nd.1, mb_nd.2] at N1
  have C1 := Lib.hid (fun w' => call_run 150 200 10 w')
  rw [mb_call.1, mb_call.2] at C1
  have S1 := Lib.hid (fun v u w' hl hr => (spare_any v u stkL (tenL 20) 500 0 w' hl hr).run)
  rw [mb_sp1, mb_spv] at S1
  have S2 := Lib.hid (fun v u w' hl hr => (spare_any v u stkL (tenL 20) 951 0 w' hl hr).run)
  rw [show spV stkL (tenL 20) 951 0 = 0 from if_neg (by rw [mb_sp2]; decide), mb_sp2] at S2
  have S3 := Lib.hid (fun v u w' hl hr => (spare_any v u stkL (tenL 20) 1 2 w' hl hr).run)
  rw [show spV stkL (tenL 20) 1 2 = 0 from if_neg (by rw [mb_sp3]; decide), mb_sp3] at S3
  have E1 := Lib.hid (fun w' => stkE_run _ [(0, 0, 0)] _ (rp_none w'))
  rw [mb_no] at E1
  have K0 : Hid (Kpt w w) := Kpt.refl w
  go_enter Try.func43, Try.ntmps43
  go_wp2_with (first
    | (go_at_call 81; (with_reducible refine (stakes_run _).mono ?_); rintro e w1 ⟨sv, rfl, sr, k1⟩; have K0 := Lib.hid (ktr K0.out k1); have SR := Lib.hid sr; clear k1 sr)
    | (go_at_call 56; (with_reducible refine (some_run _).mono ?_); rintro e w1 ⟨rfl, k1⟩; have K0 := Lib.hid ((ktr K0.out k1).alloc (.cells #[.int .i64 7, .int .i64 1, .int .i64 2, .int .i64 0, .int .i64 3, .int .i64 739935, .int .i64 100, .int .i64 0, .int .i64 0, .int .i64 0] 49)); have FR := Lib.hid (rf_fl1 w1); clear k1)
    | (go_at_call 82; (with_reducible refine (tenEach_run _).mono ?_); rintro e w2 ⟨tv, rfl, tr, k1⟩; have K0 := Lib.hid (ktr K0.out k1); (try have SR := Lib.hid (SR.out.kpt k1)); (try have FR := Lib.hid (FR.out.kpt k1)); have TR := Lib.hid tr; clear k1 tr)
    | (go_at_call 34; (with_reducible refine (V1.out _ _ _ SR.out TR.out).mono ?_); rintro e w3 ⟨rfl, k1⟩; have K0 := Lib.hid (ktr K0.out k1); clear k1 SR TR)
    | (go_at_call 35; (with_reducible refine (N1.out _ _ _ FR.out TR.out).mono ?_); rintro e w3 ⟨rfl, k1⟩; have K0 := Lib.hid (ktr K0.out k1); clear k1 FR TR)
    | (go_at_call 36; (with_reducible refine (C1.out _).mono ?_); rintro e w3 ⟨rfl, k1⟩; have K0 := Lib.hid (ktr K0.out k1); clear k1)
    | (go_at_call 37; (with_reducible refine (S1.out _ _ _ SR.out TR.out).mono ?_); rintro e w3 ⟨rfl, k1⟩; have K0 := Lib.hid (ktr K0.out k1); clear k1 SR TR)
    | (go_at_call 37; (with_reducible refine (S2.out _ _ _ SR.out TR.out).mono ?_); rintro e w3 ⟨rfl, k1⟩; have K0 := Lib.hid (ktr K0.out k1); clear k1 SR TR)
    | (go_at_call 37; (with_reducible refine (S3.out _ _ _ SR.out TR.out).mono ?_); rintro e w3 ⟨rfl, k1⟩; have K0 := Lib.hid (ktr K0.out k1); clear k1 SR TR)
    | (go_at_call 44; (with_reducible refine (E1.out _).mono ?_); rintro e w9 ⟨rfl, k1⟩; have K9 := Lib.hid (ktr (K0.out.alloc _) k1); clear k1))
  go_ret
  exact ⟨rfl, K9.out⟩

end Go.Proofs.Ytlojdehjbcombaa
