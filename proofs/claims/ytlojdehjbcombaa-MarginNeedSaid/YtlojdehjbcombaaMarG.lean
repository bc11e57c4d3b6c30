/-
  What Spare of package margin answers where nothing is wrong; what owed and Need do.
-/
import Derived.Test.YtlojdehjbcombaaMarF
import Derived.Test.YtlojdehjbcombaaFailS
import Derived.Test.YtlojdehjbcombaaIdsOk
namespace Go.Proofs.Ytlojdehjbcombaa
open Go.RowKit
set_option linter.unusedVariables false

set_option maxHeartbeats 2000000 in
theorem spare_ok (v u : Value) (l : List (Int × Int × Int)) (ps : List Int) (need at' : Int) (w : World) (hl : ReadsP w v l) (hr : Reads w u ps) (h : spE l ps need at' = 0) : SpIs v u need at' (spV l ps need at') 0 w := by
  have CA := Lib.hid (checkAt_run v u l ps w hl hr)
  unfold SpIs
  obtain ⟨h0, h2, ⟨h3a, h3b⟩, h4, h5⟩ := spE_0 h
  obtain ⟨⟨h40, hs⟩, hps⟩ := mcE_0 h0
  have TO := Lib.hid (fun w' (k : Kpt w w') => total_run v u l ps w' (hl.kpt k) (hr.kpt k) hps hs (by omega))
  have I1 := Lib.hid (fun w => isSum_run need w)
  have b0 := wsum_bd hps hs
  have am := amt_t h4
  have sn := sum_t h2
  rw [h0] at CA
  rw [h2] at I1
  rw [(am_ok h4).1, (am_ok h4).2] at TO
  have HV : spV l ps need at' = (stkAt l at').2.1 - kpV ps (stkAt l at').1 (stkAt l at').2.1 (stkAt l at').2.2 (wsum ps l - need) := by unfold spV; rw [if_pos h]
  rw [HV]
  clear HV h h0 h2 h4
  have st := stk_t (hs _ (getP_mem (ps := l) (k := at'.toNat) (by omega)))
  have hst : stkAt l at' = l.getD at'.toNat default := rfl
  rw [← hst] at st
  have HR := Lib.hid hr
  obtain ⟨a2, cap2, rfl, -⟩ := hr
  obtain ⟨a, cap, rfl, -, hm, -, hc⟩ := hl
  unfold maxLen at hm
  obtain ⟨g, off, rfl, hp⟩ := hc at'.toNat (by omega)
  rw [← hst] at hp
  clear hc hs hst
  have KE := Lib.hid (fun w' (k : Kpt w w') => kept_run (stkAt l at').1 (stkAt l at').2.1 (stkAt l at').2.2 (wsum ps l - need) _ ps w' (HR.out.kpt k) hps (by omega) (by omega) (by omega) (by omega))
  have kb := (kpV_bd hps (P := (stkAt l at').1) (U := (stkAt l at').2.1) (C := (stkAt l at').2.2) (most := wsum ps l - need) (by omega) (by omega) (by omega)).1
  generalize stkAt l at' = p at *
  obtain ⟨P, U, C⟩ := p
  simp only at *
  generalize kpV ps P U C (wsum ps l - need) = kv at *
  generalize wsum ps l = S at *
  obtain ⟨c0, c1, c2⟩ := hp
  obtain ⟨j, hj⟩ : ∃ j, at'.toNat = j := ⟨_, rfl⟩
  rw [hj] at c0 c1 c2
  have C0 := Lib.hid c0
  have C1 := Lib.hid c1
  have C2 := Lib.hid c2
  clear c0 c1 c2
  have y1 : decide (at' < 0) = false := decide_eq_false (by omega)
  have y2 : decide ((l.length : Int) ≤ at') = false := decide_eq_false (by omega)
  generalize l.length = n at *
  generalize ps.length = m at *
  have y5 : ¬ S < need := by omega
  have w1 : IntKind.i64.wrap (S - need) = S - need := IntWalk.i64_in _ (by omega)
  have w2 : IntKind.i64.wrap (U - kv) = U - kv := IntWalk.i64_in _ (by omega)
  have x1 : -9223372036854775808 ≤ S - need := by omega
  have x2 : S - need ≤ 9223372036854775807 := by omega
  have x3 : -9223372036854775808 ≤ U - kv := by omega
  have x4 : U - kv ≤ 9223372036854775807 := by omega
  clear st kb am sn b0 h5
  go_enter Try.func37, Try.ntmps37
  go_upto_region 13 with (first
    | (go_at_call 71; (with_reducible refine CA.out.mono ?_); rintro e w1 ⟨rfl, k1⟩; have K1 := Lib.hid k1; clear k1)
    | (go_at_call 76; (with_reducible refine (I1.out _).mono ?_); rintro e w2 ⟨rfl, rfl⟩)
    | (go_at_call 72; (with_reducible refine (TO.out _ K1.out).mono ?_); rintro e w3 ⟨rfl, k2⟩; have K2 := Lib.hid (ktr K1.out k2); clear k2))
  have r0 := cell_k (q := w3) (a := ⟨g, off + j * 3, none⟩) (v := .int .i64 P) (K2.out.cell C0.out)
  have r1 := cell_k (q := w3) (a := ⟨g, off + j * 3 + 1, none⟩) (v := .int .i64 U) (K2.out.cell C1.out)
  have r2 := cell_k (q := w3) (a := ⟨g, off + j * 3 + 2, none⟩) (v := .int .i64 C) (K2.out.cell C2.out)
  have KQ := Lib.hid (fun p : KptTo w3 => KE.out p.w (ktr K2.out p.h))
  have mixed : Try.prog.follows .mixedOrders = true := by kernel_rfl
  refine quiet_k (q := w3) mixed (by kernel_rfl) ?_
  repeat (quiet_step (first | (go_at_call 77; with_reducible refine calls_k (KQ.out _))))
  refine wpQuiet_nil ?_
  intro w8 hw1
  obtain ⟨⟨wz, kz⟩, hw2⟩ := hw1
  have hw3 : w8 = wz := hw2
  clear hw2
  subst hw3
  go_wp2
  go_ret2
  exact ⟨rfl, ktr K2.out kz⟩
theorem spare_any (v u : Value) (l : List (Int × Int × Int)) (ps : List Int) (need at' : Int) (w : World) (hl : ReadsP w v l) (hr : Reads w u ps) : SpIs v u need at' (spV l ps need at') (spE l ps need at') w := by
  by_cases h : spE l ps need at' = 0
  · rw [h]; exact spare_ok v u l ps need at' w hl hr h
  · rw [show spV l ps need at' = 0 from if_neg h]; exact spare_bad v u l ps need at' w hl hr h
theorem SpIs.run {v u : Value} {need at' V E : Int} {w : World} (h : SpIs v u need at' V E w) : Calls Try.prog 37 #[v, u, .int .i64 need, .int .i64 at'] w fun e w' => e = .returned (.tuple #[.int .i64 V, .int .i64 E]) ∧ Kpt w w' := h

end Go.Proofs.Ytlojdehjbcombaa
