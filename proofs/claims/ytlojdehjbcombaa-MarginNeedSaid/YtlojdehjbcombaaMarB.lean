/-
  What worth, total, isSum, checkAt, Value and Call of package margin do.
-/
import Derived.Test.YtlojdehjbcombaaMarA
import Derived.Test.YtlojdehjbcombaaQuietK
import Derived.Deep.RegionWith
namespace Go.Proofs.Ytlojdehjbcombaa
open Go.RowKit
set_option linter.unusedVariables false

theorem pt_priced {U p C : Int} (h1 : 0 ≤ U ∧ U ≤ 1073741824) (h2 : 0 ≤ C ∧ C ≤ 10000) (h3 : 0 ≤ p ∧ p ≤ 1099511627776) (w : World) : Calls Try.prog 75 #[.int .i64 (U * p / 10000), .int .i64 C, .int .i64 10000] w fun e w' => e = .returned (.tuple #[.int .i64 (U * p / 10000 * C / 10000), .int .i64 (U * p / 10000 * C % 10000), .int .i64 0]) ∧ Grew w w' := by
  have c := cost_bd h1 h3
  have b := wrt_bd0 h1 h2 h3
  exact part_ok _ _ _ (amt_mk (by omega) (by omega)) (rng_mk h2.1 (by omega) (by decide) (by decide)) (amt_mk (by omega) (by omega)) w
theorem cost_priced {U p : Int} (h1 : 0 ≤ U ∧ U ≤ 1073741824) (h3 : 0 ≤ p ∧ p ≤ 1099511627776) (w : World) : Calls Try.prog 85 #[.int .i64 U, .int .i64 p] w fun e w' => e = .returned (.tuple #[.int .i64 (U * p / 10000), .int .i64 (cosR U p), .int .i64 0]) ∧ Kpt w w' := by
  have c := cost_any U p w
  have d := cos_dly (p := p) h1
  have hp : prcB p = true := prc_mk h3.1 h3.2
  rw [d.1, d.2, hp, if_pos rfl, if_pos rfl] at c
  exact c

set_option maxHeartbeats 1000000 in
theorem worth_run (P U C : Int) (v : Value) (ps : List Int) (w : World) (hr : Reads w v ps) (hps : PrsOk ps) (hP : 1 ≤ P ∧ P ≤ 20) (h1 : 0 ≤ U ∧ U ≤ 1073741824) (h2 : 0 ≤ C ∧ C ≤ 10000) :
    Calls Try.prog 105 #[.agg #[.int .i64 P, .int .i64 U, .int .i64 C], v] w fun e w' => e = .returned (.int .i64 (wrt ps (P, U, C))) ∧ Kpt w w' := by
  obtain ⟨a, cap, rfl, hm, hc⟩ := hr
  have h20 := hps.1
  obtain ⟨g, off, rfl, c0⟩ := hc (P - 1).toNat (by omega)
  have hp := hps.at_ (P - 1).toNat
  obtain ⟨R, hR⟩ : ∃ R, R = wrt ps (P, U, C) := ⟨_, rfl⟩
  rw [← hR]
  have HR : Hid (U * ps.getD (P - 1).toNat 0 / 10000 * C / 10000 = R) := hR.symm
  clear hR
  generalize ps.getD (P - 1).toNat 0 = p at *
  have CO := Lib.hid (fun w => cost_priced h1 hp w)
  have PT := Lib.hid (fun w => pt_priced h1 h2 hp w)
  rw [HR.out] at PT
  generalize U * p / 10000 = k at *
  generalize cosR U p = m at *
  generalize k * C % 10000 = o at *
  have KA : Hid (Kpt w (w.alloc (.cells #[.int .i64 P, .int .i64 U, .int .i64 C] 68))) := (Kpt.refl w).alloc _
  have DA : Hid (Blk (w.alloc (.cells #[.int .i64 P, .int .i64 U, .int .i64 C] 68)) w.heap.size #[.int .i64 P, .int .i64 U, .int .i64 C] 68) := Blk.made _ _ _
  obtain ⟨j, hj⟩ : ∃ j, (P - 1).toNat = j := ⟨_, rfl⟩
  have C0 : Hid (w.cell? ⟨g, off + j, none⟩ = some (.int .i64 p)) := by rw [← hj]; exact c0
  clear hc c0
  have n2 : 1 ≤ P := hP.1
  have n3 : 0 ≤ P - 1 := by omega
  have n4 : P - 1 < (ps.length : Int) := by omega
  have n5 : -9223372036854775808 ≤ P - 1 := by omega
  have n6 : P - 1 ≤ 9223372036854775807 := by omega
  have n7 : IntKind.i64.wrap (P - 1) = P - 1 := IntWalk.i64_in _ (by omega)
  clear hP h1 h2 hp h20 hps HR
  unfold maxLen at hm
  generalize ps.length = n at *
  go_enter Try.func105, Try.ntmps105
  go_upto_region 1 with fail
  have r0 := cell_k (q := w.alloc (.cells #[.int .i64 P, .int .i64 U, .int .i64 C] 68)) (a := ⟨w.heap.size, 0, none⟩) (v := .int .i64 P) (DA.out.cell 0)
  have r1 := cell_k (q := w.alloc (.cells #[.int .i64 P, .int .i64 U, .int .i64 C] 68)) (a := ⟨w.heap.size, 1, none⟩) (v := .int .i64 U) (DA.out.cell 1)
  have p0 := cell_k (q := w.alloc (.cells #[.int .i64 P, .int .i64 U, .int .i64 C] 68)) (a := ⟨g, off + j, none⟩) (v := .int .i64 p) (KA.out.cell C0.out)
  have mixed : Try.prog.follows .mixedOrders = true := by kernel_rfl
  refine quiet_k (q := w.alloc (.cells #[.int .i64 P, .int .i64 U, .int .i64 C] 68)) mixed (by kernel_rfl) ?_
  repeat (quiet_step (first | (go_at_call 85; with_reducible refine calls_k (CO.out _))))
  refine wpQuiet_nil ?_
  intro w8 hw1
  obtain ⟨⟨wz, kz⟩, hw2⟩ := hw1
  have hw3 : w8 = wz := hw2
  clear hw2
  subst hw3
  have KZ := Lib.hid (ktr KA.out kz)
  have c2 : w8.cell? ⟨w.heap.size, 2, none⟩ = some (.int .i64 C) := (DA.out.kpt kz).cell 2
  clear kz
  go_wp2_with (go_at_call 75; (with_reducible refine (PT.out _).mono ?_); rintro e w9 ⟨rfl, g9⟩; have K9 := Lib.hid (ktr KZ.out g9.kpt); clear g9)
  go_ret
  exact ⟨rfl, K9.out⟩

theorem isSum_run (n : Int) (w : World) : Calls Try.prog 76 #[.int .i64 n] w fun e w' => e = .returned (.bool (sumB n)) ∧ w = w' := by
  by_cases h : 0 ≤ n
  · by_cases h2 : n ≤ 1152921504606846976
    · rw [show sumB n = true from decide_eq_true ⟨h, h2⟩]
      have d := decide_eq_true h
      have d2 := decide_eq_true h2
      go_enter Try.func76, Try.ntmps76
      go_wp2
      go_ret
      exact ⟨rfl, rfl⟩
    · rw [show sumB n = false from decide_eq_false (by omega)]
      have d := decide_eq_true h
      have d2 := decide_eq_false h2
      go_enter Try.func76, Try.ntmps76
      go_wp2
      go_ret
      exact ⟨rfl, rfl⟩
  · rw [show sumB n = false from decide_eq_false (by omega)]
    have d := decide_eq_false h
    go_enter Try.func76, Try.ntmps76
    go_wp2
    go_ret
    exact ⟨rfl, rfl⟩

theorem checkAt_run (v u : Value) (l : List (Int × Int × Int)) (ps : List Int) (w : World) (hl : ReadsP w v l) (hr : Reads w u ps) :
    Calls Try.prog 71 #[v, u] w fun e w' => e = .returned (.int .i64 (mcE l ps)) ∧ Kpt w w' := by
  have SC := Lib.hid (stkE_run v l w hl)
  have PC := Lib.hid (fun w' (k : Kpt w w') => prices_run u ps w' (hr.kpt k))
  unfold mcE
  by_cases h : stkE l = 0
  · rw [orE_r h]
    rw [h] at SC
    clear h
    generalize prsE ps = E at *
    go_enter Try.func71, Try.ntmps71
    go_wp2_with (first
      | (go_at_call 44; (with_reducible refine SC.out.mono ?_); rintro e w1 ⟨rfl, k1⟩; have K1 := Lib.hid k1; clear k1)
      | (go_at_call 73; (with_reducible refine (PC.out _ K1.out).mono ?_); rintro e w2 ⟨rfl, rfl⟩))
    go_ret
    exact ⟨rfl, K1.out⟩
  · rw [orE_l _ h]
    have z : (stkE l != 0) = true := bne_iff_ne.2 h
    clear h
    generalize stkE l = E at *
    go_enter Try.func71, Try.ntmps71
    go_wp2_with (go_at_call 44; (with_reducible refine SC.out.mono ?_); rintro e w1 ⟨rfl, k1⟩; have K1 := Lib.hid k1; clear k1)
    go_ret
    exact ⟨rfl, K1.out⟩

end Go.Proofs.Ytlojdehjbcombaa
