/-
  What total, Value and Call of package margin do.
-/
import Derived.Test.YtlojdehjbcombaaMarB
import Derived.Deep.RegionWith
namespace Go.Proofs.Ytlojdehjbcombaa
open Go.RowKit
set_option linter.unusedVariables false

set_option maxHeartbeats 4000000 in
theorem total_run (v u : Value) (l : List (Int × Int × Int)) (ps : List Int) (w : World) (hl : ReadsP w v l) (hr : Reads w u ps) (hps : PrsOk ps) (hs : ∀ p ∈ l, stkB p = true) (h40 : l.length ≤ 60) :
    Calls Try.prog 72 #[v, u] w fun e w' => e = .returned (.tuple #[.int .i64 (amV (wsum ps l)), .int .i64 (amE (wsum ps l))]) ∧ Kpt w w' := by
  obtain ⟨a, cap, rfl, -, hm, -, hc⟩ := hl
  have HR := Lib.hid hr
  obtain ⟨a2, cap2, rfl, -, -⟩ := hr
  unfold maxLen at hm
  have HC := Lib.hid hc
  have HS := Lib.hid hs
  have HW := Lib.hid (fun k (h : k < l.length) => wsum_take (ps := ps) h)
  have HO := Lib.hid (fun k => wsum_ok hps (l := l.take k) (fun p hp => hs p (List.mem_of_mem_take hp)) (by rw [List.length_take]; omega))
  have HP := Lib.hid hps
  have DA : Hid (l.take l.length = l) := List.take_of_length_le (Nat.le_refl _)
  have AM := Lib.hid (fun w' => amount_any (wsum ps l) w')
  generalize amV (wsum ps l) = av at *
  generalize amE (wsum ps l) = ae at *
  have HM := Lib.hid (fun k (h : k < l.length) => (getP_mem h : l.getD k default ∈ l))
  obtain ⟨n, hn⟩ : ∃ n, n = l.length := ⟨_, rfl⟩
  rw [← hn] at HC hm HW DA HM ⊢
  clear hc hn hs hps h40
  go_enter Try.func72, Try.ntmps72
  go_wp2
  go_loopw [11] (fun ii wr => ∃ k : Nat, k ≤ n ∧ ii = .int .i64 (k : Int) ∧ Hid (Blk wr w.heap.size #[.int .i64 (hiOf (wsum ps (l.take k))), .int .u64 (loOf (wsum ps (l.take k)))] 127) ∧ Hid (Kpt w wr)) (fun ii _ => n - (intOf ii).toNat)
  case atStart => exact ⟨0, Nat.zero_le _, rfl, Blk.made _ _ _, (Kpt.refl w).alloc _⟩
  case round =>
    obtain ⟨k, hk, rfl, HB, HK⟩ := hrel
    by_cases hlt : k < n
    · obtain ⟨g, off, rfl, hp⟩ := HC.out k hlt
      obtain ⟨c0, c1, c2⟩ := hp.kpt HK.out
      have hw := HW.out k hlt
      have hst := HS.out _ (HM.out k hlt)
      have ok := Lib.hid (HO.out k)
      clear hp
      generalize l.getD k default = p at c0 c1 c2 hw hst
      obtain ⟨P, U, C⟩ := p
      simp only at c0 c1 c2
      have st := stk_t hst
      simp only at st
      have bd := wrt_stk HP.out hst
      have WO := Lib.hid (fun w' (k : Kpt w w') => worth_run P U C _ ps w' (HR.out.kpt k) HP.out (by omega) (by omega) (by omega))
      have HW2 := Lib.hid hw
      clear hw hst st
      generalize wrt ps (P, U, C) = q at *
      generalize wsum ps (l.take k) = S at *
      have hne : w.heap.size < wr.heap.size := HB.out.lt
      go_upto_region 5 with fail
      have GA := Lib.hid (HK.out.alloc (.cells #[.int .i64 P, .int .i64 U, .int .i64 C] 68))
      have WA := Lib.hid (HB.out.alloc (.cells #[.int .i64 P, .int .i64 U, .int .i64 C] 68))
      have DA := Lib.hid (Blk.made wr #[.int .i64 P, .int .i64 U, .int .i64 C] 68)
      clear c0 c1 c2
      generalize wr.alloc (.cells #[.int .i64 P, .int .i64 U, .int .i64 C] 68) = W1 at *
      generalize wr.heap.size = D at *
      have e0 : W1.cell? ⟨D, 0, none⟩ = some (.int .i64 P) := DA.out.cell 0
      have e1 : W1.cell? ⟨D, 1, none⟩ = some (.int .i64 U) := DA.out.cell 1
      have e2 : W1.cell? ⟨D, 2, none⟩ = some (.int .i64 C) := DA.out.cell 2
      have d0 : W1.cell? ⟨w.heap.size, 0, none⟩ = some (.int .i64 (hiOf S)) := WA.out.cell 0
      have d1 : W1.cell? ⟨w.heap.size, 1, none⟩ = some (.int .u64 (loOf S)) := WA.out.cell 1
      have GD : Hid (Kpt w W1.drew) := Below.drew (show Below w.heap.size w W1 from GA.out)
      go_region_with (first
        | (go_at_call 105; ((with_reducible refine (WO.out _ GD.out).mono ?_); rintro e w1 ⟨rfl, k1⟩; have B1 := Lib.hid ((WA.out.drew).kpt k1); have d2 : w1.cell? ⟨w.heap.size, 0, none⟩ = some (.int .i64 (hiOf S)) := B1.out.cell 0; have d3 : w1.cell? ⟨w.heap.size, 1, none⟩ = some (.int .u64 (loOf S)) := B1.out.cell 1; have G1 := Lib.hid (ktr GD.out k1); clear k1))
        | (go_at_call 97; (with_reducible refine (plus_at S q _ ok.out (by omega) (by omega)).mono ?_); rintro e w2 ⟨rfl, g1⟩; have B2 := Lib.hid (B1.out.grew g1); have d4 : w2.cell? ⟨w.heap.size, 0, none⟩ = some (.int .i64 (hiOf S)) := B2.out.cell 0; have d5 : w2.cell? ⟨w.heap.size, 1, none⟩ = some (.int .u64 (loOf S)) := B2.out.cell 1; have f0 := B2.out.frozen 0; have f1 := B2.out.frozen 1; have G2 := Lib.hid (ktr G1.out g1.kpt); clear g1))
      all_goals go_wp2
      all_goals go_roundw
      all_goals first
        | (case rel => exact ⟨k + 1, by omega, by go_num, by unfold Hid; rw [HW2.out]; exact (B2.out.put 0 _).put 1 _, (G2.out.setCell (Nat.le_refl _) _).setCell (Nat.le_refl _) _⟩)
        | (case measure => simp [intOf]; omega)
    · obtain rfl : k = n := by omega
      rw [DA.out] at HB
      have c0 : wr.cell? ⟨w.heap.size, 0, none⟩ = some (.int .i64 (hiOf (wsum ps l))) := HB.out.cell 0
      have c1 : wr.cell? ⟨w.heap.size, 1, none⟩ = some (.int .u64 (loOf (wsum ps l))) := HB.out.cell 1
      generalize wsum ps l = S at *
      go_wp2_with (go_at_call 106; (with_reducible refine (AM.out _).mono ?_); rintro e w2 ⟨rfl, k2⟩; have K2 := Lib.hid (ktr HK.out k2); clear k2)
      go_ret2
      exact ⟨rfl, K2.out⟩

theorem value_run (v u : Value) (l : List (Int × Int × Int)) (ps : List Int) (w : World) (hl : ReadsP w v l) (hr : Reads w u ps) :
    Calls Try.prog 34 #[v, u] w fun e w' => e = .returned (.tuple #[.int .i64 (valV l ps), .int .i64 (valE l ps)]) ∧ Kpt w w' := by
  have CA := Lib.hid (checkAt_run v u l ps w hl hr)
  unfold valV valE
  by_cases h : mcE l ps = 0
  · obtain ⟨⟨h40, hs⟩, hps⟩ := mcE_0 h
    rw [if_pos h, orE_r h]
    rw [h] at CA
    have TO := Lib.hid (fun w' (k : Kpt w w') => total_run v u l ps w' (hl.kpt k) (hr.kpt k) hps hs (by omega))
    clear hl hr h hs hps
    generalize amV (wsum ps l) = av at *
    generalize amE (wsum ps l) = ae at *
    go_enter Try.func34, Try.ntmps34
    go_wp2_with (first
      | (go_at_call 71; (with_reducible refine CA.out.mono ?_); rintro e w1 ⟨rfl, k1⟩; have K1 := Lib.hid k1; clear k1)
      | (go_at_call 72; (with_reducible refine (TO.out _ K1.out).mono ?_); rintro e w2 ⟨rfl, k2⟩; have K2 := Lib.hid (ktr K1.out k2); clear k2))
    go_ret2
    exact ⟨rfl, K2.out⟩
  · rw [if_neg h, orE_l _ h]
    have z : (mcE l ps != 0) = true := bne_iff_ne.2 h
    clear h hl hr
    generalize mcE l ps = E at *
    go_enter Try.func34, Try.ntmps34
    go_wp2_with (go_at_call 71; (with_reducible refine CA.out.mono ?_); rintro e w1 ⟨rfl, k1⟩; have K1 := Lib.hid k1; clear k1)
    go_ret2
    exact ⟨rfl, K1.out⟩

theorem call_no (has need least : Int) (h : ¬ (sumB has = true ∧ sumB need = true ∧ sumB least = true)) (w : World) :
    Calls Try.prog 36 #[.int .i64 has, .int .i64 need, .int .i64 least] w fun e w' => e = .returned (.tuple #[.int .i64 0, .int .i64 3]) ∧ Kpt w w' := by
  have I1 := Lib.hid (fun w => isSum_run has w)
  have I2 := Lib.hid (fun w => isSum_run need w)
  have I3 := Lib.hid (fun w => isSum_run least w)
  have h1 : (!sumB has || (!sumB need || !sumB least)) = true := by
    cases ha : sumB has <;> cases hb : sumB need <;> cases hc : sumB least <;> simp_all
  clear h
  cases ha : sumB has with
  | false =>
    rw [ha] at I1
    clear h1 ha
    go_enter Try.func36, Try.ntmps36
    go_wp2_with (go_at_call 76; (with_reducible refine (I1.out _).mono ?_); rintro e w1 ⟨rfl, rfl⟩)
    go_ret2
    exact ⟨rfl, Kpt.refl _⟩
  | true =>
    rw [ha] at I1 h1
    cases hb : sumB need with
    | false =>
      rw [hb] at I2
      clear h1 ha hb
      go_enter Try.func36, Try.ntmps36
      go_wp2_with (first
        | (go_at_call 76; (with_reducible refine (I1.out _).mono ?_); rintro e w1 ⟨rfl, rfl⟩)
        | (go_at_call 76; (with_reducible refine (I2.out _).mono ?_); rintro e w1 ⟨rfl, rfl⟩))
      go_ret2
      exact ⟨rfl, Kpt.refl _⟩
    | true =>
      rw [hb] at I2 h1
      have hc : sumB least = false := by simpa using h1
      rw [hc] at I3
      clear h1 ha hb hc
      go_enter Try.func36, Try.ntmps36
      go_wp2_with (first
        | (go_at_call 76; (with_reducible refine (I1.out _).mono ?_); rintro e w1 ⟨rfl, rfl⟩)
        | (go_at_call 76; (with_reducible refine (I2.out _).mono ?_); rintro e w1 ⟨rfl, rfl⟩)
        | (go_at_call 76; (with_reducible refine (I3.out _).mono ?_); rintro e w1 ⟨rfl, rfl⟩))
      go_ret2
      exact ⟨rfl, Kpt.refl _⟩
theorem call_run (has need least : Int) (w : World) :
    Calls Try.prog 36 #[.int .i64 has, .int .i64 need, .int .i64 least] w fun e w' => e = .returned (.tuple #[.int .i64 (callV has need least), .int .i64 (callE has need least)]) ∧ Kpt w w' := by
  unfold callV callE
  by_cases h : sumB has = true ∧ sumB need = true ∧ sumB least = true
  · rw [if_pos h, if_pos h]
    have I1 := Lib.hid (fun w => isSum_run has w)
    have I2 := Lib.hid (fun w => isSum_run need w)
    have I3 := Lib.hid (fun w => isSum_run least w)
    rw [h.1] at I1
    rw [h.2.1] at I2
    rw [h.2.2] at I3
    have a1 := sum_t h.1
    have a2 := sum_t h.2.1
    have a3 := sum_t h.2.2
    have wn : IntKind.i64.wrap (need - has) = need - has := IntWalk.i64_in _ (by omega)
    clear h
    by_cases hl : need - has < least
    · rw [if_pos hl]
      go_enter Try.func36, Try.ntmps36
      go_wp2_with (first
        | (go_at_call 76; (with_reducible refine (I1.out _).mono ?_); rintro e w1 ⟨rfl, rfl⟩)
        | (go_at_call 76; (with_reducible refine (I2.out _).mono ?_); rintro e w1 ⟨rfl, rfl⟩)
        | (go_at_call 76; (with_reducible refine (I3.out _).mono ?_); rintro e w1 ⟨rfl, rfl⟩))
      go_ret2
      exact ⟨rfl, Kpt.refl _⟩
    · rw [if_neg hl]
      go_enter Try.func36, Try.ntmps36
      go_wp2_with (first
        | (go_at_call 76; (with_reducible refine (I1.out _).mono ?_); rintro e w1 ⟨rfl, rfl⟩)
        | (go_at_call 76; (with_reducible refine (I2.out _).mono ?_); rintro e w1 ⟨rfl, rfl⟩)
        | (go_at_call 76; (with_reducible refine (I3.out _).mono ?_); rintro e w1 ⟨rfl, rfl⟩))
      go_ret2
      exact ⟨rfl, Kpt.refl _⟩
  · rw [if_neg h, if_neg h]
    exact call_no has need least h w

end Go.Proofs.Ytlojdehjbcombaa
