/-
  What whole and Check of package grid do.
-/
import Derived.Test.YtbfeojdlaajpdaaGridB
namespace Go.Proofs.Ytbfeojdlaajpdaa
open Go.RowKit
set_option linter.unusedVariables false

theorem has_amt {n : Int} (h : hasB n = true) : amtB n = true := by
  have := has_t h
  exact decide_eq_true (by omega)
theorem has_sum {zs : List Int} (h : ∀ z ∈ zs, hasB z = true) : 0 ≤ zs.sum ∧ zs.sum ≤ 1152921504606846976 * (zs.length : Int) := by
  induction zs with
  | nil => simp
  | cons a l ih =>
    have h1 := ih fun z hz => h z (by simp [hz])
    have h2 := has_t (h a (by simp))
    rw [List.sum_cons, List.length_cons]
    omega

set_option maxHeartbeats 4000000 in
theorem whole_run (v vl : Value) (zs : List Int) (ps : List (Int × Int × Int)) (w : World) (hr : Reads w v zs) (hp : ReadsP w vl ps) (hn : zs.length = 31) (hz : ∀ z ∈ zs, hasB z = true) (hm : ps.length ≤ 60) (hd : ∀ p ∈ ps, dueO p) :
    Calls Try.prog 56 #[v, vl] w fun e w' => e = .returned (.agg #[.int .i64 (hiOf (zs.sum + duesS ps)), .int .u64 (loOf (zs.sum + duesS ps))]) ∧ Grew w w' := by
  have HS0 : 0 ≤ zs.sum ∧ zs.sum ≤ 1152921504606846976 * 31 := by have := has_sum hz; rw [hn] at this; exact this
  have OF := Lib.hid (fun w' (g : Grew w w') => of_any v zs w' (hr.kpt g.kpt) (by omega) (fun z h => has_amt (hz z h)))
  have OK := Lib.hid (okS_whole HS0 hd hm)
  have HD := Lib.hid hd
  generalize zs.sum = S at OF OK ⊢
  obtain ⟨pa, pcap, rfl, -, -, -, hpc⟩ := hp
  have HP := Lib.hid hpc
  clear hpc hd hz hr HS0
  go_enter Try.func56, Try.ntmps56
  go_wp2_with (go_at_call 80; (with_reducible refine (OF.out _ ((Grew.refl _).alloc _ _)).mono ?_); rintro e w1 ⟨rfl, g1⟩; have B0 := Lib.hid ((Blk.made _ _ _).grew g1); have G1 := Lib.hid (gtr ((Grew.refl w).alloc _ _) g1); clear g1)
  go_loopw [12] (fun i wr => ∃ k : Nat, k ≤ ps.length ∧ i = .int .i64 k ∧ Hid (Blk wr w.heap.size #[.int .i64 0, .int .u64 0] 87) ∧ Hid (Blk wr w1.heap.size #[.int .i64 (hiOf (S + duesS (ps.take k))), .int .u64 (loOf (S + duesS (ps.take k)))] 87) ∧ Hid (Grew w wr)) (fun i _ => ps.length - (intOf i).toNat)
  case atStart => exact ⟨0, Nat.zero_le _, rfl, B0.out.alloc _, by unfold Hid; rw [show S + duesS (ps.take 0) = S from by simp [duesS]]; exact Blk.made _ _ _, G1.out.alloc _ _⟩
  case round =>
    obtain ⟨k, hk, rfl, HB0, HB1, HG⟩ := hrel
    have hlt0 : w.heap.size < w1.heap.size := B0.out.lt
    by_cases hlt : k < ps.length
    · obtain ⟨x, off, rfl, hpt⟩ := HP.out k hlt
      obtain ⟨c0, c1, c2⟩ := hpt.grew HG.out
      have hb := due_t (HD.out _ (getP_mem hlt)).1
      have hs := duesS_take hlt
      have hok := Lib.hid (OK.out k)
      clear hpt
      generalize ps.getD k default = p at c0 c1 c2 hb hs
      have HS : Hid (S + duesS (ps.take (k + 1)) = S + duesS (ps.take k) + p.2.2) := by unfold Hid; rw [hs]; omega
      clear hs
      generalize S + duesS (ps.take k) = U at HS hok HB1
      obtain ⟨F, T, A⟩ := p
      simp only at c0 c1 c2 hb HS
      have s0 : wr.cell? ⟨w1.heap.size, 0, none⟩ = some (.int .i64 (hiOf U)) := HB1.out.cell 0
      have s1 : wr.cell? ⟨w1.heap.size, 1, none⟩ = some (.int .u64 (loOf U)) := HB1.out.cell 1
      have hlt1 : w1.heap.size < wr.heap.size := HB1.out.lt
      go_wp2_with (go_at_call 81; (with_reducible refine (plus_at U A _ hok.out (by omega) (by omega)).mono ?_); rintro e w2 ⟨rfl, g1⟩; have B1 := Lib.hid ((HB1.out.alloc _).grew g1); have B0 := Lib.hid ((HB0.out.alloc _).grew g1); have d0 : w2.cell? ⟨w1.heap.size, 0, none⟩ = some (.int .i64 (hiOf U)) := B1.out.cell 0; have d1 : w2.cell? ⟨w1.heap.size, 1, none⟩ = some (.int .u64 (loOf U)) := B1.out.cell 1; have f0 := B1.out.frozen 0; have f1 := B1.out.frozen 1; have G1 := Lib.hid (gtr (HG.out.alloc _ _) g1); clear g1)
      go_roundw
      case rel => exact ⟨k + 1, by omega, by go_num, (B0.out.away (by simp; omega) _).away (by simp; omega) _, by unfold Hid; rw [HS.out]; exact (B1.out.put 0 _).put 1 _, (G1.out.setCell (by simp; omega) _).setCell (by simp; omega) _⟩
      case measure => simp [intOf]; omega
    · have e : ps.take k = ps := List.take_of_length_le (by omega)
      rw [e] at HB1
      clear e
      obtain ⟨U, hU⟩ : ∃ U, U = S + duesS ps := ⟨_, rfl⟩
      rw [← hU] at HB1
      have EU := Lib.hid hU; clear hU
      have s0 : wr.cell? ⟨w1.heap.size, 0, none⟩ = some (.int .i64 (hiOf U)) := HB1.out.cell 0
      have s1 : wr.cell? ⟨w1.heap.size, 1, none⟩ = some (.int .u64 (loOf U)) := HB1.out.cell 1
      have d0 : wr.cell? ⟨w.heap.size, 0, none⟩ = some (.int .i64 0) := HB0.out.cell 0
      have d1 : wr.cell? ⟨w.heap.size, 1, none⟩ = some (.int .u64 0) := HB0.out.cell 1
      have f0 := HB0.out.frozen 0
      have f1 := HB0.out.frozen 1
      go_wp2
      exact bodyPost_ret (v := .agg #[.int .i64 (hiOf U), .int .u64 (loOf U)]) (by simp [results, Try.results56, go_sem, d0, d1]) rfl ⟨by rw [← EU.out], (HG.out.setCell (by simp) _).setCell (by simp) _⟩

set_option maxHeartbeats 4000000 in
theorem gridCheck_run (v vl : Value) (zs : List Int) (ps : List (Int × Int × Int)) (w : World) (hr : Reads w v zs) (hp : ReadsP w vl ps) :
    Calls Try.prog 21 #[v, vl] w fun e w' => e = .returned (.int .i64 (gridE zs ps)) ∧ Grew w w' := by
  have hl := hr.len
  unfold maxLen at hl
  have HC := Lib.hid (Reads.fitAt hr)
  have NC := Lib.hid (fun w' (g : Grew w w') => netCheck_any vl ps w' (hp.grew g))
  have WR := Lib.hid (fun w' (g : Grew w w') => whole_run v vl zs ps w' (hr.grew g) (hp.grew g))
  obtain ⟨a, cap, rfl, -⟩ := id hr
  unfold Hid at HC
  simp only at HC
  have HC := Lib.hid HC
  clear hr hp
  by_cases h31 : ¬ zs.length = 31
  · have HX : Hid (gridE zs ps = 1) := by unfold Hid gridE; rw [if_pos h31]
    have h31' : (zs.length : Int) ≠ 31 := by omega
    clear h31
    go_enter Try.func21, Try.ntmps21
    go_wp2
    go_ret
    exact ⟨ret_int HX.out.symm, Grew.refl _⟩
  replace h31 : zs.length = 31 := Classical.not_not.1 h31
  have H31 : Hid (zs.length = 31) := h31
  have HE0 : Hid (gridE zs ps = if zs.all hasB then (if netE ps ≠ 0 then netE ps else if amtB (zs.sum + duesS ps) then 0 else 8) else 3) := by unfold Hid gridE; rw [if_neg (by omega)]
  obtain ⟨n, hn⟩ : ∃ n, n = zs.length := ⟨_, rfl⟩
  have WR := Lib.hid (fun w' g => WR.out w' g h31)
  rw [← hn] at HC h31 hl WR ⊢
  subst h31
  clear hn
  go_enter Try.func21, Try.ntmps21
  go_wp2
  go_loopw [15] (fun i wr => ∃ k : Nat, k ≤ 31 ∧ i = .int .i64 k ∧ Hid (∀ j, j < k → hasB (zs.getD j 0) = true) ∧ Hid (Grew w wr)) (fun i _ => 31 - (intOf i).toNat)
  case atStart => exact ⟨0, Nat.zero_le _, rfl, (fun j hj => absurd hj (Nat.not_lt_zero j)), Grew.refl _⟩
  case round =>
    obtain ⟨k, hk, rfl, HA, HG⟩ := hrel
    by_cases hlt : k < 31
    · obtain ⟨b, off, e, hc⟩ := HC.out k hlt
      injection e with e1 _ _
      subst e1
      have c0 := HG.out.cell (cell_in hc) hc
      clear hc
      have HX : Hid (hasB (zs.getD k 0) = true → ∀ j, j < k + 1 → hasB (zs.getD j 0) = true) := fun h j hj => by
        rcases Nat.lt_or_ge j k with h1 | h1
        · exact HA.out j h1
        · obtain rfl : j = k := by omega
          exact h
      have HY : Hid (hasB (zs.getD k 0) = false → gridE zs ps = 3) := fun h => by
        rw [HE0.out, if_neg]
        intro hall
        have := List.all_eq_true.1 hall _ (getD_mem (show k < zs.length by have := H31.out; omega))
        rw [h] at this
        cases this
      generalize zs.getD k 0 = z at c0 HX HY
      cases hB : hasB z with
      | true =>
        obtain ⟨z0, z1⟩ := has_t hB
        have HX := Lib.hid (HX.out hB)
        clear hB HY
        have z0' : decide (z < 0) = false := decide_eq_false (by omega)
        go_wp2
        go_roundw
        case rel => exact ⟨k + 1, by omega, by go_num, HX.out, HG.out⟩
        case measure => simp [intOf]; omega
      | false =>
        have HY := Lib.hid (HY.out hB)
        have hf := has_f hB
        clear hB HX
        by_cases z0 : z < 0
        · clear hf
          go_wp2
          go_ret
          exact ⟨ret_int HY.out.symm, HG.out⟩
        · have z0' : decide (z < 0) = false := decide_eq_false z0
          have z1 : 1152921504606846976 < z := by omega
          clear hf
          go_wp2
          go_ret
          exact ⟨ret_int HY.out.symm, HG.out⟩
    · obtain rfl : k = 31 := by omega
      have hall : ∀ z ∈ zs, hasB z = true := by
        intro z hz
        obtain ⟨j, hj, rfl⟩ := List.mem_iff_getElem.1 hz
        have := HA.out j (by have := H31.out; omega)
        rwa [List.getD_eq_getElem?_getD, List.getElem?_eq_getElem hj] at this
      have HE1 : Hid (gridE zs ps = if netE ps ≠ 0 then netE ps else if amtB (zs.sum + duesS ps) then 0 else 8) := by unfold Hid; rw [HE0.out, if_pos (List.all_eq_true.2 hall)]
      have HALL := Lib.hid hall
      clear hall
      obtain ⟨ne, hne⟩ : ∃ ne, ne = netE ps := ⟨_, rfl⟩
      rw [← hne] at NC HE1
      have HNE := Lib.hid hne
      clear hne
      have NC1 := Lib.hid (NC.out _ HG.out)
      by_cases h0 : ne = 0
      · subst h0
        have HN0 := net_0 HNE.out.symm
        have HE2 : Hid (gridE zs ps = if amtB (zs.sum + duesS ps) then 0 else 8) := by unfold Hid; rw [HE1.out, if_neg (by simp)]
        have WR1 := Lib.hid (fun w' g => WR.out w' g HALL.out HN0.1 HN0.2)
        clear HN0
        generalize zs.sum + duesS ps = U at WR1 HE2
        have AO := Lib.hid (fun w' => amount_ok U w')
        have AN := Lib.hid (fun w' => amount_no U w')
        cases hU : amtB U with
        | true =>
          have HZ : Hid (gridE zs ps = 0) := by unfold Hid; rw [HE2.out, hU]; rfl
          have AO := Lib.hid (fun w' => AO.out w' hU)
          clear hU AN HE2
          go_wp2_with (first
            | (go_at_call 55; (with_reducible refine NC1.out.mono ?_); rintro e w2 ⟨rfl, g2⟩; have G2 := Lib.hid (gtr HG.out g2); clear g2)
            | (go_at_call 56; (with_reducible refine (WR1.out _ G2.out).mono ?_); rintro e w3 ⟨rfl, g3⟩; have G3 := Lib.hid (gtr G2.out g3); clear g3)
            | (go_at_call 57; (with_reducible refine (AO.out _).mono ?_); rintro e w4 ⟨rfl, g4⟩; have G4 := Lib.hid (gtr G3.out g4); clear g4))
          go_ret
          exact ⟨ret_int HZ.out.symm, G4.out⟩
        | false =>
          have HZ : Hid (gridE zs ps = 8) := by unfold Hid; rw [HE2.out, hU]; rfl
          have AN := Lib.hid (fun w' => AN.out w' hU)
          clear hU AO HE2
          go_wp2_with (first
            | (go_at_call 55; (with_reducible refine NC1.out.mono ?_); rintro e w2 ⟨rfl, g2⟩; have G2 := Lib.hid (gtr HG.out g2); clear g2)
            | (go_at_call 56; (with_reducible refine (WR1.out _ G2.out).mono ?_); rintro e w3 ⟨rfl, g3⟩; have G3 := Lib.hid (gtr G2.out g3); clear g3)
            | (go_at_call 57; (with_reducible refine (AN.out _).mono ?_); rintro e w4 ⟨rfl, g4⟩; have G4 := Lib.hid (gtr G3.out g4); clear g4))
          go_ret
          exact ⟨ret_int HZ.out.symm, G4.out⟩
      · have HZ : Hid (gridE zs ps = ne) := by unfold Hid; rw [HE1.out, if_pos h0]
        clear WR HE1
        go_wp2_with (go_at_call 55; (with_reducible refine NC1.out.mono ?_); rintro e w2 ⟨rfl, g2⟩; have G2 := Lib.hid (gtr HG.out g2); clear g2)
        go_ret
        exact ⟨ret_int HZ.out.symm, G2.out⟩

end Go.Proofs.Ytbfeojdlaajpdaa
