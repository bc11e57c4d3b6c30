/-
  Merged: RefPDay.
-/
import Derived.Test.YtgccipmeiceonaaMp31
import Derived.Test.YtgccipmeiceonaaMp34
import Derived.Test.YtgccipmeiceonaaMp37
import Derived.Test.YtgccipmeiceonaaMp35
import Derived.Test.YtgccipmeiceonaaMp24
-- RefPDay
namespace Go.Proofs.Ytgccipmeiceonaa
open Go.RowKit
set_option linter.unusedVariables false

theorem stgV_bd (o d g1 g2 g3 q : Int) : 0 ≤ stgV o d g1 g2 g3 q ∧ stgV o d g1 g2 g3 q ≤ 5 := by
  unfold stgV; repeat' split
  all_goals omega
theorem stL_bd (W : Int) (hs tl l : List Int) (q : Int) : 0 ≤ stL W hs tl l q ∧ stL W hs tl l q ≤ 5 := by
  unfold stL stgR
  split
  · exact stgV_bd _ _ _ _ _ _
  · omega
theorem rae_L (W q : Int) (tl l : List Int) (v : Value) (hs : List Int) (w : World) (hr : Reads w v hs) :
    Calls Try.prog 65 #[calV W v, .agg #[.int .i64 (tl.getD 0 0), .int .i64 (tl.getD 1 0), .int .i64 (tl.getD 2 0), .int .i64 (tl.getD 3 0)], .agg #[.int .i64 (l.getD 0 0), .int .i64 (l.getD 1 0), .int .i64 (l.getD 2 0), .int .i64 (l.getD 3 0), .int .i64 (l.getD 4 0), .int .i64 (l.getD 5 0), .int .i64 (l.getD 6 0), .int .i64 (l.getD 7 0), .int .i64 (l.getD 8 0), .int .i64 (l.getD 9 0)], .int .i64 q] w fun z w' => z = .returned (.int .i64 (lkL W hs tl l q)) ∧ Kpt w w' := rae_run W _ _ _ _ _ _ _ _ _ _ _ _ _ _ q v hs w hr
theorem ras_L (W q : Int) (tl l : List Int) (v : Value) (hs : List Int) (w : World) (hr : Reads w v hs) (h : lkL W hs tl l q = 0) :
    Calls Try.prog 66 #[calV W v, .agg #[.int .i64 (tl.getD 0 0), .int .i64 (tl.getD 1 0), .int .i64 (tl.getD 2 0), .int .i64 (tl.getD 3 0)], .agg #[.int .i64 (l.getD 0 0), .int .i64 (l.getD 1 0), .int .i64 (l.getD 2 0), .int .i64 (l.getD 3 0), .int .i64 (l.getD 4 0), .int .i64 (l.getD 5 0), .int .i64 (l.getD 6 0), .int .i64 (l.getD 7 0), .int .i64 (l.getD 8 0), .int .i64 (l.getD 9 0)], .int .i64 q] w fun z w' => z = .returned (.int .i64 (stL W hs tl l q)) ∧ Kpt w w' := by
  have e : stL W hs tl l q = stgV (openV (l.getD 0 0) (l.getD 1 0) (l.getD 2 0) (l.getD 3 0) (l.getD 4 0) (l.getD 5 0) (l.getD 6 0) (l.getD 7 0) (l.getD 8 0) (l.getD 9 0)) (l.getD 5 0) (dayAt W hs (l.getD 5 0) (tl.getD 0 0) (tl.getD 1 0) (tl.getD 2 0) 1) (dayAt W hs (l.getD 5 0) (tl.getD 0 0) (tl.getD 1 0) (tl.getD 2 0) 2) (dayAt W hs (l.getD 5 0) (tl.getD 0 0) (tl.getD 1 0) (tl.getD 2 0) 3) q := if_pos h
  rw [e]
  exact ras_run W _ _ _ _ _ _ _ _ _ _ _ _ _ _ q v hs w hr h
theorem pdE_none {W : Int} {hs : List Int} {ts : List (List Int)} {q : Int} {fs : List (List Int)} {k : Nat} (hk : k < fs.length) (h0 : pdE W hs ts q (fs.take k) = 0) :
    (lkL W hs (tlOf ts (fs.getD k [])) (fs.getD k []) q = 0 → pdE W hs ts q (fs.take (k + 1)) = 0) ∧ (lkL W hs (tlOf ts (fs.getD k [])) (fs.getD k []) q ≠ 0 → pdE W hs ts q fs = lkL W hs (tlOf ts (fs.getD k [])) (fs.getD k []) q) := by
  have e : fs.getD k [] = fs[k] := by rw [List.getD_eq_getElem?_getD, List.getElem?_eq_getElem hk]; rfl
  constructor
  · intro h
    rw [List.take_succ_eq_append_getElem hk, pdE_app, orE_r h0, ← e, pd_0 h]; rfl
  · intro h
    have e2 : fs = fs.take k ++ (fs.getD k [] :: fs.drop (k + 1)) := by rw [e, ← List.drop_eq_getElem_cons hk, List.take_append_drop]
    have e3 : pdE W hs ts q (fs.take k ++ (fs.getD k [] :: fs.drop (k + 1))) = lkL W hs (tlOf ts (fs.getD k [])) (fs.getD k []) q := by rw [pdE_app, orE_r h0, pd_1 h]
    rw [← e2] at e3
    exact e3
theorem dueL_take {W : Int} {hs : List Int} {ts : List (List Int)} {ps : List Int} {q : Int} {fs : List (List Int)} {k : Nat} (hk : k < fs.length) (h : lkL W hs (tlOf ts (fs.getD k [])) (fs.getD k []) q = 0) :
    dueL W hs ts ps q (fs.take (k + 1)) = dueL W hs ts ps q (fs.take k) ++ (if 0 < csL W hs (tlOf ts (fs.getD k [])) (fs.getD k []) (prOf ps (fs.getD k [])) q then [((fs.getD k []).getD 1 0, (fs.getD k []).getD 2 0, csL W hs (tlOf ts (fs.getD k [])) (fs.getD k []) (prOf ps (fs.getD k [])) q)] else []) := by
  have e : fs.getD k [] = fs[k] := by rw [List.getD_eq_getElem?_getD, List.getElem?_eq_getElem hk]; rfl
  rw [List.take_succ_eq_append_getElem hk, dueL_app, ← e, dueL]
  split <;> rfl

set_option maxHeartbeats 4000000 in
theorem rpd_no (W q : Int) (v tv lv pv : Value) (hs : List Int) (ts fs : List (List Int)) (ps : List Int) (w : World) (hr : Reads w v hs) (ht : ReadsT w tv ts) (hl : ReadsF w lv fs) (hp : Reads w pv ps) (hE : preE W hs ts fs ps q ≠ 0) :
    Calls Try.prog 10 #[calV W v, tv, lv, pv, .int .i64 q] w (DayRes w (preE W hs ts fs ps q) []) := by
  obtain ⟨ah, ch, rfl, -⟩ := _root_.id hr
  have KA : Hid (Kpt w (w.alloc (.cells #[.int .i64 W, .slice ah hs.length ch] 24))) := (Kpt.refl w).alloc _
  have DE := Lib.hid (fun w' (k : Kpt w w') => rde_run W q _ tv lv pv hs ts fs ps w' (hr.kpt k) (ht.kpt k) (hl.kpt k) (hp.kpt k))
  have q1 : (preE W hs ts fs ps q != 0) = true := bne_iff_ne.2 hE
  unfold calV at *
  clear hE hr ht hl hp
  generalize preE W hs ts fs ps q = E at *
  go_enter Try.func10, Try.ntmps10
  go_wp2_with (first
    | (go_at_call 64; (with_reducible refine (DE.out _ KA.out).mono ?_); rintro e w1 ⟨rfl, k1⟩; have K1 := Lib.hid (ktr KA.out k1); clear k1)
    | fail)
  go_ret2
  exact dayRes_nil rfl rfl K1.out

set_option maxRecDepth 100000 in
set_option maxHeartbeats 16000000 in
theorem rpd_ok (W q : Int) (ah at1 al ap : Option Addr) (nh ch nt ct nf cf np cp : Nat) (hs : List Int) (ts fs : List (List Int)) (ps : List Int) (w : World) (hr : Reads w (.slice ah nh ch) hs) (ht : ReadsT w (.slice at1 nt ct) ts) (hl : ReadsF w (.slice al nf cf) fs) (hp : Reads w (.slice ap np cp) ps) (hnf : nf = fs.length) (hE : preE W hs ts fs ps q = 0) :
    Calls Try.prog 10 #[calV W (.slice ah nh ch), .slice at1 nt ct, .slice al nf cf, .slice ap np cp, .int .i64 q] w (DayRes w (pdE W hs ts q fs) (ifD (pdE W hs ts q fs) (dueL W hs ts ps q fs))) := by
  obtain ⟨he1, he⟩ := orE_0 hE
  obtain ⟨he2, he⟩ := orE_0 he
  obtain ⟨he3, he⟩ := orE_0 he
  obtain ⟨he4, he5⟩ := orE_0 he
  have h6 := clsE_0 he2
  have htm : ∀ k, k < 6 → tmEL (ts.getD k []) = 0 := fun k hk => by
    have : tmsE ts = 0 := by unfold clsE at he2; rwa [if_pos h6] at he2
    rw [List.getD_eq_getElem?_getD, List.getElem?_eq_getElem (by omega)]
    exact tms_0 this _ (List.getElem_mem _)
  obtain ⟨h60, hfl⟩ := checksE_0 he3
  obtain ⟨h20, hpr⟩ := prsE_0 he4
  have DE := Lib.hid (fun w' (k : Kpt w w') => rde_run W q _ _ _ _ hs ts fs ps w' (hr.kpt k) (ht.kpt k) (hl.kpt k) (hp.kpt k))
  rw [hE] at DE
  have HR := Lib.hid hr
  obtain ⟨wA, hwA⟩ : ∃ x, x = w.alloc (.cells #[.int .i64 W, .slice ah nh ch] 24) := ⟨_, rfl⟩
  have KA : Hid (Kpt w wA) := by rw [hwA]; exact (Kpt.refl w).alloc _
  have BC : Hid (Blk wA w.heap.size #[.int .i64 W, .slice ah nh ch] 24) := by rw [hwA]; exact Blk.made _ _ _
  have HT : Hid (∀ k, k < 6 → ∃ g off, at1 = some ⟨g, off, none⟩ ∧ ∀ j, j < 4 → w.cell? ⟨g, off + k * 4 + j, none⟩ = some (.int .i64 ((ts.getD k []).getD j 0))) := by
    obtain ⟨a, cap, e, hm, hc⟩ := ht
    injection e with e1 e2 e3
    subst e1
    exact fun k hk => hc k (by omega)
  have HNT : nt = 6 := by obtain ⟨a, cap, e, hm, hc⟩ := ht; injection e with e1 e2 e3; omega
  have HF : Hid (∀ k, k < nf → ∃ g off, al = some ⟨g, off, none⟩ ∧ FlAt w g (off + k * 10) (fs.getD k [])) := by
    obtain ⟨a, cap, e, hm, hb, hc⟩ := hl
    injection e with e1 e2 e3
    subst e1
    exact fun k hk => hc k (by omega)
  have hmx : nf ≤ maxLen := by obtain ⟨a, cap, e, hm, -⟩ := hl; rw [hnf]; exact hm
  obtain ⟨pb, po, rfl, HNP, hpc⟩ : ∃ b off, ap = some ⟨b, off, none⟩ ∧ np = 20 ∧ ∀ j, j < 20 → w.cell? ⟨b, off + j, none⟩ = some (.int .i64 (ps.getD j 0)) := by
    rcases hp.cell with ⟨e, _⟩ | ⟨_, b', off', cap', e, hc⟩
    · rw [e] at h20; simp at h20
    · injection e with e1 e2 e3
      exact ⟨_, _, e1, by rw [e2, h20], fun j hj => hc j (by rw [h20]; exact hj)⟩
  have HPC := Lib.hid hpc
  have HPR : Hid (∀ k, k < 20 → prcB (ps.getD k 0) = true) := fun k hk => by
    rw [List.getD_eq_getElem?_getD, List.getElem?_eq_getElem (by omega)]; exact hpr _ (List.getElem_mem _)
  have HTM := Lib.hid htm
  have HFL : Hid (∀ k, k < nf → failEL (fs.getD k []) = 0) := fun k hk => by rw [List.getD_eq_getElem?_getD, List.getElem?_eq_getElem (by omega)]; exact hfl _ (List.getElem_mem _)
  have PN := Lib.hid (fun k (hk : k < nf) h0 => pdE_none (W := W) (hs := hs) (ts := ts) (q := q) (fs := fs) (k := k) (by omega) h0)
  have DT := Lib.hid (fun k (hk : k < nf) h => dueL_take (W := W) (hs := hs) (ts := ts) (ps := ps) (q := q) (fs := fs) (k := k) (by omega) h)
  have D0 : Hid (dueL W hs ts ps q (fs.take 0) = []) := rfl
  have P0 : Hid (pdE W hs ts q (fs.take 0) = 0) := rfl
  have DLN : Hid (∀ k, k ≤ nf → (dueL W hs ts ps q (fs.take k)).length ≤ 60) := fun k hk => by have := dueL_len (W := W) (hs := hs) (ts := ts) (ps := ps) (q := q) (fs.take k); rw [List.length_take] at this; omega
  have DN : Hid (dueL W hs ts ps q (fs.take nf) = dueL W hs ts ps q fs) := by unfold Hid; rw [List.take_of_length_le (by omega)]
  have PNN : Hid (pdE W hs ts q (fs.take nf) = pdE W hs ts q fs) := by unfold Hid; rw [List.take_of_length_le (by omega)]
  obtain ⟨dl, hdl⟩ : ∃ f : Nat → List (Int × Int × Int), ∀ k, dueL W hs ts ps q (fs.take k) = f k := ⟨_, fun _ => rfl⟩
  obtain ⟨pe, hpe⟩ : ∃ f : Nat → Int, ∀ k, pdE W hs ts q (fs.take k) = f k := ⟨_, fun _ => rfl⟩
  replace D0 : Hid (dl 0 = []) := by unfold Hid; rw [← hdl]; exact D0.out
  replace P0 : Hid (pe 0 = 0) := by unfold Hid; rw [← hpe]; exact P0.out
  replace DLN : Hid (∀ k, k ≤ nf → (dl k).length ≤ 60) := fun k hk => by rw [← hdl]; exact DLN.out k hk
  replace DN : Hid (dl nf = dueL W hs ts ps q fs) := by unfold Hid; rw [← hdl]; exact DN.out
  replace PNN : Hid (pe nf = pdE W hs ts q fs) := by unfold Hid; rw [← hpe]; exact PNN.out
  have PNk : Hid (∀ k, k < nf → pe k = 0 → (lkL W hs (tlOf ts (fs.getD k [])) (fs.getD k []) q = 0 → pe (k + 1) = 0) ∧ (lkL W hs (tlOf ts (fs.getD k [])) (fs.getD k []) q ≠ 0 → pdE W hs ts q fs = lkL W hs (tlOf ts (fs.getD k [])) (fs.getD k []) q)) := fun k hk h0 => by
    have := PN.out k hk (by rw [hpe]; exact h0)
    rw [hpe] at this
    exact this
  have DTk : Hid (∀ k, k < nf → lkL W hs (tlOf ts (fs.getD k [])) (fs.getD k []) q = 0 → dl (k + 1) = dl k ++ (if 0 < csL W hs (tlOf ts (fs.getD k [])) (fs.getD k []) (prOf ps (fs.getD k [])) q then [((fs.getD k []).getD 1 0, (fs.getD k []).getD 2 0, csL W hs (tlOf ts (fs.getD k [])) (fs.getD k []) (prOf ps (fs.getD k [])) q)] else [])) := fun k hk h => by
    have := DT.out k hk h
    rw [hdl, hdl] at this
    exact this
  have hn60 : nf ≤ 60 := by omega
  subst HNT; subst HNP
  clear ht hl hp he he1 he2 he3 he4 he5 hE htm hfl h20 hpr hpc PN DT hdl hpe hnf h60 hr
  obtain ⟨PX, hPX⟩ : ∃ x, pdE W hs ts q fs = x := ⟨_, rfl⟩
  obtain ⟨DX, hDX⟩ : ∃ x, dueL W hs ts ps q fs = x := ⟨_, rfl⟩
  rw [hPX] at PNN
  rw [hDX] at DN
  rw [hPX, hDX]
  simp only [hPX] at PNk
  clear hPX hDX
  have FIN0 : Hid (∀ w' M dv, PX = 0 → OwnsT 80 w' M dv DX → w.heap.size ≤ M → Kpt w w' → DayRes w PX (ifD PX DX) (.returned (.tuple #[dv, .int .i64 0])) w') := fun w' M dv h1 h2 h3 h4 => dayRes_ok h1 (by unfold ifD; rw [if_pos h1]) h2 h3 h4
  have FIN1 : Hid (∀ w' E, PX = E → E ≠ 0 → Kpt w w' → DayRes w PX (ifD PX DX) (.returned (.tuple #[.slice none 0 0, .int .i64 E])) w') := fun w' E h1 h2 h3 => dayRes_nil h1.symm (by unfold ifD; rw [if_neg (by rw [h1]; exact h2)]) h3
  unfold calV at *
  go_enter Try.func10, Try.ntmps10
  go_upto_region 1 with (first | fail)
  rw [← hwA]
  have b0 : World.cell? wA ⟨w.heap.size, 0, none⟩ = some (.int .i64 W) := BC.out.cell 0
  have b1 : World.cell? wA ⟨w.heap.size, 1, none⟩ = some (.slice ah nh ch) := BC.out.cell 1
  clear hwA
  have mixed : Try.prog.follows .mixedOrders = true := by kernel_rfl
  go_wp2_with (first
    | (go_at_call 64; (with_reducible refine (DE.out _ KA.out).mono ?_); rintro e w1 ⟨rfl, k1⟩; have V1 : Hid (Kpt wA w1) := k1; have K1 := Lib.hid (ktr KA.out k1); clear k1 b0 b1)
    | fail)
  go_loopw [13, 14] (fun m i wr => ∃ k : Nat, k ≤ nf ∧ i = .int .i64 k ∧ Hid (pe k = 0) ∧ Hid (OwnsT 80 wr wA.heap.size m (dl k)) ∧ Hid (Kpt wA wr) ∧ Hid (Kpt w wr)) (fun _ i _ => nf - (intOf i).toNat)
  case atStart => exact ⟨0, Nat.zero_le _, rfl, P0.out, by unfold Hid; rw [D0.out]; exact OwnsT.nil _ _ _, V1.out, K1.out⟩
  case round =>
    obtain ⟨k, hk, rfl, HPE, HO, HV, HK⟩ := hrel
    by_cases hlt : k < nf
    · obtain ⟨g, off, rfl, hfa⟩ := HF.out k hlt
      have FL := HFL.out k hlt
      have PNn := PNk.out k hlt HPE.out
      have DTn := DTk.out k hlt
      have hln := DLN.out k hk
      generalize fs.getD k [] = l at *
      have fe := fl_cls FL
      obtain ⟨gt, ot, rfl, htc⟩ := HT.out (l.getD 3 0).toNat (by omega)
      have tm0 := term_0 (HTM.out (l.getD 3 0).toNat (by omega))
      have T0 : Hid (w.cell? ⟨gt, ot + (l.getD 3 0).toNat * 4, none⟩ = some (.int .i64 ((tlOf ts l).getD 0 0))) := htc 0 (by omega)
      have T1 : Hid (w.cell? ⟨gt, ot + (l.getD 3 0).toNat * 4 + 1, none⟩ = some (.int .i64 ((tlOf ts l).getD 1 0))) := htc 1 (by omega)
      have T2 : Hid (w.cell? ⟨gt, ot + (l.getD 3 0).toNat * 4 + 2, none⟩ = some (.int .i64 ((tlOf ts l).getD 2 0))) := htc 2 (by omega)
      have T3 : Hid (w.cell? ⟨gt, ot + (l.getD 3 0).toNat * 4 + 3, none⟩ = some (.int .i64 ((tlOf ts l).getD 3 0))) := htc 3 (by omega)
      have G0 : Hid (w.cell? ⟨g, off + k * 10, none⟩ = some (.int .i64 (l.getD 0 0))) := hfa 0 (by decide)
      have G1 : Hid (w.cell? ⟨g, off + k * 10 + 1, none⟩ = some (.int .i64 (l.getD 1 0))) := hfa 1 (by decide)
      have G2 : Hid (w.cell? ⟨g, off + k * 10 + 2, none⟩ = some (.int .i64 (l.getD 2 0))) := hfa 2 (by decide)
      have G3 : Hid (w.cell? ⟨g, off + k * 10 + 3, none⟩ = some (.int .i64 (l.getD 3 0))) := hfa 3 (by decide)
      have G4 : Hid (w.cell? ⟨g, off + k * 10 + 4, none⟩ = some (.int .i64 (l.getD 4 0))) := hfa 4 (by decide)
      have G5 : Hid (w.cell? ⟨g, off + k * 10 + 5, none⟩ = some (.int .i64 (l.getD 5 0))) := hfa 5 (by decide)
      have G6 : Hid (w.cell? ⟨g, off + k * 10 + 6, none⟩ = some (.int .i64 (l.getD 6 0))) := hfa 6 (by decide)
      have G7 : Hid (w.cell? ⟨g, off + k * 10 + 7, none⟩ = some (.int .i64 (l.getD 7 0))) := hfa 7 (by decide)
      have G8 : Hid (w.cell? ⟨g, off + k * 10 + 8, none⟩ = some (.int .i64 (l.getD 8 0))) := hfa 8 (by decide)
      have G9 : Hid (w.cell? ⟨g, off + k * 10 + 9, none⟩ = some (.int .i64 (l.getD 9 0))) := hfa 9 (by decide)
      have hpx := HPR.out (l.getD 4 0 - 1).toNat (by omega)
      have PC : Hid (w.cell? ⟨pb, po + (l.getD 4 0 - 1).toNat, none⟩ = some (.int .i64 (prOf ps l))) := HPC.out (l.getD 4 0 - 1).toNat (by omega)
      have PC2 : Hid (w.cell? ⟨pb, po + ((l.getD 4 0).toNat - 1), none⟩ = some (.int .i64 (prOf ps l))) := by
        have e9 : (l.getD 4 0).toNat - 1 = (l.getD 4 0 - 1).toNat := by omega
        unfold Hid; rw [e9]; exact PC.out
      have hpb : prcB (prOf ps l) = true := hpx
      have fb := fail_bd (show failE (l.getD 0 0) (l.getD 1 0) (l.getD 2 0) (l.getD 3 0) (l.getD 4 0) (l.getD 5 0) (l.getD 6 0) (l.getD 7 0) (l.getD 8 0) (l.getD 9 0) = 0 from FL)
      have ho := op_bd FL
      have hop : opL l = l.getD 6 0 - l.getD 7 0 - l.getD 8 0 - l.getD 9 0 := by unfold opL openV; rw [if_pos (show failE _ _ _ _ _ _ _ _ _ _ = 0 from FL)]
      have FO := Lib.hid (fun w' => rfo_run (l.getD 0 0) (l.getD 1 0) (l.getD 2 0) (l.getD 3 0) (l.getD 4 0) (l.getD 5 0) (l.getD 6 0) (l.getD 7 0) (l.getD 8 0) (l.getD 9 0) w' (by omega) (by omega) (by omega) (by omega))
      rw [← hop] at FO
      have rtb : 0 ≤ (tlOf ts l).getD 3 0 ∧ (tlOf ts l).getD 3 0 ≤ 1000000 := tm0.2.2.2
      have PDL := Lib.hid (fun w => rdl_any (opL l) (prOf ps l) ((tlOf ts l).getD 3 0) w)
      have dlb : dlyB (opL l) (prOf ps l) ((tlOf ts l).getD 3 0) = true := dly_mk ho rtb (prc_t hpb)
      rw [show dlyE (opL l) (prOf ps l) ((tlOf ts l).getD 3 0) = 0 from if_pos dlb] at PDL
      have AE := Lib.hid (fun w' (kk : Kpt w w') => rae_L W q (tlOf ts l) l _ hs w' (HR.out.kpt kk))
      have AS := Lib.hid (fun (h : lkL W hs (tlOf ts l) l q = 0) w' (kk : Kpt w w') => ras_L W q (tlOf ts l) l _ hs w' (HR.out.kpt kk) h)
      have sb := stL_bd W hs (tlOf ts l) l q
      have cs0 : (stL W hs (tlOf ts l) l q = 0 ∨ stL W hs (tlOf ts l) l q = 5) → csL W hs (tlOf ts l) l (prOf ps l) q = 0 := fun h => if_pos h
      have cs1 : ¬ (stL W hs (tlOf ts l) l q = 0 ∨ stL W hs (tlOf ts l) l q = 5) → csL W hs (tlOf ts l) l (prOf ps l) q = dlyQ (opL l) (prOf ps l) ((tlOf ts l).getD 3 0) := fun h => if_neg h
      unfold calV at AE AS
      have e3 := fe.1
      have e4 := fe.2
      clear hfa htc FL fe tm0 hpx hpb fb ho hop rtb dlb
      generalize csL W hs (tlOf ts l) l (prOf ps l) q = cs at *
      generalize stL W hs (tlOf ts l) l q = st at *
      generalize lkL W hs (tlOf ts l) l q = lk at *
      generalize dlyQ (opL l) (prOf ps l) ((tlOf ts l).getD 3 0) = dq at *
      generalize prOf ps l = pr at *
      generalize opL l = o at *
      generalize (tlOf ts l).getD 0 0 = te at *
      generalize (tlOf ts l).getD 1 0 = tb at *
      generalize (tlOf ts l).getD 2 0 = td at *
      generalize (tlOf ts l).getD 3 0 = tr at *
      generalize l.getD 0 0 = z0 at *
      generalize l.getD 1 0 = z1 at *
      generalize l.getD 2 0 = z2 at *
      generalize l.getD 3 0 = z3 at *
      generalize l.getD 4 0 = z4 at *
      generalize l.getD 5 0 = z5 at *
      generalize l.getD 6 0 = z6 at *
      generalize l.getD 7 0 = z7 at *
      generalize l.getD 8 0 = z8 at *
      generalize l.getD 9 0 = z9 at *
      have i0 : (0 : Int) ≤ (k : Int) := by omega
      have i1 : (k : Int) < (nf : Int) := by omega
      have j0 : 0 ≤ z3 := e3.1
      have j1 : z3 < 6 := by omega
      have n3 : 0 ≤ z4 - 1 := by omega
      have n4 : z4 - 1 < 20 := by omega
      have n7 : IntKind.i64.wrap (z4 - 1) = z4 - 1 := IntWalk.i64_in _ (by omega)
      clear e3 e4
      have AEq : Hid (∀ p : KptTo wr, Calls Try.prog 65 #[.agg #[.int .i64 W, .slice ah nh ch], .agg #[.int .i64 te, .int .i64 tb, .int .i64 td, .int .i64 tr], .agg #[.int .i64 z0, .int .i64 z1, .int .i64 z2, .int .i64 z3, .int .i64 z4, .int .i64 z5, .int .i64 z6, .int .i64 z7, .int .i64 z8, .int .i64 z9], .int .i64 q] p.w fun z w'' => z = .returned (.int .i64 lk) ∧ Kpt p.w w'') := fun p => AE.out _ (ktr HK.out p.h)
      go_upto_region 8 with (first | fail)
      have KQ : Hid (Kpt w wr) := HK
      have KV : Hid (Kpt wA wr) := HV
      have s0 := cell_k (q := wr) (KQ.out.cell G0.out)
      have s1 := cell_k (q := wr) (KQ.out.cell G1.out)
      have s2 := cell_k (q := wr) (KQ.out.cell G2.out)
      have s3 := cell_k (q := wr) (KQ.out.cell G3.out)
      have s4 := cell_k (q := wr) (KQ.out.cell G4.out)
      have s5 := cell_k (q := wr) (KQ.out.cell G5.out)
      have s6 := cell_k (q := wr) (KQ.out.cell G6.out)
      have s7 := cell_k (q := wr) (KQ.out.cell G7.out)
      have s8 := cell_k (q := wr) (KQ.out.cell G8.out)
      have s9 := cell_k (q := wr) (KQ.out.cell G9.out)
      have r0 := cell_k (q := wr) (KQ.out.cell T0.out)
      have r1 := cell_k (q := wr) (KQ.out.cell T1.out)
      have r2 := cell_k (q := wr) (KQ.out.cell T2.out)
      have r3 := cell_k (q := wr) (KQ.out.cell T3.out)
      have b0 := cell_k (q := wr) (a := ⟨w.heap.size, 0, none⟩) (v := .int .i64 W) ((BC.out.kpt KV.out).cell 0)
      have b1 := cell_k (q := wr) (a := ⟨w.heap.size, 1, none⟩) (v := .slice ah nh ch) ((BC.out.kpt KV.out).cell 1)
      have pc := cell_k (q := wr) (KQ.out.cell PC.out)
      have pc2 := cell_k (q := wr) (KQ.out.cell PC2.out)
      refine quiet_k (q := wr) mixed (by kernel_rfl) ?_
      repeat (go_big_quiet_step (first | (go_at_call 65; with_reducible refine calls_k (AEq.out _)) | fail))
      refine wpQuiet_nil ?_
      intro w3 hw1
      obtain ⟨⟨wz, kz⟩, hw2⟩ := hw1
      have hw3 : w3 = wz := hw2
      clear hw2
      subst hw3
      have Kw3 : Hid (Kpt w w3) := ktr KQ.out kz
      have Vw3 : Hid (Kpt wA w3) := ktr KV.out kz
      have Rw3 : Hid (Kpt wr w3) := kz
      clear s0 s1 s2 s3 s4 s5 s6 s7 s8 s9 r0 r1 r2 r3 b0 b1 pc pc2 kz KQ KV
      by_cases hlk : lk = 0
      · have q1 : (lk != 0) = false := by simpa using hlk
        have HPE1 := Lib.hid (PNn.1 hlk)
        have DT1 := DTn hlk
        have ASq : Hid (∀ p : KptTo w3, Calls Try.prog 66 #[.agg #[.int .i64 W, .slice ah nh ch], .agg #[.int .i64 te, .int .i64 tb, .int .i64 td, .int .i64 tr], .agg #[.int .i64 z0, .int .i64 z1, .int .i64 z2, .int .i64 z3, .int .i64 z4, .int .i64 z5, .int .i64 z6, .int .i64 z7, .int .i64 z8, .int .i64 z9], .int .i64 q] p.w fun z w'' => z = .returned (.int .i64 st) ∧ Kpt p.w w'') := fun p => AS.out hlk _ (ktr Kw3.out p.h)
        clear hlk PNn DTn
        go_upto_region 11 with (first | fail)
        have KQ : Hid (Kpt w w3) := Kw3
        have KV : Hid (Kpt wA w3) := Vw3
        have s0 := cell_k (q := w3) (KQ.out.cell G0.out)
        have s1 := cell_k (q := w3) (KQ.out.cell G1.out)
        have s2 := cell_k (q := w3) (KQ.out.cell G2.out)
        have s3 := cell_k (q := w3) (KQ.out.cell G3.out)
        have s4 := cell_k (q := w3) (KQ.out.cell G4.out)
        have s5 := cell_k (q := w3) (KQ.out.cell G5.out)
        have s6 := cell_k (q := w3) (KQ.out.cell G6.out)
        have s7 := cell_k (q := w3) (KQ.out.cell G7.out)
        have s8 := cell_k (q := w3) (KQ.out.cell G8.out)
        have s9 := cell_k (q := w3) (KQ.out.cell G9.out)
        have r0 := cell_k (q := w3) (KQ.out.cell T0.out)
        have r1 := cell_k (q := w3) (KQ.out.cell T1.out)
        have r2 := cell_k (q := w3) (KQ.out.cell T2.out)
        have r3 := cell_k (q := w3) (KQ.out.cell T3.out)
        have b0 := cell_k (q := w3) (a := ⟨w.heap.size, 0, none⟩) (v := .int .i64 W) ((BC.out.kpt KV.out).cell 0)
        have b1 := cell_k (q := w3) (a := ⟨w.heap.size, 1, none⟩) (v := .slice ah nh ch) ((BC.out.kpt KV.out).cell 1)
        have pc := cell_k (q := w3) (KQ.out.cell PC.out)
        have pc2 := cell_k (q := w3) (KQ.out.cell PC2.out)
        refine quiet_k (q := w3) mixed (by kernel_rfl) ?_
        repeat (go_big_quiet_step (first | (go_at_call 66; with_reducible refine calls_k (ASq.out _)) | fail))
        refine wpQuiet_nil ?_
        intro w4 hw1
        obtain ⟨⟨wz, kz⟩, hw2⟩ := hw1
        have hw3 : w4 = wz := hw2
        clear hw2
        subst hw3
        have Kw4 : Hid (Kpt w w4) := ktr KQ.out kz
        have Vw4 : Hid (Kpt wA w4) := ktr KV.out kz
        have Rw4 : Hid (Kpt wr w4) := ktr Rw3.out kz
        clear s0 s1 s2 s3 s4 s5 s6 s7 s8 s9 r0 r1 r2 r3 b0 b1 pc pc2 kz KQ KV
        by_cases hst : st = 0 ∨ st = 5
        · have B1 := Lib.hid (fun w => rbt_any st 1 4 false (by unfold btw; exact decide_eq_false (by omega)) w)
          rw [cs0 hst, if_neg (by decide), List.append_nil] at DT1
          have DT2 := Lib.hid DT1
          clear hst DT1 cs0 cs1
          have OW : Hid (OwnsT 80 w4 wA.heap.size u13 (dl k)) := dt_kpt HO.out Rw4.out
          go_wp2_with (first
            | (go_at_call 61; (with_reducible refine (B1.out _).mono ?_); rintro e w9 ⟨rfl, rfl⟩)
            | fail)
          go_roundw
          case rel => exact ⟨k + 1, by omega, by go_num, HPE1.out, by unfold Hid; rw [DT2.out]; exact OW.out, Vw4.out, Kw4.out⟩
          case measure => simp [intOf]; omega
        · have B1 := Lib.hid (fun w => rbt_any st 1 4 true (by unfold btw; exact decide_eq_true (by omega)) w)
          rw [cs1 hst] at DT1
          clear hst cs0 cs1
          go_upto_region 13 with (first
            | (go_at_call 61; (with_reducible refine (B1.out _).mono ?_); rintro e w9 ⟨rfl, rfl⟩)
            | fail)
          have KQ : Hid (Kpt w w4) := Kw4
          have KV : Hid (Kpt wA w4) := Vw4
          have s0 := cell_k (q := w4) (KQ.out.cell G0.out)
          have s1 := cell_k (q := w4) (KQ.out.cell G1.out)
          have s2 := cell_k (q := w4) (KQ.out.cell G2.out)
          have s3 := cell_k (q := w4) (KQ.out.cell G3.out)
          have s4 := cell_k (q := w4) (KQ.out.cell G4.out)
          have s5 := cell_k (q := w4) (KQ.out.cell G5.out)
          have s6 := cell_k (q := w4) (KQ.out.cell G6.out)
          have s7 := cell_k (q := w4) (KQ.out.cell G7.out)
          have s8 := cell_k (q := w4) (KQ.out.cell G8.out)
          have s9 := cell_k (q := w4) (KQ.out.cell G9.out)
          have r0 := cell_k (q := w4) (KQ.out.cell T0.out)
          have r1 := cell_k (q := w4) (KQ.out.cell T1.out)
          have r2 := cell_k (q := w4) (KQ.out.cell T2.out)
          have r3 := cell_k (q := w4) (KQ.out.cell T3.out)
          have b0 := cell_k (q := w4) (a := ⟨w.heap.size, 0, none⟩) (v := .int .i64 W) ((BC.out.kpt KV.out).cell 0)
          have b1 := cell_k (q := w4) (a := ⟨w.heap.size, 1, none⟩) (v := .slice ah nh ch) ((BC.out.kpt KV.out).cell 1)
          have pc := cell_k (q := w4) (KQ.out.cell PC.out)
          have pc2 := cell_k (q := w4) (KQ.out.cell PC2.out)
          refine quiet_k (q := w4) mixed (by kernel_rfl) ?_
          repeat (go_big_quiet_step (first | (go_at_call 67; with_reducible refine calls_k (FO.out _)) | (go_at_call 9; with_reducible refine calls_same (PDL.out _)) | fail))
          refine wpQuiet_nil ?_
          intro w5 hw1
          obtain ⟨⟨wz, kz⟩, hw2⟩ := hw1
          have hw3 : w5 = wz := hw2
          clear hw2
          subst hw3
          have Kw5 : Hid (Kpt w w5) := ktr KQ.out kz
          have Vw5 : Hid (Kpt wA w5) := ktr KV.out kz
          have Rw5 : Hid (Kpt wr w5) := ktr Rw4.out kz
          clear s0 s1 s2 s3 s4 s5 s6 s7 s8 s9 r0 r1 r2 r3 b0 b1 pc pc2 kz KQ KV
          have OW : Hid (OwnsT 80 w5 wA.heap.size u13 (dl k)) := dt_kpt HO.out Rw5.out
          by_cases hd : 0 < dq
          · rw [if_pos hd] at DT1
            have DT2 := Lib.hid DT1
            have q2 : decide (0 < dq) = true := decide_eq_true hd
            clear hd DT1
            have c1 : w5.cell? ⟨g, off + k * 10 + 1, none⟩ = some (.int .i64 z1) := Kw5.out.cell G1.out
            have c2 : w5.cell? ⟨g, off + k * 10 + 2, none⟩ = some (.int .i64 z2) := Kw5.out.cell G2.out
            have OWd : Hid (OwnsT 80 (w5.alloc (.cells #[.int .i64 z1, .int .i64 z2, .int .i64 dq] 80)).drew wA.heap.size u13 (dl k)) := dt_kpt OW.out (show Kpt w5 (w5.alloc (.cells #[.int .i64 z1, .int .i64 z2, .int .i64 dq] 80)).drew from Below.drew (Kpt.alloc (Kpt.refl w5) _))
            have F2 : Hid (Kpt w (w5.alloc (.cells #[.int .i64 z1, .int .i64 z2, .int .i64 dq] 80)).drew) := Below.drew (Kpt.alloc Kw5.out _)
            have V2 : Hid (Kpt wA (w5.alloc (.cells #[.int .i64 z1, .int .i64 z2, .int .i64 dq] 80)).drew) := Below.drew (Kpt.alloc Vw5.out _)
            have e1 : (w5.alloc (.cells #[.int .i64 z1, .int .i64 z2, .int .i64 dq] 80)).drew.cell? ⟨g, off + k * 10 + 1, none⟩ = some (.int .i64 z1) := F2.out.cell G1.out
            have e2 : (w5.alloc (.cells #[.int .i64 z1, .int .i64 z2, .int .i64 dq] 80)).drew.cell? ⟨g, off + k * 10 + 2, none⟩ = some (.int .i64 z2) := F2.out.cell G2.out
            have SZ := KA.out.size
            go_upto_region 17 with (first | fail)
            go_region_held3 (fun w' => w'.cell? ⟨g, off + k * 10 + 1, none⟩ = some (.int .i64 z1) ∧ w'.cell? ⟨g, off + k * 10 + 2, none⟩ = some (.int .i64 z2))
              (first
                | go_keep
                | exact ⟨f0, f1⟩
                | exact ⟨e1, e2⟩)
              (first
                | (refine step_appendD (by rfl) _ _ (by rfl) wA.heap.size _ (dl k) z1 z2 dq (by rfl) OWd.out w5.heap.size (by rfl) (show Blk (w5.alloc (.cells #[.int .i64 z1, .int .i64 z2, .int .i64 dq] 80)).drew w5.heap.size #[.int .i64 z1, .int .i64 z2, .int .i64 dq] 80 from Blk.made w5 _ _) (by omega) V2.out.size ?_; intro gg nn cap9 w' hnn h1 h2; have HO' : Hid (OwnsT 80 w' wA.heap.size (.slice (some ⟨gg, 0, none⟩) nn cap9) (dl (k + 1))) := (by unfold Hid; rw [DT2.out]; exact h1); have HV' : Hid (Kpt wA w') := Below.trans V2.out h2; have HK' : Hid (Kpt w w') := ktr KA.out HV'.out; have f0 := HK'.out.cell G1.out; have f1 := HK'.out.cell G2.out; clear h1 h2 hnn)
                | fail)
            refine ‹∀ (a : Act) (w_1 : World), Code.wp _ _ _ a w_1 → _› _ _ ?_
            go_wp2
            go_roundw
            case rel => exact ⟨k + 1, by omega, by go_num, HPE1.out, HO'.out, HV'.out, HK'.out⟩
            case measure => simp [intOf]; omega
          · rw [if_neg hd, List.append_nil] at DT1
            have DT2 := Lib.hid DT1
            have q2 : decide (0 < dq) = false := decide_eq_false hd
            clear hd DT1
            go_wp2
            go_roundw
            case rel => exact ⟨k + 1, by omega, by go_num, HPE1.out, by unfold Hid; rw [DT2.out]; exact OW.out, Vw5.out, Kw5.out⟩
            case measure => simp [intOf]; omega
      · have q1 : (lk != 0) = true := bne_iff_ne.2 hlk
        have HX := Lib.hid (PNn.2 hlk)
        have HX0 := Lib.hid hlk
        clear hlk PNn DTn cs0 cs1
        go_wp2
        go_ret2
        exact FIN1.out _ _ HX.out HX0.out Kw3.out
    · obtain rfl : k = nf := by omega
      have HP0 : Hid (PX = 0) := PNN.out.symm.trans HPE.out
      rw [DN.out] at HO
      go_wp2
      go_ret2
      exact FIN0.out _ _ _ HP0.out HO.out KA.out.size HK.out
theorem rpd_any (W q : Int) (v tv lv pv : Value) (hs : List Int) (ts fs : List (List Int)) (ps : List Int) (w : World) (hr : Reads w v hs) (ht : ReadsT w tv ts) (hl : ReadsF w lv fs) (hp : Reads w pv ps) :
    Calls Try.prog 10 #[calV W v, tv, lv, pv, .int .i64 q] w (DayRes w (dayE W hs ts fs ps q) (dayD W hs ts fs ps q)) := by
  by_cases hE : preE W hs ts fs ps q = 0
  · obtain ⟨e1, e2⟩ := day_B hE
    rw [e1, e2]
    obtain ⟨ah, ch, rfl, -⟩ := _root_.id hr
    obtain ⟨at1, ct, rfl, -⟩ := _root_.id ht
    obtain ⟨al, cl, rfl, -⟩ := _root_.id hl
    obtain ⟨ap, cp, rfl, -⟩ := _root_.id hp
    exact rpd_ok W q ah at1 al ap _ ch _ ct _ cl _ cp hs ts fs ps w hr ht hl hp rfl hE
  · obtain ⟨e1, e2⟩ := day_A hE
    rw [e1, e2]
    exact rpd_no W q v tv lv pv hs ts fs ps w hr ht hl hp hE

end Go.Proofs.Ytgccipmeiceonaa
