/-
  Merged: CycG, CycH, CycI.
-/
import Derived.Test.YthaahebggboliaaGreatMce
-- CycG
namespace Go.Proofs.YthaahebggboliaaGreat
open Go.RowKit Go.Sort Go.Lib
set_option linter.unusedVariables false

/-- all blocks that hold no clerk, no postings and no fails stand -/
def KpY (w w' : World) : Prop := ∀ k cs e, Blk w k cs e → e ≠ 75 → e ≠ 55 → e ≠ 42 → Blk w' k cs e
theorem KpY.trans {a b c : World} (h : KpY a b) (k : KpY b c) : KpY a c := fun i cs e hb h1 h2 h3 => k i cs e (h i cs e hb h1 h2 h3) h1 h2 h3
theorem Kpt.y {w w' : World} (h : Kpt w w') : KpY w w' := fun k cs e hb _ _ _ => hb.kpt h
theorem KpX.y {w w' : World} (h : KpX w w') : KpY w w' := fun k cs e hb h1 h2 _ => h.2 k cs e hb h1 h2
def CmRes (w : World) (base g : Nat) (E T : Int) (fv : Value) (fs : List (List Int)) (b p : List (Int × Int × Int)) (e : Ending) (w' : World) : Prop :=
  e = .returned (.int .i64 E) ∧ (E = 0 → ∃ bv' pv', ClerkIs w' base g T fv bv' pv' fs b p) ∧ Below base w w' ∧ KpY w w'
theorem fl_at {w : World} {g o : Nat} {l : List Int} (h : ∀ j, j < 10 → w.cell? ⟨g, o + j, none⟩ = some (.int .i64 (l.getD j 0))) : w.cell? ⟨g, o, none⟩ = some (.int .i64 (l.getD 0 0)) ∧ w.cell? ⟨g, o + 1, none⟩ = some (.int .i64 (l.getD 1 0)) ∧ w.cell? ⟨g, o + 2, none⟩ = some (.int .i64 (l.getD 2 0)) ∧ w.cell? ⟨g, o + 3, none⟩ = some (.int .i64 (l.getD 3 0)) ∧ w.cell? ⟨g, o + 4, none⟩ = some (.int .i64 (l.getD 4 0)) ∧ w.cell? ⟨g, o + 5, none⟩ = some (.int .i64 (l.getD 5 0)) ∧ w.cell? ⟨g, o + 6, none⟩ = some (.int .i64 (l.getD 6 0)) ∧ w.cell? ⟨g, o + 7, none⟩ = some (.int .i64 (l.getD 7 0)) ∧ w.cell? ⟨g, o + 8, none⟩ = some (.int .i64 (l.getD 8 0)) ∧ w.cell? ⟨g, o + 9, none⟩ = some (.int .i64 (l.getD 9 0)) :=
  ⟨h 0 (by decide), h 1 (by decide), h 2 (by decide), h 3 (by decide), h 4 (by decide), h 5 (by decide), h 6 (by decide), h 7 (by decide), h 8 (by decide), h 9 (by decide)⟩

theorem step_storeF {ops : Array Oper} {o : Oper} {a : Act} {w : World} {K : Act → World → Prop} {Q : Exit → Act → World → Prop} {E : Prop} (hgd : o.guard = none) (x y : Operand) (ho : o.op = .store 42 x y)
    (g : Nat) (cs old : Array Value) (hx : a.eval x = .pointer (some ⟨g, 0, none⟩)) (hy : a.eval y = .agg cs) (hg : Blk w g old 42) (hs : old.size = 10) (hc : cs.size = 10) (h1 : cs.all (·.oneCell') = true)
    (h : ∀ w', Blk w' g cs 42 → (∀ B w0, Below B w0 w → B ≤ g → Below B w0 w') → K (a.put o.dst undef) w') : if Region.wanted o (yielded ops a.tmps) = true then Oper.wp Tryz.prog o a w K Q else E := by
  have hw : Region.wanted o (yielded ops a.tmps) = true := by simp [Region.wanted, hgd]
  rw [if_pos hw]
  exact wp_store_row _ x y ho g cs hx hy _ old hg (by rw [hc]; exact Tryz.sizeFail) (by omega) h1 (h _ (setRow_heap w g old cs _ _ hg) (fun B w0 hb hB => below_setRow hb hB cs))
theorem ten_is {w5 : World} {g : Nat} {cs : List Value} (hb : Blk w5 g #[.int .i64 0, .int .i64 0, .int .i64 0, .int .i64 0, .int .i64 0, .int .i64 0, .int .i64 0, .int .i64 0, .int .i64 0, .int .i64 0] 42) (hl : cs.length = 10) : Blk (w5.setCells g 0 cs) g cs.toArray 42 ∧ (∀ B w0, Below B w0 w5 → B ≤ g → Below B w0 (w5.setCells g 0 cs)) ∧ ∀ {base : Nat} {size : Nat} {v : Value} {n : Nat} {xs : List Value}, w5.ownsRow base 55 size v n xs → (w5.setCells g 0 cs).ownsRow base 55 size v n xs := by
  refine ⟨?_, fun B w0 h hB => below_sc hB cs 0 w5 h, fun {base size v n xs} h => ?_⟩
  · have h := heap_setCells cs 0 (show w5.heap[g]? = some (.cells #[.int .i64 0, .int .i64 0, .int .i64 0, .int .i64 0, .int .i64 0, .int .i64 0, .int .i64 0, .int .i64 0, .int .i64 0, .int .i64 0] 42 (0, 0)) from hb)
    have e : putL #[.int .i64 0, .int .i64 0, .int .i64 0, .int .i64 0, .int .i64 0, .int .i64 0, .int .i64 0, .int .i64 0, .int .i64 0, .int .i64 0] 0 cs = cs.toArray := by
      apply Array.ext_getElem?
      intro i
      rw [putL_at]
      by_cases hi : i < 10
      · rw [if_pos ⟨Nat.zero_le _, by rw [hl]; omega, by simpa using hi⟩, Nat.sub_zero, List.getElem?_toArray]
      · rw [if_neg (by rw [hl]; omega), Array.getElem?_eq_none (by simp; omega), List.getElem?_toArray, List.getElem?_eq_none (by omega)]
    rw [e] at h
    exact h
  · obtain ⟨h1, h2⟩ := h
    refine ⟨h1, ?_⟩
    rcases h2 with h2 | ⟨j, cap, cur, rfl, hj, hh, r⟩
    · exact .inl h2
    · refine .inr ⟨j, cap, cur, rfl, hj, ?_, r⟩
      rw [heap_setCells_other w5 g 0 cs j (fun q => by
        subst q
        rw [show w5.heap[j]? = _ from hb] at hh
        cases hh)]
      exact hh
theorem cmL_len (ps : List Int) (X : Int) (l : List Int) : (cmL ps X l).length ≤ 2 := pay2_len _ _ _
theorem cmL_pt {ps : List Int} {X : Int} {l : List Int} (hl : failEL l = 0) (hP : prcB (prOf ps l) = true) (hX : 0 ≤ X ∧ X ≤ 10000) : ∀ q ∈ cmL ps X l, ptB q = true := by
  have fb := fail_bd hl
  have ob := op_bd hl
  have hwb : wthB (opL l) (prOf ps l) X = true := wth_mk ob hX (prc_t hP)
  obtain ⟨b1, b2, b3⟩ := wth_t hwb
  have bd := wth_bd b1 b2 b3
  have cb := cost_bd b1 b3
  have nq : wthQ (opL l) (prOf ps l) X = wthV (opL l) (prOf ps l) X := if_pos hwb
  exact pay2_pt fb.2.2.2.2.1 fb.2.2.2.2.2 (by rw [nq]; unfold wthV; omega)
theorem st4_open {W : Int} {hs tl l : List Int} {q : Int} (hL : lkL W hs tl l q = 0) (h4 : stL W hs tl l q = 4) : opL l ≠ 0 := by
  intro h0
  unfold stL stgR at h4
  unfold lkL at hL
  rw [if_pos hL] at h4
  unfold opL at h0
  unfold stgV at h4
  rw [if_pos h0] at h4
  cases h4

set_option maxRecDepth 100000 in
set_option maxHeartbeats 16000000 in
theorem compensate_run (wb : World) (g : Nat) (W X T : Int) (hv tv pcv fv bv pv : Value) (hs ps : List Int) (ts fs : List (List Int)) (b p : List (Int × Int × Int)) (w : World) (hC : ClerkIs w wb.heap.size g T fv bv pv fs b p) (hK : Kpt wb w) (hbp : ∀ x ∈ b, ptB x = true) (hp : p.length ≤ 99000)
    (hr : Reads wb hv hs) (hf : Fits hs) (ht : ReadsT wb tv ts) (hpr : Reads wb pcv ps) (hfl : checksE fs = 0) (h6 : ts.length = 6) (h20 : ps.length = 20) (hpz : ∀ j, j < 20 → prcB (ps.getD j 0) = true) (hX : 0 ≤ X ∧ X ≤ 10000) :
    Calls Tryz.prog 88 #[.pointer (some ⟨g, 0, none⟩), .agg #[.int .i64 W, hv, tv, .int .i64 X], pcv] w (CmRes w wb.heap.size g (cmE W hs ts ps X T fs b) T fv (cmF W hs ts T fs) (cmB W hs ts ps X T fs b) (p ++ cmP W hs ts ps X T fs)) := by
  obtain ⟨h60, hok⟩ := checksE_0 hfl
  have HOK := Lib.hid hok
  have HR := Lib.hid hr
  have HFI := Lib.hid hf
  have DR := Lib.hid (fun k (h : k < fs.length) => drop_at h)
  have DA : Hid (fs.drop fs.length = []) := List.drop_length
  have PZ := Lib.hid hpz
  have H6 := Lib.hid h6
  have H20 := Lib.hid h20
  have F0 := Lib.hid (fsK_0 W hs ts T fs)
  have FN := Lib.hid (fsK_n W hs ts T fs)
  have FL := Lib.hid (fsK_len W hs ts T fs)
  have FA := Lib.hid (fun k (h : k < fs.length) => fsK_at W hs ts T h)
  have FS := Lib.hid (fun k (h : k < fs.length) => fsK_s W hs ts T h)
  have FM := Lib.hid (fun k (h : k < fs.length) hq => fsK_same (W := W) (hs := hs) (ts := ts) (q := T) h hq)
  have PS := Lib.hid (fun k (h : k < fs.length) => cmP_s (W := W) (hs := hs) (ts := ts) (ps := ps) (X := X) (q := T) h)
  have PL := Lib.hid (fun k => cmP_len W hs ts ps X T (fs.take k))
  have LT := Lib.hid (fun k => List.length_take_le k fs)
  have PN : Hid (cmP W hs ts ps X T (fs.take fs.length) = cmP W hs ts ps X T fs) := by unfold Hid; rw [List.take_length]
  have P0 : Hid (p ++ cmP W hs ts ps X T (fs.take 0) = p) := by simp [Hid, cmP]
  have HPL := Lib.hid hp
  have XB := Lib.hid hX
  have CE0 : Hid (cmE W hs ts ps X T (fs.drop 0) b = cmE W hs ts ps X T fs b) := rfl
  have CB0 : Hid (cmB W hs ts ps X T (fs.drop 0) b = cmB W hs ts ps X T fs b) := rfl
  obtain ⟨E, hE⟩ : ∃ E, cmE W hs ts ps X T fs b = E := ⟨_, rfl⟩
  obtain ⟨BF, hBF⟩ : ∃ BF, cmB W hs ts ps X T fs b = BF := ⟨_, rfl⟩
  rw [hE] at CE0 ⊢
  rw [hBF] at CB0 ⊢
  have K0 : Hid (Kpt w (w.alloc (.cells #[.int .i64 W, hv, tv, .int .i64 X] 27))) := (Kpt.refl w).alloc _
  have BR0 : Hid (Blk (w.alloc (.cells #[.int .i64 W, hv, tv, .int .i64 X] 27)) w.heap.size #[.int .i64 W, hv, tv, .int .i64 X] 27) := Blk.made w _ _
  have C0 := Lib.hid (hC.kpt K0.out)
  have KB0 : Hid (Kpt wb (w.alloc (.cells #[.int .i64 W, hv, tv, .int .i64 X] 27))) := ktr hK K0.out
  have HBS : Hid (wb.heap.size ≤ w.heap.size) := hK.size
  have BW0 : Hid (Below wb.heap.size w (w.alloc (.cells #[.int .i64 W, hv, tv, .int .i64 X] 27))) := K0.out.mono HBS.out
  have KY0 : Hid (KpY w (w.alloc (.cells #[.int .i64 W, hv, tv, .int .i64 X] 27))) := Kpt.y K0.out
  have BP := Lib.hid hbp
  have mixed : Tryz.prog.follows .mixedOrders = true := by kernel_rfl
  obtain ⟨ah, caph, rfl, -⟩ := id hr
  obtain ⟨at', capt, rfl, -, htc⟩ := ht
  obtain ⟨af, capf, rfl, hml, -⟩ := hC.of.cells
  obtain ⟨ap, capp, rfl, -, hpc⟩ := id hpr
  have HT := Lib.hid htc
  have HP := Lib.hid hpc
  have s1 : World.cell? (w.alloc (.cells #[.int .i64 W, .slice ah hs.length caph, .slice at' ts.length capt, .int .i64 X] 27)) ⟨g, 1, none⟩ = some (.slice af fs.length capf) := C0.out.blk.cell 1
  unfold maxLen at hml
  clear hC hK hbp hp hr hf hpr hfl h6 h20 hpz hX hok htc hpc hE hBF K0
  go_enter Tryz.func88, Tryz.ntmps88
  go_wp2
  generalize (w.alloc (.cells #[.int .i64 W, .slice ah hs.length caph, .slice at' ts.length capt, .int .i64 X] 27)) = w0 at *
  clear s1
  go_loopw [20] (fun ii wr => ∃ (k : Nat) (bk : List (Int × Int × Int)) (bv' pv' : Value), k ≤ fs.length ∧ ii = .int .i64 (k : Int) ∧ Hid (cmE W hs ts ps X T (fs.drop k) bk = E) ∧ Hid (cmB W hs ts ps X T (fs.drop k) bk = BF) ∧ Hid (∀ x ∈ bk, ptB x = true) ∧ Hid (ClerkIs wr wb.heap.size g T (.slice af fs.length capf) bv' pv' (fsK W hs ts T fs k) bk (p ++ cmP W hs ts ps X T (fs.take k))) ∧ Hid (Kpt wb wr) ∧ Hid (Below wb.heap.size w wr) ∧ Hid (Blk wr w.heap.size #[.int .i64 W, .slice ah hs.length caph, .slice at' ts.length capt, .int .i64 X] 27) ∧ Hid (KpY w wr)) (fun ii _ => fs.length - (intOf ii).toNat)
  case atStart => exact ⟨0, b, _, _, Nat.zero_le _, rfl, CE0.out, CB0.out, BP.out, by unfold Hid; rw [F0.out, P0.out]; exact C0.out, KB0.out, BW0.out, BR0.out, KY0.out⟩
  case round =>
    clear C0 KB0 BW0 BR0 BP CE0 CB0 F0 P0 KY0
    obtain ⟨k, bk, bv', pv', hk, rfl, HE, HB, BP, HC, HK, HW, HBR, HY⟩ := hrel
    by_cases hlt : k < fs.length
    · obtain ⟨gf, hgf, hcf⟩ : ∃ gf, af = some ⟨gf, 0, none⟩ ∧ ∀ j, j < 10 → wr.cell? ⟨gf, k * 10 + j, none⟩ = some (.int .i64 ((fs.getD k []).getD j 0)) := by
        obtain ⟨a', cap', e, -, hc⟩ := HC.out.of.cells
        obtain ⟨gf, e', h'⟩ := hc k (by rw [FL.out]; exact hlt)
        simp only [Value.slice.injEq] at e
        refine ⟨gf, e.1.trans e', fun j hj => ?_⟩
        rw [h' j hj, FA.out k hlt]
      subst hgf
      have fe := HOK.out _ (getF_mem hlt)
      have he := HE.out
      have hb := HB.out
      rw [DR.out k hlt] at he hb
      have fm := Lib.hid (FM.out k hlt)
      have fsk := Lib.hid (FS.out k hlt)
      have psk := Lib.hid (PS.out k hlt)
      have fak := Lib.hid (FA.out k hlt)
      have fcl := fl_cls fe
      obtain ⟨gt, ot, rfl, htc⟩ := HT.out ((fs.getD k []).getD 3 0).toNat (by have := H6.out; omega)
      obtain ⟨gp, op, rfl, hpc⟩ := HP.out ((fs.getD k []).getD 4 0 - 1).toNat (by have := H20.out; omega)
      have pz := PZ.out ((fs.getD k []).getD 4 0 - 1).toNat (by omega)
      obtain ⟨c0, c1, c2, c3, c4, c5, c6, c7, c8, c9⟩ := fl_at hcf
      clear hcf HE HB FA FM FS PS
      generalize fs.getD k [] = l at *
      have ST := Lib.hid (fun w' (kk : Kpt wb w') => stage_any W ((tlOf ts l).getD 0 0) ((tlOf ts l).getD 1 0) ((tlOf ts l).getD 2 0) ((tlOf ts l).getD 3 0) (l.getD 0 0) (l.getD 1 0) (l.getD 2 0) (l.getD 3 0) (l.getD 4 0) (l.getD 5 0) (l.getD 6 0) (l.getD 7 0) (l.getD 8 0) (l.getD 9 0) T _ hs w' (HR.out.kpt kk) HFI.out)
      change Hid (∀ w', Kpt wb w' → Calls Tryz.prog 31 _ w' fun z w'' => z = .returned (.tuple #[.int .i64 (stL W hs (tlOf ts l) l T), .int .i64 (lkL W hs (tlOf ts l) l T)]) ∧ Kpt w' w'') at ST
      unfold calV at ST
      have hpc : wb.cell? ⟨gp, op + (l.getD 4 0 - 1).toNat, none⟩ = some (.int .i64 (prOf ps l)) := hpc
      have h0 : wb.cell? ⟨gt, ot + (l.getD 3 0).toNat * 4, none⟩ = some (.int .i64 ((tlOf ts l).getD 0 0)) := htc 0 (by omega)
      have h1 : wb.cell? ⟨gt, ot + (l.getD 3 0).toNat * 4 + 1, none⟩ = some (.int .i64 ((tlOf ts l).getD 1 0)) := htc 1 (by omega)
      have h2 : wb.cell? ⟨gt, ot + (l.getD 3 0).toNat * 4 + 2, none⟩ = some (.int .i64 ((tlOf ts l).getD 2 0)) := htc 2 (by omega)
      have h3 : wb.cell? ⟨gt, ot + (l.getD 3 0).toNat * 4 + 3, none⟩ = some (.int .i64 ((tlOf ts l).getD 3 0)) := htc 3 (by omega)
      have PZL := Lib.hid (show prcB (prOf ps l) = true from pz)
      have CPI := Lib.hid (fun (ho : opL l ≠ 0) w' => cpay_in (l.getD 0 0) (l.getD 1 0) (l.getD 2 0) (l.getD 3 0) (l.getD 4 0) (l.getD 5 0) (l.getD 6 0) (l.getD 7 0) (l.getD 8 0) (l.getD 9 0) (prOf ps l) X w' fe ho PZL.out XB.out)
      change Hid (opL l ≠ 0 → ∀ w', Calls Tryz.prog 124 _ w' fun e w'' => ∃ v, e = .returned (.tuple #[.agg #[.int .i64 (l.getD 0 0), .int .i64 (l.getD 1 0), .int .i64 (l.getD 2 0), .int .i64 (l.getD 3 0), .int .i64 (l.getD 4 0), .int .i64 (l.getD 5 0), .int .i64 (l.getD 6 0), .int .i64 (l.getD 7 0), .int .i64 (l.getD 8 0), .int .i64 (l.getD 9 0 + opL l)], v, .int .i64 0]) ∧ OwnsP w'' 0 v (cmL ps X l) ∧ Kpt w' w'') at CPI
      have cb1 := fcl.1.1
      have cb2 := fcl.1.2
      have cb3 := fcl.2.1
      have cb4 := fcl.2.2
      have RW : Hid (rowN 10 (payF l) = [.int .i64 (l.getD 0 0), .int .i64 (l.getD 1 0), .int .i64 (l.getD 2 0), .int .i64 (l.getD 3 0), .int .i64 (l.getD 4 0), .int .i64 (l.getD 5 0), .int .i64 (l.getD 6 0), .int .i64 (l.getD 7 0), .int .i64 (l.getD 8 0), .int .i64 (l.getD 9 0 + opL l)]) := rfl
      have FE := Lib.hid fe
      have y1 : decide ((k : Int) < (fs.length : Int)) = true := decide_eq_true (by omega)
      have i0 : (0 : Int) ≤ (k : Int) := by omega
      have i1 : (k : Int) < (fs.length : Int) := by omega
      have m0 : IntKind.i64.wrap ((k : Int) + 1) = (k : Int) + 1 := IntWalk.i64_in _ (by omega)
      have ZB : Hid (Blk (wr.alloc (.cells #[.int .i64 0, .int .i64 0, .int .i64 0, .int .i64 0, .int .i64 0, .int .i64 0, .int .i64 0, .int .i64 0, .int .i64 0, .int .i64 0] 42)) wr.heap.size #[.int .i64 0, .int .i64 0, .int .i64 0, .int .i64 0, .int .i64 0, .int .i64 0, .int .i64 0, .int .i64 0, .int .i64 0, .int .i64 0] 42) := Blk.made _ _ _
      have KZ : Hid (Kpt wr (wr.alloc (.cells #[.int .i64 0, .int .i64 0, .int .i64 0, .int .i64 0, .int .i64 0, .int .i64 0, .int .i64 0, .int .i64 0, .int .i64 0, .int .i64 0] 42))) := (Kpt.refl _).alloc _
      have HCM := Lib.hid (fun h4 : stL W hs (tlOf ts l) l T ≠ 4 => (show cmH W hs ts ps X T l = [] from if_neg h4))
      have HC4 := Lib.hid (fun h4 : stL W hs (tlOf ts l) l T = 4 => (show cmH W hs ts ps X T l = cmL ps X l from if_pos h4))
      have HG4 := Lib.hid (fun h4 : stL W hs (tlOf ts l) l T = 4 => (show cmG W hs ts T l = payF l from if_pos h4))
      unfold cmE at he
      unfold cmB at hb
      clear htc pz fe fcl
      have HEE := Lib.hid he
      have HBB := Lib.hid hb
      clear he hb
      generalize (tlOf ts l).getD 0 0 = te at *
      generalize (tlOf ts l).getD 1 0 = tb at *
      generalize (tlOf ts l).getD 2 0 = td at *
      generalize (tlOf ts l).getD 3 0 = tr at *
      generalize l.getD 0 0 = z0 at *
      generalize l.getD 1 0 = z1 at *
      generalize l.getD 2 0 = z2 at *
      generalize l.getD 3 0 = z3 at *
      generalize l.getD 4 0 = z4 at *
      generalize l.getD 5 0 = z5 at *
      generalize l.getD 6 0 = z6 at *
      generalize l.getD 7 0 = z7 at *
      generalize l.getD 8 0 = z8 at *
      generalize l.getD 9 0 = z9 at *
      go_upto_region 4 with (refine wp_storeF rfl (.tmp 8) (.tmp 24) rfl wr.heap.size _ _ rfl rfl ZB.out rfl rfl (by simp [Value.oneCell']) ?_; intro w9 r9 k9 o9; have R9 := Lib.hid r9; have K9 : Hid (Kpt wr w9) := Lib.hid (k9 _ _ KZ.out (Nat.le_refl _)); clear r9 k9 o9)
      have CC := Lib.hid (HC.out.kpt K9.out)
      have RK := HBR.out.kpt K9.out
      have KW9 := Lib.hid (ktr HK.out K9.out)
      have g0 := cell_k (q := w9) (a := ⟨w.heap.size, 0, none⟩) (v := .int .i64 W) (RK.cell 0)
      have g1 := cell_k (q := w9) (a := ⟨w.heap.size, 1, none⟩) (v := .slice ah hs.length caph) (RK.cell 1)
      have g2 := cell_k (q := w9) (a := ⟨w.heap.size, 2, none⟩) (v := .slice (some ⟨gt, ot, none⟩) ts.length capt) (RK.cell 2)
      have q0 := cell_k (q := w9) (KW9.out.cell h0)
      have q1 := cell_k (q := w9) (KW9.out.cell h1)
      have q2 := cell_k (q := w9) (KW9.out.cell h2)
      have q3 := cell_k (q := w9) (KW9.out.cell h3)
      have t0 := cell_k (q := w9) (a := ⟨g, 0, none⟩) (v := .int .i64 T) (CC.out.blk.cell 0)
      have f0 := cell_k (q := w9) (a := ⟨wr.heap.size, 0, none⟩) (v := .int .i64 z0) (R9.out.cell 0)
      have f1 := cell_k (q := w9) (a := ⟨wr.heap.size, 1, none⟩) (v := .int .i64 z1) (R9.out.cell 1)
      have f2 := cell_k (q := w9) (a := ⟨wr.heap.size, 2, none⟩) (v := .int .i64 z2) (R9.out.cell 2)
      have f3 := cell_k (q := w9) (a := ⟨wr.heap.size, 3, none⟩) (v := .int .i64 z3) (R9.out.cell 3)
      have f4 := cell_k (q := w9) (a := ⟨wr.heap.size, 4, none⟩) (v := .int .i64 z4) (R9.out.cell 4)
      have f5 := cell_k (q := w9) (a := ⟨wr.heap.size, 5, none⟩) (v := .int .i64 z5) (R9.out.cell 5)
      have f6 := cell_k (q := w9) (a := ⟨wr.heap.size, 6, none⟩) (v := .int .i64 z6) (R9.out.cell 6)
      have f7 := cell_k (q := w9) (a := ⟨wr.heap.size, 7, none⟩) (v := .int .i64 z7) (R9.out.cell 7)
      have f8 := cell_k (q := w9) (a := ⟨wr.heap.size, 8, none⟩) (v := .int .i64 z8) (R9.out.cell 8)
      have f9 := cell_k (q := w9) (a := ⟨wr.heap.size, 9, none⟩) (v := .int .i64 z9) (R9.out.cell 9)
      have STq := Lib.hid (fun p : KptTo w9 => ST.out p.w (ktr KW9.out p.h))
      have cls : z3 < (ts.length : Int) := by have := H6.out; omega
      clear RK h0 h1 h2 h3 c0 c1 c2 c3 c4 c5 c6 c7 c8 c9 ST
      simp only [Act.put]
      refine quiet_k (q := w9) mixed (by kernel_rfl) ?_
      repeat (go_big_quiet_step ((go_at_call 31; with_reducible refine calls_k (STq.out _))))
      refine wpQuiet_nil ?_
      intro w8 hw1
      obtain ⟨⟨wz, kz⟩, hw2⟩ := hw1
      have hw3 : w8 = wz := hw2
      clear hw2
      subst hw3
      have K8 := Lib.hid (ktr K9.out kz)
      have R8 := Lib.hid (R9.out.kpt kz)
      have C8 := Lib.hid (CC.out.kpt kz)
      have B8 := Lib.hid (HBR.out.kpt K8.out)
      have KW8 := Lib.hid (ktr KW9.out kz)
      have KY8 : Hid (KpY w w8) := HY.out.trans (Kpt.y K8.out)
      have BW8 : Hid (Below wb.heap.size w w8) := HW.out.trans (K8.out.mono HK.out.size)
      clear kz g0 g1 g2 q0 q1 q2 q3 t0 f0 f1 f2 f3 f4 f5 f6 f7 f8 f9 STq CC R9 K9 KW9 HC HBR HK HW HY ZB KZ
      by_cases hL : lkL W hs (tlOf ts l) l T = 0
      · have yL : (lkL W hs (tlOf ts l) l T != 0) = false := by rw [hL]; rfl
        have he := HEE.out
        rw [if_pos hL] at he
        by_cases h4 : stL W hs (tlOf ts l) l T = 4
        · have y4 : (stL W hs (tlOf ts l) l T != 4) = false := by rw [h4]; rfl
          rw [if_pos h4] at he
          have hb := HBB.out
          rw [if_pos h4] at hb
          have CP := Lib.hid (CPI.out (st4_open hL h4))
          have CPT : Hid (∀ x ∈ cmL ps X l, ptB x = true) := cmL_pt FE.out PZL.out XB.out
          have LEN : Hid ((p ++ cmP W hs ts ps X T (fs.take k)).length + (cmL ps X l).length ≤ 100000) := by
            have h1 := PL.out k
            have h2 := LT.out k
            have h3 := HPL.out
            have h4 := cmL_len ps X l
            unfold Hid
            rw [List.length_append]
            omega
          have E2 := Lib.hid (HC4.out h4)
          have E3 := Lib.hid (HG4.out h4)
          have HE2 := Lib.hid he
          have HB2 := Lib.hid hb
          clear he hb hL h4 CPI HC4 HG4 HCM fm HEE HBB
          have pc : World.cell? w8 ⟨gp, op + (z4.toNat - 1), none⟩ = some (.int .i64 (prOf ps l)) := by have := KW8.out.cell hpc; rwa [show (z4 - 1).toNat = z4.toNat - 1 by omega] at this
          have x3 : World.cell? w8 ⟨w.heap.size, 3, none⟩ = some (.int .i64 X) := B8.out.cell 3
          have d0 : World.cell? w8 ⟨wr.heap.size, 0, none⟩ = some (.int .i64 z0) := R8.out.cell 0
          have d1 : World.cell? w8 ⟨wr.heap.size, 1, none⟩ = some (.int .i64 z1) := R8.out.cell 1
          have d2 : World.cell? w8 ⟨wr.heap.size, 2, none⟩ = some (.int .i64 z2) := R8.out.cell 2
          have d3 : World.cell? w8 ⟨wr.heap.size, 3, none⟩ = some (.int .i64 z3) := R8.out.cell 3
          have d4 : World.cell? w8 ⟨wr.heap.size, 4, none⟩ = some (.int .i64 z4) := R8.out.cell 4
          have d5 : World.cell? w8 ⟨wr.heap.size, 5, none⟩ = some (.int .i64 z5) := R8.out.cell 5
          have d6 : World.cell? w8 ⟨wr.heap.size, 6, none⟩ = some (.int .i64 z6) := R8.out.cell 6
          have d7 : World.cell? w8 ⟨wr.heap.size, 7, none⟩ = some (.int .i64 z7) := R8.out.cell 7
          have d8 : World.cell? w8 ⟨wr.heap.size, 8, none⟩ = some (.int .i64 z8) := R8.out.cell 8
          have d9 : World.cell? w8 ⟨wr.heap.size, 9, none⟩ = some (.int .i64 z9) := R8.out.cell 9
          have e81 : ¬ (w8.heap.size = wr.heap.size) := by have := R8.out.lt; omega
          have e82 : ¬ (wr.heap.size = w8.heap.size) := by have := R8.out.lt; omega
          have e83 : ¬ (w8.heap.size = w.heap.size) := by have := B8.out.lt; omega
          have e84 : ¬ (w.heap.size = w8.heap.size) := by have := B8.out.lt; omega
          have e85 : ¬ (w8.heap.size = gp) := by have := cell_in hpc; have := KW8.out.size; simp at *; omega
          have e86 : ¬ (gp = w8.heap.size) := fun e => e85 e.symm
          clear hpc
          have mp : IntKind.i64.wrap (z4 - 1) = z4 - 1 := IntWalk.i64_in _ (by omega)
          have mp0 : 0 ≤ z4 - 1 := by omega
          have mp1 : z4 - 1 < (ps.length : Int) := by have := H20.out; omega
          go_upto_region 8 with fail
          go_region_held3 (fun w' => w'.cell? ⟨wr.heap.size, 0, none⟩ = some (.int .i64 z0) ∧ w'.cell? ⟨wr.heap.size, 1, none⟩ = some (.int .i64 z1) ∧ w'.cell? ⟨wr.heap.size, 2, none⟩ = some (.int .i64 z2) ∧ w'.cell? ⟨wr.heap.size, 3, none⟩ = some (.int .i64 z3) ∧ w'.cell? ⟨wr.heap.size, 4, none⟩ = some (.int .i64 z4) ∧ w'.cell? ⟨wr.heap.size, 5, none⟩ = some (.int .i64 z5) ∧ w'.cell? ⟨wr.heap.size, 6, none⟩ = some (.int .i64 z6) ∧ w'.cell? ⟨wr.heap.size, 7, none⟩ = some (.int .i64 z7) ∧ w'.cell? ⟨wr.heap.size, 8, none⟩ = some (.int .i64 z8) ∧ w'.cell? ⟨wr.heap.size, 9, none⟩ = some (.int .i64 z9) ∧ w'.cell? ⟨gp, op + (z4.toNat - 1), none⟩ = some (.int .i64 (prOf ps l)) ∧ w'.cell? ⟨w.heap.size, 3, none⟩ = some (.int .i64 X))
            (first | go_keep | exact ⟨d0, d1, d2, d3, d4, d5, d6, d7, d8, d9, pc, x3⟩ | exact ⟨n0, n1, n2, n3, n4, n5, n6, n7, n8, n9, npc, nx3⟩ | exact ⟨m0, m1, m2, m3, m4, m5, m6, m7, m8, m9, mpc, mx3⟩ | (refine ⟨?_, ?_, ?_, ?_, ?_, ?_, ?_, ?_, ?_, ?_, ?_, ?_⟩ <;> (first | assumption | go_keep)))
            (first
              | (go_at_call 124; refine (CP.out _).mono ?_; rintro x w5 ⟨v5, rfl, rv, kk⟩; obtain ⟨a5, cap5, rfl⟩ := OwnsP.form rv; have RV := Lib.hid rv; (first | have K5 : Hid (Kpt w8 w5) := ktr (show Kpt w8 w8.drew from Below.drew (Kpt.refl w8)) kk | (have K5 : Hid (Kpt w8 w5) := ktr (show Kpt w8 (w8.alloc (.cells #[.int .i64 0, .int .i64 0, .int .i64 0, .int .i64 0, .int .i64 0, .int .i64 0, .int .i64 0, .int .i64 0, .int .i64 0, .int .i64 0] 42)).drew from Below.drew ((Kpt.refl w8).alloc _)) kk; have BZ5 : Hid (Blk w5 w8.heap.size #[.int .i64 0, .int .i64 0, .int .i64 0, .int .i64 0, .int .i64 0, .int .i64 0, .int .i64 0, .int .i64 0, .int .i64 0, .int .i64 0] 42) := Blk.kpt (show Blk (w8.alloc (.cells #[.int .i64 0, .int .i64 0, .int .i64 0, .int .i64 0, .int .i64 0, .int .i64 0, .int .i64 0, .int .i64 0, .int .i64 0, .int .i64 0] 42)).drew w8.heap.size #[.int .i64 0, .int .i64 0, .int .i64 0, .int .i64 0, .int .i64 0, .int .i64 0, .int .i64 0, .int .i64 0, .int .i64 0, .int .i64 0] 42 from Blk.made w8 _ _) kk; have bz0 : World.cell? w5 ⟨w8.heap.size, 0, none⟩ = some (.int .i64 0) := BZ5.out.cell 0; have bf0 : World.frozen? w5 ⟨w8.heap.size, 0, none⟩ = false := Blk.frozen BZ5.out 0; have bz1 : World.cell? w5 ⟨w8.heap.size, 1, none⟩ = some (.int .i64 0) := BZ5.out.cell 1; have bf1 : World.frozen? w5 ⟨w8.heap.size, 1, none⟩ = false := Blk.frozen BZ5.out 1; have bz2 : World.cell? w5 ⟨w8.heap.size, 2, none⟩ = some (.int .i64 0) := BZ5.out.cell 2; have bf2 : World.frozen? w5 ⟨w8.heap.size, 2, none⟩ = false := Blk.frozen BZ5.out 2; have bz3 : World.cell? w5 ⟨w8.heap.size, 3, none⟩ = some (.int .i64 0) := BZ5.out.cell 3; have bf3 : World.frozen? w5 ⟨w8.heap.size, 3, none⟩ = false := Blk.frozen BZ5.out 3; have bz4 : World.cell? w5 ⟨w8.heap.size, 4, none⟩ = some (.int .i64 0) := BZ5.out.cell 4; have bf4 : World.frozen? w5 ⟨w8.heap.size, 4, none⟩ = false := Blk.frozen BZ5.out 4; have bz5 : World.cell? w5 ⟨w8.heap.size, 5, none⟩ = some (.int .i64 0) := BZ5.out.cell 5; have bf5 : World.frozen? w5 ⟨w8.heap.size, 5, none⟩ = false := Blk.frozen BZ5.out 5; have bz6 : World.cell? w5 ⟨w8.heap.size, 6, none⟩ = some (.int .i64 0) := BZ5.out.cell 6; have bf6 : World.frozen? w5 ⟨w8.heap.size, 6, none⟩ = false := Blk.frozen BZ5.out 6; have bz7 : World.cell? w5 ⟨w8.heap.size, 7, none⟩ = some (.int .i64 0) := BZ5.out.cell 7; have bf7 : World.frozen? w5 ⟨w8.heap.size, 7, none⟩ = false := Blk.frozen BZ5.out 7; have bz8 : World.cell? w5 ⟨w8.heap.size, 8, none⟩ = some (.int .i64 0) := BZ5.out.cell 8; have bf8 : World.frozen? w5 ⟨w8.heap.size, 8, none⟩ = false := Blk.frozen BZ5.out 8; have bz9 : World.cell? w5 ⟨w8.heap.size, 9, none⟩ = some (.int .i64 0) := BZ5.out.cell 9; have bf9 : World.frozen? w5 ⟨w8.heap.size, 9, none⟩ = false := Blk.frozen BZ5.out 9)); clear rv kk; have n0 : World.cell? w5 ⟨wr.heap.size, 0, none⟩ = some (.int .i64 z0) := K5.out.cell d0; have n1 : World.cell? w5 ⟨wr.heap.size, 1, none⟩ = some (.int .i64 z1) := K5.out.cell d1; have n2 : World.cell? w5 ⟨wr.heap.size, 2, none⟩ = some (.int .i64 z2) := K5.out.cell d2; have n3 : World.cell? w5 ⟨wr.heap.size, 3, none⟩ = some (.int .i64 z3) := K5.out.cell d3; have n4 : World.cell? w5 ⟨wr.heap.size, 4, none⟩ = some (.int .i64 z4) := K5.out.cell d4; have n5 : World.cell? w5 ⟨wr.heap.size, 5, none⟩ = some (.int .i64 z5) := K5.out.cell d5; have n6 : World.cell? w5 ⟨wr.heap.size, 6, none⟩ = some (.int .i64 z6) := K5.out.cell d6; have n7 : World.cell? w5 ⟨wr.heap.size, 7, none⟩ = some (.int .i64 z7) := K5.out.cell d7; have n8 : World.cell? w5 ⟨wr.heap.size, 8, none⟩ = some (.int .i64 z8) := K5.out.cell d8; have n9 : World.cell? w5 ⟨wr.heap.size, 9, none⟩ = some (.int .i64 z9) := K5.out.cell d9; have npc : World.cell? w5 ⟨gp, op + (z4.toNat - 1), none⟩ = some (.int .i64 (prOf ps l)) := K5.out.cell pc; have nx3 : World.cell? w5 ⟨w.heap.size, 3, none⟩ = some (.int .i64 X) := K5.out.cell x3))
          all_goals clear n0 n1 n2 n3 n4 n5 n6 n7 n8 n9 npc nx3 d0 d1 d2 d3 d4 d5 d6 d7 d8 d9 pc x3 mp mp0 mp1 e81 e82 e83 e84 e85 e86
          · have R6 : Hid (Blk (w5.alloc (.cells #[.int .i64 z0, .int .i64 z1, .int .i64 z2, .int .i64 z3, .int .i64 z4, .int .i64 z5, .int .i64 z6, .int .i64 z7, .int .i64 z8, .int .i64 (z9 + opL l)] 42)) w5.heap.size #[.int .i64 z0, .int .i64 z1, .int .i64 z2, .int .i64 z3, .int .i64 z4, .int .i64 z5, .int .i64 z6, .int .i64 z7, .int .i64 z8, .int .i64 (z9 + opL l)] 42) := Blk.made _ _ _
            have K6 : Hid (Kpt w8 (w5.alloc (.cells #[.int .i64 z0, .int .i64 z1, .int .i64 z2, .int .i64 z3, .int .i64 z4, .int .i64 z5, .int .i64 z6, .int .i64 z7, .int .i64 z8, .int .i64 (z9 + opL l)] 42))) := K5.out.alloc _
            have RV6 : Hid (OwnsP (w5.alloc (.cells #[.int .i64 z0, .int .i64 z1, .int .i64 z2, .int .i64 z3, .int .i64 z4, .int .i64 z5, .int .i64 z6, .int .i64 z7, .int .i64 z8, .int .i64 (z9 + opL l)] 42)) 0 (.slice a5 (cmL ps X l).length cap5) (cmL ps X l)) := row_kpt RV.out ((Kpt.refl _).alloc _)
            generalize (w5.alloc (.cells #[.int .i64 z0, .int .i64 z1, .int .i64 z2, .int .i64 z3, .int .i64 z4, .int .i64 z5, .int .i64 z6, .int .i64 z7, .int .i64 z8, .int .i64 (z9 + opL l)] 42)) = w6 at *
            generalize w5.heap.size = gx at *
            clear RV K5
            have C6 := Lib.hid (C8.out.kpt K6.out)
            have KW6 := Lib.hid (ktr KW8.out K6.out)
            have BW6 : Hid (Below wb.heap.size w w6) := BW8.out.trans (K6.out.mono (Nat.le_trans (Nat.le_refl _) KW8.out.size))
            have B6 := Lib.hid (B8.out.kpt K6.out)
            have CPO := Lib.hid (cpost_any wb.heap.size g _ _ T _ _ _ _ (fsK W hs ts T fs k) bk _ (cmL ps X l) w6 C6.out BP.out (OwnsP.reads RV6.out (inP_of CPT.out)) LEN.out)
            by_cases hP : cpoE bk (cmL ps X l) = 0
            · have he := HE2.out
              rw [if_pos hP] at he
              rw [hP] at CPO
              have HE3 := Lib.hid he
              have hPo := Lib.hid (cpoP_ok hP)
              clear he hP HE2
              go_upto_region 14 with (go_at_call 109; (with_reducible refine CPO.out.mono ?_); rintro x w7 ⟨rfl, hc7, kb7, kx7⟩; obtain ⟨bv7, pv7, hc7⟩ := hc7 rfl; have C7 := Lib.hid hc7; have KB7 := Lib.hid kb7; have KX7 := Lib.hid kx7; have R7 := Lib.hid (kx7.2 _ _ _ R6.out (by decide) (by decide)); have B7 := Lib.hid (kx7.2 _ _ _ B6.out (by decide) (by decide)); clear hc7 kb7 kx7)
              obtain ⟨gc, hgc⟩ : ∃ cur, Blk w7 gf cur 42 := row_blk C7.out.of (k := gf) (by simp [Value.ownBlock])
              have hcf7 : ∀ j, j < 10 → w7.cell? ⟨gf, k * 10 + j, none⟩ = some (.int .i64 (((fsK W hs ts T fs k).getD k []).getD j 0)) := by
                obtain ⟨a', cap', e, -, hc⟩ := C7.out.of.cells
                obtain ⟨g', e', h'⟩ := hc k (by rw [FL.out]; exact hlt)
                simp only [Value.slice.injEq] at e
                have e9 := e.1.trans e'
                simp only [Option.some.injEq, Addr.mk.injEq] at e9
                obtain ⟨rfl, -, -⟩ := e9
                exact h'
              obtain ⟨p0, p1, p2, p3, p4, p5, p6, p7, p8, p9⟩ := fl_at hcf7
              have r0 : World.frozen? w7 ⟨gf, k * 10, none⟩ = false := Blk.frozen hgc (k * 10)
              have r1 : World.frozen? w7 ⟨gf, k * 10 + 1, none⟩ = false := Blk.frozen hgc (k * 10 + 1)
              have r2 : World.frozen? w7 ⟨gf, k * 10 + 2, none⟩ = false := Blk.frozen hgc (k * 10 + 2)
              have r3 : World.frozen? w7 ⟨gf, k * 10 + 3, none⟩ = false := Blk.frozen hgc (k * 10 + 3)
              have r4 : World.frozen? w7 ⟨gf, k * 10 + 4, none⟩ = false := Blk.frozen hgc (k * 10 + 4)
              have r5 : World.frozen? w7 ⟨gf, k * 10 + 5, none⟩ = false := Blk.frozen hgc (k * 10 + 5)
              have r6 : World.frozen? w7 ⟨gf, k * 10 + 6, none⟩ = false := Blk.frozen hgc (k * 10 + 6)
              have r7 : World.frozen? w7 ⟨gf, k * 10 + 7, none⟩ = false := Blk.frozen hgc (k * 10 + 7)
              have r8 : World.frozen? w7 ⟨gf, k * 10 + 8, none⟩ = false := Blk.frozen hgc (k * 10 + 8)
              have r9 : World.frozen? w7 ⟨gf, k * 10 + 9, none⟩ = false := Blk.frozen hgc (k * 10 + 9)
              have s1 : World.cell? w7 ⟨g, 1, none⟩ = some (.slice (some ⟨gf, 0, none⟩) fs.length capf) := C7.out.blk.cell 1
              have e0 : World.cell? w7 ⟨gx, 0, none⟩ = some (.int .i64 z0) := R7.out.cell 0
              have e1 : World.cell? w7 ⟨gx, 1, none⟩ = some (.int .i64 z1) := R7.out.cell 1
              have e2 : World.cell? w7 ⟨gx, 2, none⟩ = some (.int .i64 z2) := R7.out.cell 2
              have e3 : World.cell? w7 ⟨gx, 3, none⟩ = some (.int .i64 z3) := R7.out.cell 3
              have e4 : World.cell? w7 ⟨gx, 4, none⟩ = some (.int .i64 z4) := R7.out.cell 4
              have e5 : World.cell? w7 ⟨gx, 5, none⟩ = some (.int .i64 z5) := R7.out.cell 5
              have e6 : World.cell? w7 ⟨gx, 6, none⟩ = some (.int .i64 z6) := R7.out.cell 6
              have e7 : World.cell? w7 ⟨gx, 7, none⟩ = some (.int .i64 z7) := R7.out.cell 7
              have e8 : World.cell? w7 ⟨gx, 8, none⟩ = some (.int .i64 z8) := R7.out.cell 8
              have e9 : World.cell? w7 ⟨gx, 9, none⟩ = some (.int .i64 (z9 + opL l)) := R7.out.cell 9
              clear hcf7 hgc
              generalize (fsK W hs ts T fs k).getD k [] = l7 at p0 p1 p2 p3 p4 p5 p6 p7 p8 p9
              have cp := clerk_put (l := payF l) C7.out (k := k) (by rw [FL.out]; exact hlt)
              rw [RW.out] at cp
              have CP7 := Lib.hid cp
              clear cp
              go_region
              obtain ⟨q1, q2, q3⟩ := CP7.out
              have C9 : Hid (ClerkIs ((((((((((w7.setCell ⟨gf, k * 10, none⟩ (.int .i64 z0)).setCell ⟨gf, k * 10 + 1, none⟩ (.int .i64 z1)).setCell ⟨gf, k * 10 + 2, none⟩ (.int .i64 z2)).setCell ⟨gf, k * 10 + 3, none⟩ (.int .i64 z3)).setCell ⟨gf, k * 10 + 4, none⟩ (.int .i64 z4)).setCell ⟨gf, k * 10 + 5, none⟩ (.int .i64 z5)).setCell ⟨gf, k * 10 + 6, none⟩ (.int .i64 z6)).setCell ⟨gf, k * 10 + 7, none⟩ (.int .i64 z7)).setCell ⟨gf, k * 10 + 8, none⟩ (.int .i64 z8)).setCell ⟨gf, k * 10 + 9, none⟩ (.int .i64 (z9 + opL l))).drew wb.heap.size g T (.slice (some ⟨gf, 0, none⟩) fs.length capf) bv7 pv7 ((fsK W hs ts T fs k).set k (payF l)) (cpoB bk (cmL ps X l)) ((p ++ cmP W hs ts ps X T (fs.take k)) ++ cpoP bk (cmL ps X l))) := ClerkIs.kpt q1 (Below.drew (Kpt.refl _))
              have K9 : Hid (Below wb.heap.size w7 ((((((((((w7.setCell ⟨gf, k * 10, none⟩ (.int .i64 z0)).setCell ⟨gf, k * 10 + 1, none⟩ (.int .i64 z1)).setCell ⟨gf, k * 10 + 2, none⟩ (.int .i64 z2)).setCell ⟨gf, k * 10 + 3, none⟩ (.int .i64 z3)).setCell ⟨gf, k * 10 + 4, none⟩ (.int .i64 z4)).setCell ⟨gf, k * 10 + 5, none⟩ (.int .i64 z5)).setCell ⟨gf, k * 10 + 6, none⟩ (.int .i64 z6)).setCell ⟨gf, k * 10 + 7, none⟩ (.int .i64 z7)).setCell ⟨gf, k * 10 + 8, none⟩ (.int .i64 z8)).setCell ⟨gf, k * 10 + 9, none⟩ (.int .i64 (z9 + opL l))).drew) := Below.drew (q2 w7 (Below.refl _ _))
              have B9 : Hid (Blk ((((((((((w7.setCell ⟨gf, k * 10, none⟩ (.int .i64 z0)).setCell ⟨gf, k * 10 + 1, none⟩ (.int .i64 z1)).setCell ⟨gf, k * 10 + 2, none⟩ (.int .i64 z2)).setCell ⟨gf, k * 10 + 3, none⟩ (.int .i64 z3)).setCell ⟨gf, k * 10 + 4, none⟩ (.int .i64 z4)).setCell ⟨gf, k * 10 + 5, none⟩ (.int .i64 z5)).setCell ⟨gf, k * 10 + 6, none⟩ (.int .i64 z6)).setCell ⟨gf, k * 10 + 7, none⟩ (.int .i64 z7)).setCell ⟨gf, k * 10 + 8, none⟩ (.int .i64 z8)).setCell ⟨gf, k * 10 + 9, none⟩ (.int .i64 (z9 + opL l))).drew w.heap.size #[.int .i64 W, .slice ah hs.length caph, .slice (some ⟨gt, ot, none⟩) ts.length capt, .int .i64 X] 27) := Blk.kpt (q3 _ _ _ B7.out (by decide)) (Below.drew (Kpt.refl _))
              have KY9 : Hid (KpY w7 ((((((((((w7.setCell ⟨gf, k * 10, none⟩ (.int .i64 z0)).setCell ⟨gf, k * 10 + 1, none⟩ (.int .i64 z1)).setCell ⟨gf, k * 10 + 2, none⟩ (.int .i64 z2)).setCell ⟨gf, k * 10 + 3, none⟩ (.int .i64 z3)).setCell ⟨gf, k * 10 + 4, none⟩ (.int .i64 z4)).setCell ⟨gf, k * 10 + 5, none⟩ (.int .i64 z5)).setCell ⟨gf, k * 10 + 6, none⟩ (.int .i64 z6)).setCell ⟨gf, k * 10 + 7, none⟩ (.int .i64 z7)).setCell ⟨gf, k * 10 + 8, none⟩ (.int .i64 z8)).setCell ⟨gf, k * 10 + 9, none⟩ (.int .i64 (z9 + opL l))).drew) := fun j cs e hj h1 h2 h3 => Blk.kpt (q3 j cs e hj h3) (Below.drew (Kpt.refl _))
              clear q1 q2 q3 CP7
              generalize ((((((((((w7.setCell ⟨gf, k * 10, none⟩ (.int .i64 z0)).setCell ⟨gf, k * 10 + 1, none⟩ (.int .i64 z1)).setCell ⟨gf, k * 10 + 2, none⟩ (.int .i64 z2)).setCell ⟨gf, k * 10 + 3, none⟩ (.int .i64 z3)).setCell ⟨gf, k * 10 + 4, none⟩ (.int .i64 z4)).setCell ⟨gf, k * 10 + 5, none⟩ (.int .i64 z5)).setCell ⟨gf, k * 10 + 6, none⟩ (.int .i64 z6)).setCell ⟨gf, k * 10 + 7, none⟩ (.int .i64 z7)).setCell ⟨gf, k * 10 + 8, none⟩ (.int .i64 z8)).setCell ⟨gf, k * 10 + 9, none⟩ (.int .i64 (z9 + opL l))).drew = w9 at *
              clear p0 p1 p2 p3 p4 p5 p6 p7 p8 p9 r0 r1 r2 r3 r4 r5 r6 r7 r8 r9 e0 e1 e2 e3 e4 e5 e6 e7 e8 e9 s1
              have BP2 : Hid (∀ x ∈ cpoB bk (cmL ps X l), ptB x = true) := cpoB_pt BP.out
              have KW9 : Hid (Kpt wb w9) := (Below.trans KW6.out KB7.out).trans K9.out
              have BW9 : Hid (Below wb.heap.size w w9) := (BW6.out.trans KB7.out).trans K9.out
              go_wp2
              go_roundw
              case rel => exact ⟨k + 1, cpoB bk (cmL ps X l), _, _, by omega, by go_num, HE3.out, HB2.out, BP2.out, by unfold Hid; rw [fsk.out, E3.out, psk.out, E2.out, ← List.append_assoc]; have h := C9.out; rw [hPo.out] at h; exact h, KW9.out, BW9.out, B9.out, ((KY8.out.trans (Kpt.y K6.out)).trans (KpX.y KX7.out)).trans KY9.out⟩
              case measure => simp [intOf]; omega
            · have he := HE2.out
              rw [if_neg hP] at he
              have z0' : (cpoE bk (cmL ps X l) != 0) = true := bne_iff_ne.2 hP
              have HE3 := Lib.hid he
              have HP3 := Lib.hid hP
              clear he hP HE2
              generalize cpoE bk (cmL ps X l) = E9 at *
              go_wp2_with (go_at_call 109; (with_reducible refine CPO.out.mono ?_); rintro x w7 ⟨rfl, hc7, kb7, kx7⟩; have KB7 := Lib.hid kb7; have KX7 := Lib.hid kx7; clear hc7 kb7 kx7)
              go_ret
              exact ⟨ret_int HE3.out, fun h0 => absurd (HE3.out.trans h0) HP3.out, BW6.out.trans KB7.out, (KY8.out.trans (Kpt.y K6.out)).trans (KpX.y KX7.out)⟩
          · obtain ⟨t1, t2, t3⟩ := ten_is (cs := [.int .i64 z0, .int .i64 z1, .int .i64 z2, .int .i64 z3, .int .i64 z4, .int .i64 z5, .int .i64 z6, .int .i64 z7, .int .i64 z8, .int .i64 (z9 + opL l)]) BZ5.out rfl
            have R6 : Hid (Blk ((((((((((w5.setCell ⟨w8.heap.size, 0, none⟩ (.int .i64 z0)).setCell ⟨w8.heap.size, 1, none⟩ (.int .i64 z1)).setCell ⟨w8.heap.size, 2, none⟩ (.int .i64 z2)).setCell ⟨w8.heap.size, 3, none⟩ (.int .i64 z3)).setCell ⟨w8.heap.size, 4, none⟩ (.int .i64 z4)).setCell ⟨w8.heap.size, 5, none⟩ (.int .i64 z5)).setCell ⟨w8.heap.size, 6, none⟩ (.int .i64 z6)).setCell ⟨w8.heap.size, 7, none⟩ (.int .i64 z7)).setCell ⟨w8.heap.size, 8, none⟩ (.int .i64 z8)).setCell ⟨w8.heap.size, 9, none⟩ (.int .i64 (z9 + opL l))) w8.heap.size #[.int .i64 z0, .int .i64 z1, .int .i64 z2, .int .i64 z3, .int .i64 z4, .int .i64 z5, .int .i64 z6, .int .i64 z7, .int .i64 z8, .int .i64 (z9 + opL l)] 42) := t1
            have K6 : Hid (Kpt w8 ((((((((((w5.setCell ⟨w8.heap.size, 0, none⟩ (.int .i64 z0)).setCell ⟨w8.heap.size, 1, none⟩ (.int .i64 z1)).setCell ⟨w8.heap.size, 2, none⟩ (.int .i64 z2)).setCell ⟨w8.heap.size, 3, none⟩ (.int .i64 z3)).setCell ⟨w8.heap.size, 4, none⟩ (.int .i64 z4)).setCell ⟨w8.heap.size, 5, none⟩ (.int .i64 z5)).setCell ⟨w8.heap.size, 6, none⟩ (.int .i64 z6)).setCell ⟨w8.heap.size, 7, none⟩ (.int .i64 z7)).setCell ⟨w8.heap.size, 8, none⟩ (.int .i64 z8)).setCell ⟨w8.heap.size, 9, none⟩ (.int .i64 (z9 + opL l)))) := t2 _ _ K5.out (Nat.le_refl _)
            have RV6 : Hid (OwnsP ((((((((((w5.setCell ⟨w8.heap.size, 0, none⟩ (.int .i64 z0)).setCell ⟨w8.heap.size, 1, none⟩ (.int .i64 z1)).setCell ⟨w8.heap.size, 2, none⟩ (.int .i64 z2)).setCell ⟨w8.heap.size, 3, none⟩ (.int .i64 z3)).setCell ⟨w8.heap.size, 4, none⟩ (.int .i64 z4)).setCell ⟨w8.heap.size, 5, none⟩ (.int .i64 z5)).setCell ⟨w8.heap.size, 6, none⟩ (.int .i64 z6)).setCell ⟨w8.heap.size, 7, none⟩ (.int .i64 z7)).setCell ⟨w8.heap.size, 8, none⟩ (.int .i64 z8)).setCell ⟨w8.heap.size, 9, none⟩ (.int .i64 (z9 + opL l))) 0 (.slice a5 (cmL ps X l).length cap5) (cmL ps X l)) := t3 RV.out
            clear t1 t2 t3 BZ5 bz0 bz1 bz2 bz3 bz4 bz5 bz6 bz7 bz8 bz9 bf0 bf1 bf2 bf3 bf4 bf5 bf6 bf7 bf8 bf9 RV K5
            generalize ((((((((((w5.setCell ⟨w8.heap.size, 0, none⟩ (.int .i64 z0)).setCell ⟨w8.heap.size, 1, none⟩ (.int .i64 z1)).setCell ⟨w8.heap.size, 2, none⟩ (.int .i64 z2)).setCell ⟨w8.heap.size, 3, none⟩ (.int .i64 z3)).setCell ⟨w8.heap.size, 4, none⟩ (.int .i64 z4)).setCell ⟨w8.heap.size, 5, none⟩ (.int .i64 z5)).setCell ⟨w8.heap.size, 6, none⟩ (.int .i64 z6)).setCell ⟨w8.heap.size, 7, none⟩ (.int .i64 z7)).setCell ⟨w8.heap.size, 8, none⟩ (.int .i64 z8)).setCell ⟨w8.heap.size, 9, none⟩ (.int .i64 (z9 + opL l))) = w6 at *
            have C6 := Lib.hid (C8.out.kpt K6.out)
            have KW6 := Lib.hid (ktr KW8.out K6.out)
            have BW6 : Hid (Below wb.heap.size w w6) := BW8.out.trans (K6.out.mono (Nat.le_trans (Nat.le_refl _) KW8.out.size))
            have B6 := Lib.hid (B8.out.kpt K6.out)
            have CPO := Lib.hid (cpost_any wb.heap.size g _ _ T _ _ _ _ (fsK W hs ts T fs k) bk _ (cmL ps X l) w6 C6.out BP.out (OwnsP.reads RV6.out (inP_of CPT.out)) LEN.out)
            by_cases hP : cpoE bk (cmL ps X l) = 0
            · have he := HE2.out
              rw [if_pos hP] at he
              rw [hP] at CPO
              have HE3 := Lib.hid he
              have hPo := Lib.hid (cpoP_ok hP)
              clear he hP HE2
              go_upto_region 14 with (go_at_call 109; (with_reducible refine CPO.out.mono ?_); rintro x w7 ⟨rfl, hc7, kb7, kx7⟩; obtain ⟨bv7, pv7, hc7⟩ := hc7 rfl; have C7 := Lib.hid hc7; have KB7 := Lib.hid kb7; have KX7 := Lib.hid kx7; have R7 := Lib.hid (kx7.2 _ _ _ R6.out (by decide) (by decide)); have B7 := Lib.hid (kx7.2 _ _ _ B6.out (by decide) (by decide)); clear hc7 kb7 kx7)
              obtain ⟨gc, hgc⟩ : ∃ cur, Blk w7 gf cur 42 := row_blk C7.out.of (k := gf) (by simp [Value.ownBlock])
              have hcf7 : ∀ j, j < 10 → w7.cell? ⟨gf, k * 10 + j, none⟩ = some (.int .i64 (((fsK W hs ts T fs k).getD k []).getD j 0)) := by
                obtain ⟨a', cap', e, -, hc⟩ := C7.out.of.cells
                obtain ⟨g', e', h'⟩ := hc k (by rw [FL.out]; exact hlt)
                simp only [Value.slice.injEq] at e
                have e9 := e.1.trans e'
                simp only [Option.some.injEq, Addr.mk.injEq] at e9
                obtain ⟨rfl, -, -⟩ := e9
                exact h'
              obtain ⟨p0, p1, p2, p3, p4, p5, p6, p7, p8, p9⟩ := fl_at hcf7
              have r0 : World.frozen? w7 ⟨gf, k * 10, none⟩ = false := Blk.frozen hgc (k * 10)
              have r1 : World.frozen? w7 ⟨gf, k * 10 + 1, none⟩ = false := Blk.frozen hgc (k * 10 + 1)
              have r2 : World.frozen? w7 ⟨gf, k * 10 + 2, none⟩ = false := Blk.frozen hgc (k * 10 + 2)
              have r3 : World.frozen? w7 ⟨gf, k * 10 + 3, none⟩ = false := Blk.frozen hgc (k * 10 + 3)
              have r4 : World.frozen? w7 ⟨gf, k * 10 + 4, none⟩ = false := Blk.frozen hgc (k * 10 + 4)
              have r5 : World.frozen? w7 ⟨gf, k * 10 + 5, none⟩ = false := Blk.frozen hgc (k * 10 + 5)
              have r6 : World.frozen? w7 ⟨gf, k * 10 + 6, none⟩ = false := Blk.frozen hgc (k * 10 + 6)
              have r7 : World.frozen? w7 ⟨gf, k * 10 + 7, none⟩ = false := Blk.frozen hgc (k * 10 + 7)
              have r8 : World.frozen? w7 ⟨gf, k * 10 + 8, none⟩ = false := Blk.frozen hgc (k * 10 + 8)
              have r9 : World.frozen? w7 ⟨gf, k * 10 + 9, none⟩ = false := Blk.frozen hgc (k * 10 + 9)
              have s1 : World.cell? w7 ⟨g, 1, none⟩ = some (.slice (some ⟨gf, 0, none⟩) fs.length capf) := C7.out.blk.cell 1
              have e0 : World.cell? w7 ⟨w8.heap.size, 0, none⟩ = some (.int .i64 z0) := R7.out.cell 0
              have e1 : World.cell? w7 ⟨w8.heap.size, 1, none⟩ = some (.int .i64 z1) := R7.out.cell 1
              have e2 : World.cell? w7 ⟨w8.heap.size, 2, none⟩ = some (.int .i64 z2) := R7.out.cell 2
              have e3 : World.cell? w7 ⟨w8.heap.size, 3, none⟩ = some (.int .i64 z3) := R7.out.cell 3
              have e4 : World.cell? w7 ⟨w8.heap.size, 4, none⟩ = some (.int .i64 z4) := R7.out.cell 4
              have e5 : World.cell? w7 ⟨w8.heap.size, 5, none⟩ = some (.int .i64 z5) := R7.out.cell 5
              have e6 : World.cell? w7 ⟨w8.heap.size, 6, none⟩ = some (.int .i64 z6) := R7.out.cell 6
              have e7 : World.cell? w7 ⟨w8.heap.size, 7, none⟩ = some (.int .i64 z7) := R7.out.cell 7
              have e8 : World.cell? w7 ⟨w8.heap.size, 8, none⟩ = some (.int .i64 z8) := R7.out.cell 8
              have e9 : World.cell? w7 ⟨w8.heap.size, 9, none⟩ = some (.int .i64 (z9 + opL l)) := R7.out.cell 9
              clear hcf7 hgc
              generalize (fsK W hs ts T fs k).getD k [] = l7 at p0 p1 p2 p3 p4 p5 p6 p7 p8 p9
              have cp := clerk_put (l := payF l) C7.out (k := k) (by rw [FL.out]; exact hlt)
              rw [RW.out] at cp
              have CP7 := Lib.hid cp
              clear cp
              go_region
              obtain ⟨q1, q2, q3⟩ := CP7.out
              have C9 : Hid (ClerkIs ((((((((((w7.setCell ⟨gf, k * 10, none⟩ (.int .i64 z0)).setCell ⟨gf, k * 10 + 1, none⟩ (.int .i64 z1)).setCell ⟨gf, k * 10 + 2, none⟩ (.int .i64 z2)).setCell ⟨gf, k * 10 + 3, none⟩ (.int .i64 z3)).setCell ⟨gf, k * 10 + 4, none⟩ (.int .i64 z4)).setCell ⟨gf, k * 10 + 5, none⟩ (.int .i64 z5)).setCell ⟨gf, k * 10 + 6, none⟩ (.int .i64 z6)).setCell ⟨gf, k * 10 + 7, none⟩ (.int .i64 z7)).setCell ⟨gf, k * 10 + 8, none⟩ (.int .i64 z8)).setCell ⟨gf, k * 10 + 9, none⟩ (.int .i64 (z9 + opL l))).drew wb.heap.size g T (.slice (some ⟨gf, 0, none⟩) fs.length capf) bv7 pv7 ((fsK W hs ts T fs k).set k (payF l)) (cpoB bk (cmL ps X l)) ((p ++ cmP W hs ts ps X T (fs.take k)) ++ cpoP bk (cmL ps X l))) := ClerkIs.kpt q1 (Below.drew (Kpt.refl _))
              have K9 : Hid (Below wb.heap.size w7 ((((((((((w7.setCell ⟨gf, k * 10, none⟩ (.int .i64 z0)).setCell ⟨gf, k * 10 + 1, none⟩ (.int .i64 z1)).setCell ⟨gf, k * 10 + 2, none⟩ (.int .i64 z2)).setCell ⟨gf, k * 10 + 3, none⟩ (.int .i64 z3)).setCell ⟨gf, k * 10 + 4, none⟩ (.int .i64 z4)).setCell ⟨gf, k * 10 + 5, none⟩ (.int .i64 z5)).setCell ⟨gf, k * 10 + 6, none⟩ (.int .i64 z6)).setCell ⟨gf, k * 10 + 7, none⟩ (.int .i64 z7)).setCell ⟨gf, k * 10 + 8, none⟩ (.int .i64 z8)).setCell ⟨gf, k * 10 + 9, none⟩ (.int .i64 (z9 + opL l))).drew) := Below.drew (q2 w7 (Below.refl _ _))
              have B9 : Hid (Blk ((((((((((w7.setCell ⟨gf, k * 10, none⟩ (.int .i64 z0)).setCell ⟨gf, k * 10 + 1, none⟩ (.int .i64 z1)).setCell ⟨gf, k * 10 + 2, none⟩ (.int .i64 z2)).setCell ⟨gf, k * 10 + 3, none⟩ (.int .i64 z3)).setCell ⟨gf, k * 10 + 4, none⟩ (.int .i64 z4)).setCell ⟨gf, k * 10 + 5, none⟩ (.int .i64 z5)).setCell ⟨gf, k * 10 + 6, none⟩ (.int .i64 z6)).setCell ⟨gf, k * 10 + 7, none⟩ (.int .i64 z7)).setCell ⟨gf, k * 10 + 8, none⟩ (.int .i64 z8)).setCell ⟨gf, k * 10 + 9, none⟩ (.int .i64 (z9 + opL l))).drew w.heap.size #[.int .i64 W, .slice ah hs.length caph, .slice (some ⟨gt, ot, none⟩) ts.length capt, .int .i64 X] 27) := Blk.kpt (q3 _ _ _ B7.out (by decide)) (Below.drew (Kpt.refl _))
              have KY9 : Hid (KpY w7 ((((((((((w7.setCell ⟨gf, k * 10, none⟩ (.int .i64 z0)).setCell ⟨gf, k * 10 + 1, none⟩ (.int .i64 z1)).setCell ⟨gf, k * 10 + 2, none⟩ (.int .i64 z2)).setCell ⟨gf, k * 10 + 3, none⟩ (.int .i64 z3)).setCell ⟨gf, k * 10 + 4, none⟩ (.int .i64 z4)).setCell ⟨gf, k * 10 + 5, none⟩ (.int .i64 z5)).setCell ⟨gf, k * 10 + 6, none⟩ (.int .i64 z6)).setCell ⟨gf, k * 10 + 7, none⟩ (.int .i64 z7)).setCell ⟨gf, k * 10 + 8, none⟩ (.int .i64 z8)).setCell ⟨gf, k * 10 + 9, none⟩ (.int .i64 (z9 + opL l))).drew) := fun j cs e hj h1 h2 h3 => Blk.kpt (q3 j cs e hj h3) (Below.drew (Kpt.refl _))
              clear q1 q2 q3 CP7
              generalize ((((((((((w7.setCell ⟨gf, k * 10, none⟩ (.int .i64 z0)).setCell ⟨gf, k * 10 + 1, none⟩ (.int .i64 z1)).setCell ⟨gf, k * 10 + 2, none⟩ (.int .i64 z2)).setCell ⟨gf, k * 10 + 3, none⟩ (.int .i64 z3)).setCell ⟨gf, k * 10 + 4, none⟩ (.int .i64 z4)).setCell ⟨gf, k * 10 + 5, none⟩ (.int .i64 z5)).setCell ⟨gf, k * 10 + 6, none⟩ (.int .i64 z6)).setCell ⟨gf, k * 10 + 7, none⟩ (.int .i64 z7)).setCell ⟨gf, k * 10 + 8, none⟩ (.int .i64 z8)).setCell ⟨gf, k * 10 + 9, none⟩ (.int .i64 (z9 + opL l))).drew = w9 at *
              clear p0 p1 p2 p3 p4 p5 p6 p7 p8 p9 r0 r1 r2 r3 r4 r5 r6 r7 r8 r9 e0 e1 e2 e3 e4 e5 e6 e7 e8 e9 s1
              have BP2 : Hid (∀ x ∈ cpoB bk (cmL ps X l), ptB x = true) := cpoB_pt BP.out
              have KW9 : Hid (Kpt wb w9) := (Below.trans KW6.out KB7.out).trans K9.out
              have BW9 : Hid (Below wb.heap.size w w9) := (BW6.out.trans KB7.out).trans K9.out
              go_wp2
              go_roundw
              case rel => exact ⟨k + 1, cpoB bk (cmL ps X l), _, _, by omega, by go_num, HE3.out, HB2.out, BP2.out, by unfold Hid; rw [fsk.out, E3.out, psk.out, E2.out, ← List.append_assoc]; have h := C9.out; rw [hPo.out] at h; exact h, KW9.out, BW9.out, B9.out, ((KY8.out.trans (Kpt.y K6.out)).trans (KpX.y KX7.out)).trans KY9.out⟩
              case measure => simp [intOf]; omega
            · have he := HE2.out
              rw [if_neg hP] at he
              have z0' : (cpoE bk (cmL ps X l) != 0) = true := bne_iff_ne.2 hP
              have HE3 := Lib.hid he
              have HP3 := Lib.hid hP
              clear he hP HE2
              generalize cpoE bk (cmL ps X l) = E9 at *
              go_wp2_with (go_at_call 109; (with_reducible refine CPO.out.mono ?_); rintro x w7 ⟨rfl, hc7, kb7, kx7⟩; have KB7 := Lib.hid kb7; have KX7 := Lib.hid kx7; clear hc7 kb7 kx7)
              go_ret
              exact ⟨ret_int HE3.out, fun h0 => absurd (HE3.out.trans h0) HP3.out, BW6.out.trans KB7.out, (KY8.out.trans (Kpt.y K6.out)).trans (KpX.y KX7.out)⟩
        · have y4 : (stL W hs (tlOf ts l) l T != 4) = true := bne_iff_ne.2 h4
          rw [if_neg h4] at he
          have hb := HBB.out
          rw [if_neg h4] at hb
          have HE2 := Lib.hid he
          have HB2 := Lib.hid hb
          have e1 := Lib.hid (fm.out h4)
          have e2 := Lib.hid (HCM.out h4)
          clear he hb hL h4
          go_wp2
          go_roundw
          case rel => exact ⟨k + 1, bk, _, _, by omega, by go_num, HE2.out, HB2.out, BP.out, by unfold Hid; rw [e1.out, psk.out, e2.out, List.append_nil]; exact C8.out, KW8.out, BW8.out, B8.out, KY8.out⟩
          case measure => simp [intOf]; omega
      · have yL : (lkL W hs (tlOf ts l) l T != 0) = true := bne_iff_ne.2 hL
        have he := HEE.out
        rw [if_neg hL] at he
        have HE2 := Lib.hid he
        have HL := Lib.hid hL
        clear he hL
        go_wp2
        go_ret
        exact ⟨ret_int HE2.out, fun h0 => absurd (HE2.out.trans h0) HL.out, BW8.out, KY8.out⟩
    · have hkl : k = fs.length := by omega
      have y1 : decide ((k : Int) < (fs.length : Int)) = false := decide_eq_false (by omega)
      have he := HE.out
      have hb := HB.out
      have hc := HC.out
      rw [hkl, DA.out] at he hb
      rw [hkl, FN.out, PN.out] at hc
      have E0 : Hid (E = 0) := he.symm
      have BB : Hid (bk = BF) := hb
      have HC2 := Lib.hid hc
      clear he hb hc hkl HE HB HC
      go_wp2
      go_ret
      exact ⟨ret_int E0.out.symm, fun _ => ⟨_, _, by rw [← BB.out]; exact HC2.out⟩, HW.out, HY.out⟩

end Go.Proofs.YthaahebggboliaaGreat

-- CycH
namespace Go.Proofs.YthaahebggboliaaGreat
open Go.RowKit Go.Sort Go.Lib
set_option linter.unusedVariables false

/-- the book behind the penalties of a day -/
def pnB (W : Int) (hs : List Int) (ts fs : List (List Int)) (ps : List Int) (T : Int) (b : List (Int × Int × Int)) : List (Int × Int × Int) := cpoB b (pnL W hs ts fs ps T)
/-- the error of a night, by rules and on a world that are right -/
def nigE (W : Int) (hs : List Int) (ts : List (List Int)) (X : Int) (fs : List (List Int)) (ps : List Int) (T : Int) (b : List (Int × Int × Int)) : Int :=
  if pnE W hs ts fs ps T b = 0 then (if cmE W hs ts ps X T fs (pnB W hs ts fs ps T b) = 0 then steE W hs T 1 else cmE W hs ts ps X T fs (pnB W hs ts fs ps T b)) else pnE W hs ts fs ps T b
/-- the book behind a night, and what is posted -/
def nigB (W : Int) (hs : List Int) (ts : List (List Int)) (X : Int) (fs : List (List Int)) (ps : List Int) (T : Int) (b : List (Int × Int × Int)) : List (Int × Int × Int) := cmB W hs ts ps X T fs (pnB W hs ts fs ps T b)
def nigP (W : Int) (hs : List Int) (ts : List (List Int)) (X : Int) (fs : List (List Int)) (ps : List Int) (T : Int) (b : List (Int × Int × Int)) : List (Int × Int × Int) := cpoP b (pnL W hs ts fs ps T) ++ cmP W hs ts ps X T fs
theorem pn_day {W : Int} {hs : List Int} {ts fs : List (List Int)} {ps : List Int} {T : Int} {b : List (Int × Int × Int)} (h : pnE W hs ts fs ps T b = 0) : dayE W hs ts fs ps T = 0 := by
  unfold pnE at h
  split at h
  · assumption
  · next h' => exact absurd h h'
theorem day_0 {W : Int} {hs : List Int} {ts fs : List (List Int)} {ps : List Int} {T : Int} (h : dayE W hs ts fs ps T = 0) : calE W hs = 0 ∧ clsE ts = 0 ∧ checksE fs = 0 ∧ prsE ps = 0 ∧ tdyE W hs T = 0 ∧ pdE W hs ts T fs = 0 := by
  obtain ⟨h1, h2⟩ := orE_0 h
  obtain ⟨h3, h4⟩ := orE_0 h1
  obtain ⟨h5, h6⟩ := orE_0 h4
  obtain ⟨h7, h8⟩ := orE_0 h6
  obtain ⟨h9, h10⟩ := orE_0 h8
  exact ⟨h3, h5, h7, h9, h10, h2⟩
theorem clerk_today {w : World} {base g : Nat} {T T' : Int} {fv bv pv : Value} {fs : List (List Int)} {b p : List (Int × Int × Int)} (h : ClerkIs w base g T fv bv pv fs b p) : ClerkIs (w.setCell ⟨g, 0, none⟩ (.int .i64 T')) base g T' fv bv pv fs b p :=
  ⟨h.ge, Blk.put h.blk 0 _, row_away h.of h.blk (by decide) _ _, row_away h.ob h.blk (by decide) _ _, row_away h.op h.blk (by decide) _ _, h.ap⟩

set_option maxRecDepth 100000 in
set_option maxHeartbeats 4000000 in
theorem night_run (wb : World) (g : Nat) (W X T : Int) (hv tv pcv fv bv pv : Value) (hs ps : List Int) (ts fs : List (List Int)) (b : List (Int × Int × Int)) (w : World) (hC : ClerkIs w wb.heap.size g T fv bv pv fs b []) (hK : Kpt wb w) (hbp : ∀ x ∈ b, ptB x = true)
    (hr : Reads wb hv hs) (hf : Fits hs) (ht : ReadsT wb tv ts) (hpr : Reads wb pcv ps) (hfb : ∀ l ∈ fs, FlB l) (hX : 0 ≤ X ∧ X ≤ 10000) :
    Calls Tryz.prog 38 #[.pointer (some ⟨g, 0, none⟩), .agg #[.int .i64 W, hv, tv, .int .i64 X], pcv] w (CmRes w wb.heap.size g (nigE W hs ts X fs ps T b) (steR W hs T 1) fv (cmF W hs ts T fs) (nigB W hs ts X fs ps T b) (nigP W hs ts X fs ps T b)) := by
  have PN := Lib.hid (fun w' (k : Kpt w w') => penalize_run wb.heap.size g W X T hv tv pcv fv bv pv hs ps ts fs b [] w' (hC.kpt k) hbp (by simp) hfb (hr.kpt (ktr hK k)) hf (ht.kpt (ktr hK k)) (hpr.kpt (ktr hK k)))
  have SP := Lib.hid (fun w' (k : Kpt wb w') => step_any W T 1 hv hs w' (hr.kpt k) hf)
  have HBP : Hid (∀ x ∈ pnB W hs ts fs ps T b, ptB x = true) := cpoB_pt hbp
  have CM := Lib.hid (fun (h0 : dayE W hs ts fs ps T = 0) w' fv' bv' pv' p (hC' : ClerkIs w' wb.heap.size g T fv' bv' pv' fs (pnB W hs ts fs ps T b) p) (hp : p.length ≤ 99000) (k : Kpt wb w') => compensate_run wb g W X T hv tv pcv fv' bv' pv' hs ps ts fs (pnB W hs ts fs ps T b) p w' hC' k HBP.out hp hr hf ht hpr (day_0 h0).2.2.1 (clsE_0 (day_0 h0).2.1) (prsE_0 (day_0 h0).2.2.2.1).1 (fun j hj => (prsE_0 (day_0 h0).2.2.2.1).2 _ (by
    have h20 := (prsE_0 (day_0 h0).2.2.2.1).1
    rw [List.getD_eq_getElem?_getD, List.getElem?_eq_getElem (by omega)]; simp)) hX)
  have PL : Hid ((cpoP b (pnL W hs ts fs ps T)).length ≤ 99000) := by
    unfold Hid cpoP
    have h1 : (pnL W hs ts fs ps T).length ≤ 31 := by
      unfold pnL
      split
      · exact sumD_len _
      · simp
    split
    · simp
    · split
      · omega
      · simp
  have K0 : Hid (Kpt w (w.alloc (.cells #[.int .i64 W, hv, tv, .int .i64 X] 27))) := (Kpt.refl w).alloc _
  have B0 : Hid (Blk (w.alloc (.cells #[.int .i64 W, hv, tv, .int .i64 X] 27)) w.heap.size #[.int .i64 W, hv, tv, .int .i64 X] 27) := Blk.made w _ _
  have HB : Hid (wb.heap.size ≤ w.heap.size) := hK.size
  have HK := Lib.hid hK
  have NE : Hid (nigE W hs ts X fs ps T b = if pnE W hs ts fs ps T b = 0 then (if cmE W hs ts ps X T fs (pnB W hs ts fs ps T b) = 0 then steE W hs T 1 else cmE W hs ts ps X T fs (pnB W hs ts fs ps T b)) else pnE W hs ts fs ps T b) := rfl
  have mixed : Tryz.prog.follows .mixedOrders = true := by kernel_rfl
  obtain ⟨ah, caph, rfl, -⟩ := id hr
  obtain ⟨at', capt, rfl, -⟩ := id ht
  obtain ⟨ap, capp, rfl, -⟩ := id hpr
  unfold calV at SP
  clear hC hK hbp hr hf ht hpr hfb hX HBP
  by_cases h1 : pnE W hs ts fs ps T b = 0
  · have hd := pn_day h1
    have ne := NE.out
    rw [if_pos h1] at ne
    have CM := Lib.hid (CM.out hd)
    rw [h1] at PN
    by_cases h2 : cmE W hs ts ps X T fs (pnB W hs ts fs ps T b) = 0
    · rw [if_pos h2] at ne
      rw [h2] at CM
      rw [ne]
      have H2 := Lib.hid h2
      clear ne NE h1 h2 hd
      generalize cmF W hs ts T fs = cf at *
      generalize nigE W hs ts X fs ps T b = ne at *
      go_enter Tryz.func38, Tryz.ntmps38
      go_upto_region 7 with (first
        | (go_at_call 87; (with_reducible refine (PN.out _ K0.out).mono ?_); rintro x w1 ⟨rfl, hc1, kb, kx⟩; obtain ⟨bv1, pv1, hc1⟩ := hc1 rfl; have C1 := Lib.hid hc1; have KB1 : Hid (Below wb.heap.size w w1) := (K0.out.mono HB.out).trans kb; have KY1 : Hid (KpY w w1) := (Kpt.y K0.out).trans (KpX.y kx); have KW1 : Hid (Kpt wb w1) := Below.trans HK.out KB1.out; have B1 := Lib.hid (kx.2 _ _ _ B0.out (by decide) (by decide)); have b0 : World.cell? w1 ⟨w.heap.size, 0, none⟩ = some (.int .i64 W) := B1.out.cell 0; have b1 : World.cell? w1 ⟨w.heap.size, 1, none⟩ = some (.slice ah hs.length caph) := B1.out.cell 1; have b2 : World.cell? w1 ⟨w.heap.size, 2, none⟩ = some (.slice at' ts.length capt) := B1.out.cell 2; have b3 : World.cell? w1 ⟨w.heap.size, 3, none⟩ = some (.int .i64 X) := B1.out.cell 3; clear hc1 kb kx)
        | (go_at_call 88; (with_reducible refine (CM.out _ _ _ _ _ C1.out PL.out KW1.out).mono ?_); rintro x w2 ⟨rfl, hc2, kb, ky⟩; obtain ⟨bv2, pv2, hc2⟩ := hc2 rfl; have C2 := Lib.hid hc2; have KB2 : Hid (Below wb.heap.size w w2) := KB1.out.trans kb; have KY2 : Hid (KpY w w2) := KY1.out.trans ky; have KW2 : Hid (Kpt wb w2) := Below.trans HK.out KB2.out; have B2 := Lib.hid (ky _ _ _ B1.out (by decide) (by decide) (by decide)); clear hc2 kb ky b0 b1 b2 b3))
      have t0 := cell_k (q := w2) (a := ⟨g, 0, none⟩) (v := .int .i64 T) (C2.out.blk.cell 0)
      have g0 := cell_k (q := w2) (a := ⟨w.heap.size, 0, none⟩) (v := .int .i64 W) (B2.out.cell 0)
      have g1 := cell_k (q := w2) (a := ⟨w.heap.size, 1, none⟩) (v := .slice ah hs.length caph) (B2.out.cell 1)
      have SPq := Lib.hid (fun p : KptTo w2 => SP.out p.w (ktr KW2.out p.h))
      refine quiet_k (q := w2) mixed (by kernel_rfl) ?_
      repeat (go_big_quiet_step ((go_at_call 89; with_reducible refine calls_k (SPq.out _))))
      refine wpQuiet_nil ?_
      intro w8 hw1
      obtain ⟨⟨wz, kz⟩, hw2⟩ := hw1
      have hw3 : w8 = wz := hw2
      clear hw2
      subst hw3
      have C8 := Lib.hid (C2.out.kpt kz)
      have KB8 : Hid (Below wb.heap.size w w8) := KB2.out.trans (kz.mono KW2.out.size)
      have KY8 : Hid (KpY w w8) := KY2.out.trans (Kpt.y kz)
      clear kz t0 g0 g1 SPq
      by_cases h3 : steE W hs T 1 = 0
      · have z0 : (steE W hs T 1 != 0) = false := by rw [h3]; rfl
        have f0 : World.frozen? w8 ⟨g, 0, none⟩ = false := Blk.frozen C8.out.blk 0
        have s0 : World.cell? w8 ⟨g, 0, none⟩ = some (.int .i64 T) := C8.out.blk.cell 0
        have H3 := Lib.hid h3
        clear h3
        go_wp2
        go_ret
        exact ⟨ret_int H3.out.symm, fun _ => ⟨_, _, clerk_today C8.out⟩, Below.setCell KB8.out C8.out.ge _, KY8.out.trans (fun j cs e hj h1 h2 h3 => Blk.away hj (p := ⟨g, 0, none⟩) (fun q => h1 (by
          have q' : j = g := q
          subst q'
          have a : w8.heap[j]? = some (.cells cs e (0, 0)) := hj
          rw [show w8.heap[j]? = _ from C8.out.blk] at a
          cases a; rfl)) _)⟩
      · have z0 : (steE W hs T 1 != 0) = true := bne_iff_ne.2 h3
        have H3 := Lib.hid h3
        clear h3
        go_wp2
        go_ret
        exact ⟨rfl, fun h => absurd h H3.out, KB8.out, KY8.out⟩
    · rw [if_neg h2] at ne
      have z0 : (cmE W hs ts ps X T fs (pnB W hs ts fs ps T b) != 0) = true := bne_iff_ne.2 h2
      have H2 := Lib.hid h2
      rw [ne]
      clear ne NE h1 h2 hd SP
      generalize cmE W hs ts ps X T fs (pnB W hs ts fs ps T b) = E at *
      go_enter Tryz.func38, Tryz.ntmps38
      go_wp2_with (first
        | (go_at_call 87; (with_reducible refine (PN.out _ K0.out).mono ?_); rintro x w1 ⟨rfl, hc1, kb, kx⟩; obtain ⟨bv1, pv1, hc1⟩ := hc1 rfl; have C1 := Lib.hid hc1; have KB1 : Hid (Below wb.heap.size w w1) := (K0.out.mono HB.out).trans kb; have KY1 : Hid (KpY w w1) := (Kpt.y K0.out).trans (KpX.y kx); have KW1 : Hid (Kpt wb w1) := Below.trans HK.out KB1.out; have B1 := Lib.hid (kx.2 _ _ _ B0.out (by decide) (by decide)); have b0 : World.cell? w1 ⟨w.heap.size, 0, none⟩ = some (.int .i64 W) := B1.out.cell 0; have b1 : World.cell? w1 ⟨w.heap.size, 1, none⟩ = some (.slice ah hs.length caph) := B1.out.cell 1; have b2 : World.cell? w1 ⟨w.heap.size, 2, none⟩ = some (.slice at' ts.length capt) := B1.out.cell 2; have b3 : World.cell? w1 ⟨w.heap.size, 3, none⟩ = some (.int .i64 X) := B1.out.cell 3; clear hc1 kb kx)
        | (go_at_call 88; (with_reducible refine (CM.out _ _ _ _ _ C1.out PL.out KW1.out).mono ?_); rintro x w2 ⟨rfl, hc2, kb, ky⟩; have KB2 : Hid (Below wb.heap.size w w2) := KB1.out.trans kb; have KY2 : Hid (KpY w w2) := KY1.out.trans ky; have KW2 : Hid (Kpt wb w2) := Below.trans HK.out KB2.out; have B2 := Lib.hid (ky _ _ _ B1.out (by decide) (by decide) (by decide)); clear hc2 kb ky b0 b1 b2 b3))
      go_ret
      exact ⟨rfl, fun h => absurd h H2.out, KB2.out, KY2.out⟩
  · have ne := NE.out
    rw [if_neg h1] at ne
    rw [ne]
    have z0 : (pnE W hs ts fs ps T b != 0) = true := bne_iff_ne.2 h1
    have H1 := Lib.hid h1
    clear ne NE h1 CM SP
    generalize pnE W hs ts fs ps T b = E at *
    generalize nigB W hs ts X fs ps T b = nb at *
    generalize nigP W hs ts X fs ps T b = np at *
    go_enter Tryz.func38, Tryz.ntmps38
    go_wp2_with (go_at_call 87; (with_reducible refine (PN.out _ K0.out).mono ?_); rintro x w1 ⟨rfl, -, kb, kx⟩; have KB := Lib.hid kb; have KX := Lib.hid kx; clear kb kx)
    go_ret
    exact ⟨rfl, fun h => absurd h H1.out, (K0.out.mono HB.out).trans KB.out, (Kpt.y K0.out).trans (KpX.y KX.out)⟩

end Go.Proofs.YthaahebggboliaaGreat

-- CycI
namespace Go.Proofs.YthaahebggboliaaGreat
open Go.RowKit Go.Sort Go.Lib
set_option linter.unusedVariables false

theorem Tryz.sizeWorld : (Tryz.prog.info? 31).map (·.size) = some 3 := by kernel_rfl
theorem wp_storeW {ops : Array Oper} {rest : List Oper} {o : Oper} {a : Act} {w : World} {Q : Exit → Act → World → Prop} (hgd : o.guard = none) (x y : Operand) (ho : o.op = .store 31 x y)
    (g : Nat) (cs old : Array Value) (hx : a.eval x = .pointer (some ⟨g, 0, none⟩)) (hy : a.eval y = .agg cs) (hg : Blk w g old 31) (hs : old.size = 3) (hc : cs.size = 3) (h1 : cs.all (·.oneCell') = true)
    (h : ∀ w', Blk w' g cs 31 → (∀ B w0, Below B w0 w → B ≤ g → Below B w0 w') → (∀ k, k ≠ g → w'.heap[k]? = w.heap[k]?) → wpList Tryz.prog ops Q rest (a.put o.dst undef) w') : wpList Tryz.prog ops Q (o :: rest) a w :=
  wpList_store_row hgd _ x y ho g cs hx hy _ old hg (by rw [hc]; exact Tryz.sizeWorld) (by omega) h1 (h _ (setRow_heap w g old cs _ _ hg) (fun B w0 hb hB => below_setRow hb hB cs) (fun k hk => setRow_other w g k cs hk))
theorem results_W2 {fn : Func} {p q : Tmp} (h : fn.results = #[.cell p 31, .tmp q]) (tmps : Array Value) (w : World) (g : Nat) (cs : Array Value) (z : Value)
    (hp : tmps.getD p undef = .pointer (some ⟨g, 0, none⟩)) (hq : tmps.getD q undef = z) (hg : Blk w g cs 31) (hc : cs.size = 3) : (results fn tmps).run Tryz.prog w = .ok (.tuple #[.agg cs, z]) w := by
  have hp' : tmps[p]?.getD undef = .pointer (some ⟨g, 0, none⟩) := by simpa using hp
  have hq' : tmps[q]?.getD undef = z := by simpa using hq
  have hl := run_loadVar_row (P := Tryz.prog) w g 31 31 cs (0, 0) _ hg Tryz.underlying31 rfl (by rw [hc]; exact Tryz.sizeWorld)
  simp [results, h, hp', hq', asAddr, hl]
theorem results_W3 {fn : Func} {p q r : Tmp} (h : fn.results = #[.cell p 31, .tmp q, .tmp r]) (tmps : Array Value) (w : World) (g : Nat) (cs : Array Value) (z y : Value)
    (hp : tmps.getD p undef = .pointer (some ⟨g, 0, none⟩)) (hq : tmps.getD q undef = z) (hr : tmps.getD r undef = y) (hg : Blk w g cs 31) (hc : cs.size = 3) : (results fn tmps).run Tryz.prog w = .ok (.tuple #[.agg cs, z, y]) w := by
  have hp' : tmps[p]?.getD undef = .pointer (some ⟨g, 0, none⟩) := by simpa using hp
  have hq' : tmps[q]?.getD undef = z := by simpa using hq
  have hr' : tmps[r]?.getD undef = y := by simpa using hr
  have hl := run_loadVar_row (P := Tryz.prog) w g 31 31 cs (0, 0) _ hg Tryz.underlying31 rfl (by rw [hc]; exact Tryz.sizeWorld)
  simp [results, h, hp', hq', hr', asAddr, hl]
/-- what a call answers that gives a world and postings -/
def NtRes (w : World) (E T : Int) (fs : List (List Int)) (b p : List (Int × Int × Int)) (e : Ending) (w' : World) : Prop :=
  ∃ fv bv pv, e = .returned (.tuple #[.agg #[.int .i64 T, fv, bv], pv, .int .i64 E]) ∧ OwnsN 10 42 w' w.heap.size fv fs ∧ OwnsP w' w.heap.size bv b ∧ OwnsP w' w.heap.size pv p ∧ Kpt w w'
/-- the error of Night -/
def ntE (W : Int) (hs : List Int) (ts : List (List Int)) (X : Int) (fs : List (List Int)) (ps : List Int) (T : Int) (b : List (Int × Int × Int)) : Int := orE (rulE W hs ts X) (orE (wldE T fs b) (nigE W hs ts X fs ps T b))
/-- Night's answer, which is nothing where there is an error -/
def ntT (W : Int) (hs : List Int) (ts : List (List Int)) (X : Int) (fs : List (List Int)) (ps : List Int) (T : Int) (b : List (Int × Int × Int)) : Int := if ntE W hs ts X fs ps T b = 0 then steR W hs T 1 else 0
def ntF (W : Int) (hs : List Int) (ts : List (List Int)) (X : Int) (fs : List (List Int)) (ps : List Int) (T : Int) (b : List (Int × Int × Int)) : List (List Int) := if ntE W hs ts X fs ps T b = 0 then cmF W hs ts T fs else []
def ntB (W : Int) (hs : List Int) (ts : List (List Int)) (X : Int) (fs : List (List Int)) (ps : List Int) (T : Int) (b : List (Int × Int × Int)) : List (Int × Int × Int) := if ntE W hs ts X fs ps T b = 0 then nigB W hs ts X fs ps T b else []
def ntP (W : Int) (hs : List Int) (ts : List (List Int)) (X : Int) (fs : List (List Int)) (ps : List Int) (T : Int) (b : List (Int × Int × Int)) : List (Int × Int × Int) := if ntE W hs ts X fs ps T b = 0 then nigP W hs ts X fs ps T b else []
theorem ntRes_E {w w' : World} {W X T : Int} {hs ps : List Int} {ts fs : List (List Int)} {b : List (Int × Int × Int)} {E : Int} (h : ntE W hs ts X fs ps T b = E) (h0 : E ≠ 0) (k : Kpt w w') : NtRes w (ntE W hs ts X fs ps T b) (ntT W hs ts X fs ps T b) (ntF W hs ts X fs ps T b) (ntB W hs ts X fs ps T b) (ntP W hs ts X fs ps T b) (.returned (.tuple #[.agg #[.int .i64 0, .slice none 0 0, .slice none 0 0], .slice none 0 0, .int .i64 E])) w' := by
  subst h
  unfold ntT ntF ntB ntP
  rw [if_neg h0, if_neg h0, if_neg h0, if_neg h0]
  exact ⟨_, _, _, rfl, OwnsN.nil _ _ _ _, OwnsP.nil _ _, OwnsP.nil _ _, k⟩

theorem flB_of {w : World} {v : Value} {fs : List (List Int)} (h : ReadsF w v fs) : ∀ l ∈ fs, FlB l := by
  obtain ⟨_, _, _, _, hb, _⟩ := h; exact hb

set_option maxRecDepth 100000 in
set_option maxHeartbeats 4000000 in
theorem night_any (W X T : Int) (hv tv pcv fv bv : Value) (hs ps : List Int) (ts fs : List (List Int)) (b : List (Int × Int × Int)) (w : World)
    (hr : Reads w hv hs) (hf : Fits hs) (ht : ReadsT w tv ts) (hpr : Reads w pcv ps) (hF : ReadsF w fv fs) (hn : NilC fv) (hb : ReadsP w bv b) :
    Calls Tryz.prog 11 #[.agg #[.int .i64 W, hv, tv, .int .i64 X], .agg #[.int .i64 T, fv, bv], pcv] w (NtRes w (ntE W hs ts X fs ps T b) (ntT W hs ts X fs ps T b) (ntF W hs ts X fs ps T b) (ntB W hs ts X fs ps T b) (ntP W hs ts X fs ps T b)) := by
  have RU := Lib.hid (fun w' (k : Kpt w w') => rules_run W X hv tv hs ts w' (hr.kpt k) hf (ht.kpt k))
  have WC := fun w' (k : Kpt w w') => wcheck_run T fv bv fs b w' (hF.kpt k) (hb.kpt k)
  have K0 : Hid (Kpt w (((w.alloc (.cells #[.int .i64 W, hv, tv, .int .i64 X] 27)).alloc (.cells #[.int .i64 T, fv, bv] 31)).alloc (.cells #[.int .i64 0, .slice none 0 0, .slice none 0 0] 31))) := (((Kpt.refl w).alloc _).alloc _).alloc _
  have B3 : Hid (Blk (((w.alloc (.cells #[.int .i64 W, hv, tv, .int .i64 X] 27)).alloc (.cells #[.int .i64 T, fv, bv] 31)).alloc (.cells #[.int .i64 0, .slice none 0 0, .slice none 0 0] 31)) w.heap.size #[.int .i64 W, hv, tv, .int .i64 X] 27) := ((Blk.made w _ _).alloc _).alloc _
  have B4 : Hid (Blk (((w.alloc (.cells #[.int .i64 W, hv, tv, .int .i64 X] 27)).alloc (.cells #[.int .i64 T, fv, bv] 31)).alloc (.cells #[.int .i64 0, .slice none 0 0, .slice none 0 0] 31)) (w.heap.size + 1) #[.int .i64 T, fv, bv] 31) := by
    have := Blk.made (w.alloc (.cells #[.int .i64 W, hv, tv, .int .i64 X] 27)) #[.int .i64 T, fv, bv] 31
    rw [World.size_alloc] at this
    exact this.alloc _
  have B6 : Hid (Blk (((w.alloc (.cells #[.int .i64 W, hv, tv, .int .i64 X] 27)).alloc (.cells #[.int .i64 T, fv, bv] 31)).alloc (.cells #[.int .i64 0, .slice none 0 0, .slice none 0 0] 31)) (w.heap.size + 2) #[.int .i64 0, .slice none 0 0, .slice none 0 0] 31) := by
    have := Blk.made ((w.alloc (.cells #[.int .i64 W, hv, tv, .int .i64 X] 27)).alloc (.cells #[.int .i64 T, fv, bv] 31)) #[.int .i64 0, .slice none 0 0, .slice none 0 0] 31
    rwa [World.size_alloc, World.size_alloc] at this
  obtain ⟨ah, caph, rfl, -⟩ := id hr
  obtain ⟨at', capt, rfl, -⟩ := id ht
  obtain ⟨ap, capp, rfl, -⟩ := id hpr
  obtain ⟨af, capf, rfl, -⟩ := id hF
  obtain ⟨ab, capb, rfl, -⟩ := id hb
  by_cases h1 : rulE W hs ts X = 0
  · rw [h1] at RU
    have NE : Hid (ntE W hs ts X fs ps T b = orE (wldE T fs b) (nigE W hs ts X fs ps T b)) := by unfold Hid ntE; rw [orE, if_pos h1]
    have hX := (rul_0 h1).2.2
    by_cases h2 : wldE T fs b = 0
    · have NE2 : Hid (ntE W hs ts X fs ps T b = nigE W hs ts X fs ps T b) := by unfold Hid; rw [NE.out, orE, if_pos h2]
      have EN := Lib.hid (fun w' (k : Kpt w w') => engage_ok T _ _ fs b w' (hF.kpt k) hn (hb.kpt k) h2)
      have bpt : ∀ x ∈ b, ptB x = true := strict_pt (lin_0 (wld_0 h2).2.2).2.1
      have NI := Lib.hid (fun wb (kb : Kpt w wb) w' g fv' bv' (hC : ClerkIs w' wb.heap.size g T fv' bv' (.slice none 0 0) fs b []) (hK : Kpt wb w') => night_run wb g W X T _ _ _ fv' bv' _ hs ps ts fs b w' hC hK bpt (hr.kpt kb) hf (ht.kpt kb) (hpr.kpt kb) (flB_of hF) hX)
      have NT : Hid (ntE W hs ts X fs ps T b = 0 → ntT W hs ts X fs ps T b = steR W hs T 1 ∧ ntF W hs ts X fs ps T b = cmF W hs ts T fs ∧ ntB W hs ts X fs ps T b = nigB W hs ts X fs ps T b ∧ ntP W hs ts X fs ps T b = nigP W hs ts X fs ps T b) := fun h => ⟨if_pos h, if_pos h, if_pos h, if_pos h⟩
      by_cases h3 : nigE W hs ts X fs ps T b = 0
      · obtain ⟨e1, e2, e3, e4⟩ := NT.out (NE2.out.trans h3)
        rw [NE2.out.trans h3, e1, e2, e3, e4]
        rw [h3] at NI
        clear h1 h2 h3 WC hr hf ht hpr hF hn hb NE NE2 NT e1 e2 e3 e4 hX bpt
        generalize cmF W hs ts T fs = cf at *
        generalize nigB W hs ts X fs ps T b = nb at *
        generalize nigP W hs ts X fs ps T b = np at *
        generalize steR W hs T 1 = T2 at *
        go_enter Tryz.func11, Tryz.ntmps11
        go_upto_region 10 with (first
          | (go_at_call 14; (with_reducible refine (RU.out _ K0.out).mono ?_); rintro x w1 ⟨rfl, kk⟩; have K1 := Lib.hid (ktr K0.out kk); have B31 := Lib.hid (B3.out.kpt kk); have B41 := Lib.hid (B4.out.kpt kk); have B61 := Lib.hid (B6.out.kpt kk); have b0 : World.cell? w1 ⟨w.heap.size + 1, 0, none⟩ = some (.int .i64 T) := B41.out.cell 0; have b1 : World.cell? w1 ⟨w.heap.size + 1, 1, none⟩ = some (.slice af fs.length capf) := B41.out.cell 1; have b2 : World.cell? w1 ⟨w.heap.size + 1, 2, none⟩ = some (.slice ab b.length capb) := B41.out.cell 2; clear kk)
          | (go_at_call 37; (with_reducible refine (EN.out _ K1.out).mono ?_); rintro x w2 ⟨g, fv2, bv2, rfl, hc2, kk⟩; have C2 := Lib.hid hc2; have K12 := Lib.hid kk; have B32 := Lib.hid (B31.out.kpt kk); have r0 : World.cell? w2 ⟨w.heap.size, 0, none⟩ = some (.int .i64 W) := B32.out.cell 0; have r1 : World.cell? w2 ⟨w.heap.size, 1, none⟩ = some (.slice ah hs.length caph) := B32.out.cell 1; have r2 : World.cell? w2 ⟨w.heap.size, 2, none⟩ = some (.slice at' ts.length capt) := B32.out.cell 2; have r3 : World.cell? w2 ⟨w.heap.size, 3, none⟩ = some (.int .i64 X) := B32.out.cell 3; clear hc2 kk)
          | (go_at_call 38; (with_reducible refine (NI.out _ K1.out _ _ _ _ C2.out K12.out).mono ?_); rintro x w3 ⟨rfl, hc3, kb, ky⟩; have H3 := Lib.hid hc3; have K13 : Hid (Kpt w1 w3) := Below.trans K12.out kb; have K3 : Hid (Kpt w w3) := ktr K1.out K13.out; have B63 := Lib.hid (B61.out.kpt K13.out); clear hc3 kb ky))
        obtain ⟨bv3, pv3, hc3⟩ := H3.out (by first | trivial | rfl)
        obtain ⟨a5, n5, cap5, rfl, hn5⟩ := OwnsN.form hc3.of
        obtain ⟨a6, cap6, rfl⟩ := OwnsP.form hc3.ob
        obtain ⟨a7, cap7, rfl⟩ := OwnsP.form hc3.op
        have C3 := Lib.hid hc3
        clear hc3 b0 b1 b2 r0 r1 r2 r3
        have s0 : World.cell? w3 ⟨g, 0, none⟩ = some (.int .i64 T2) := C3.out.blk.cell 0
        have s1 : World.cell? w3 ⟨g, 1, none⟩ = some (.slice a5 n5 cap5) := C3.out.blk.cell 1
        have s2 : World.cell? w3 ⟨g, 2, none⟩ = some (.slice a6 nb.length cap6) := C3.out.blk.cell 2
        have s3 : World.cell? w3 ⟨g, 3, none⟩ = some (.slice a7 np.length cap7) := C3.out.blk.cell 3
        have q0 : World.cell? w3 ⟨w.heap.size + 2, 0, none⟩ = some (.int .i64 0) := B63.out.cell 0
        have q1 : World.cell? w3 ⟨w.heap.size + 2, 1, none⟩ = some (.slice none 0 0) := B63.out.cell 1
        have q2 : World.cell? w3 ⟨w.heap.size + 2, 2, none⟩ = some (.slice none 0 0) := B63.out.cell 2
        have f0 : World.frozen? w3 ⟨w.heap.size + 2, 0, none⟩ = false := Blk.frozen B63.out 0
        have f1 : World.frozen? w3 ⟨w.heap.size + 2, 1, none⟩ = false := Blk.frozen B63.out 1
        have f2 : World.frozen? w3 ⟨w.heap.size + 2, 2, none⟩ = false := Blk.frozen B63.out 2
        go_region
        have t1 := Blk.put B63.out 0 (.int .i64 T2)
        have t2 := Blk.put t1 1 (.slice a5 n5 cap5)
        have t3 := Blk.put t2 2 (.slice a6 nb.length cap6)
        have RZ : Hid (Blk ((((w3.setCell ⟨w.heap.size + 2, 0, none⟩ (.int .i64 T2)).setCell ⟨w.heap.size + 2, 1, none⟩ (.slice a5 n5 cap5)).setCell ⟨w.heap.size + 2, 2, none⟩ (.slice a6 nb.length cap6)).drew) (w.heap.size + 2) #[.int .i64 T2, .slice a5 n5 cap5, .slice a6 nb.length cap6] 31) := Blk.kpt t3 (Below.drew (Kpt.refl _))
        have oF : Hid (OwnsN 10 42 ((((w3.setCell ⟨w.heap.size + 2, 0, none⟩ (.int .i64 T2)).setCell ⟨w.heap.size + 2, 1, none⟩ (.slice a5 n5 cap5)).setCell ⟨w.heap.size + 2, 2, none⟩ (.slice a6 nb.length cap6)).drew) w.heap.size (.slice a5 n5 cap5) cf) := row_kpt (row_away (row_away (row_away (row_base C3.out.of K1.out.size) B63.out (by decide) _ _) t1 (by decide) _ _) t2 (by decide) _ _) (Below.drew (Kpt.refl _))
        have oB : Hid (OwnsP ((((w3.setCell ⟨w.heap.size + 2, 0, none⟩ (.int .i64 T2)).setCell ⟨w.heap.size + 2, 1, none⟩ (.slice a5 n5 cap5)).setCell ⟨w.heap.size + 2, 2, none⟩ (.slice a6 nb.length cap6)).drew) w.heap.size (.slice a6 nb.length cap6) nb) := row_kpt (row_away (row_away (row_away (row_base C3.out.ob K1.out.size) B63.out (by decide) _ _) t1 (by decide) _ _) t2 (by decide) _ _) (Below.drew (Kpt.refl _))
        have oP : Hid (OwnsP ((((w3.setCell ⟨w.heap.size + 2, 0, none⟩ (.int .i64 T2)).setCell ⟨w.heap.size + 2, 1, none⟩ (.slice a5 n5 cap5)).setCell ⟨w.heap.size + 2, 2, none⟩ (.slice a6 nb.length cap6)).drew) w.heap.size (.slice a7 np.length cap7) np) := row_kpt (row_away (row_away (row_away (row_base C3.out.op K1.out.size) B63.out (by decide) _ _) t1 (by decide) _ _) t2 (by decide) _ _) (Below.drew (Kpt.refl _))
        have KE : Hid (Kpt w ((((w3.setCell ⟨w.heap.size + 2, 0, none⟩ (.int .i64 T2)).setCell ⟨w.heap.size + 2, 1, none⟩ (.slice a5 n5 cap5)).setCell ⟨w.heap.size + 2, 2, none⟩ (.slice a6 nb.length cap6)).drew)) := Below.drew (Kpt.setCell (Kpt.setCell (Kpt.setCell K3.out (by show w.heap.size ≤ w.heap.size + 2; omega) _) (by show w.heap.size ≤ w.heap.size + 2; omega) _) (by show w.heap.size ≤ w.heap.size + 2; omega) _)
        clear t1 t2 t3 s0 s1 s2 s3 q0 q1 q2 f0 f1 f2
        generalize ((((w3.setCell ⟨w.heap.size + 2, 0, none⟩ (.int .i64 T2)).setCell ⟨w.heap.size + 2, 1, none⟩ (.slice a5 n5 cap5)).setCell ⟨w.heap.size + 2, 2, none⟩ (.slice a6 nb.length cap6)).drew) = w9 at *
        go_wp2
        exact bodyPost_ret (v := .tuple #[.agg #[.int .i64 T2, .slice a5 n5 cap5, .slice a6 nb.length cap6], .slice a7 np.length cap7, .int .i64 0]) (results_W3 Tryz.results11 _ _ _ _ _ _ rfl rfl rfl RZ.out rfl) rfl ⟨_, _, _, rfl, oF.out, oB.out, oP.out, KE.out⟩
      · have HX := NE2.out
        have z0 : (nigE W hs ts X fs ps T b != 0) = true := bne_iff_ne.2 h3
        have FIN := Lib.hid (fun w' (k : Kpt w w') => ntRes_E HX h3 k)
        clear h1 h2 h3 WC hr hf ht hpr hF hn hb NE NE2 NT HX hX bpt
        generalize nigE W hs ts X fs ps T b = E at *
        go_enter Tryz.func11, Tryz.ntmps11
        go_wp2_with (first
          | (go_at_call 14; (with_reducible refine (RU.out _ K0.out).mono ?_); rintro x w1 ⟨rfl, kk⟩; have K1 := Lib.hid (ktr K0.out kk); have B31 := Lib.hid (B3.out.kpt kk); have B41 := Lib.hid (B4.out.kpt kk); have B61 := Lib.hid (B6.out.kpt kk); have b0 : World.cell? w1 ⟨w.heap.size + 1, 0, none⟩ = some (.int .i64 T) := B41.out.cell 0; have b1 : World.cell? w1 ⟨w.heap.size + 1, 1, none⟩ = some (.slice af fs.length capf) := B41.out.cell 1; have b2 : World.cell? w1 ⟨w.heap.size + 1, 2, none⟩ = some (.slice ab b.length capb) := B41.out.cell 2; clear kk)
          | (go_at_call 37; (with_reducible refine (EN.out _ K1.out).mono ?_); rintro x w2 ⟨g, fv2, bv2, rfl, hc2, kk⟩; have C2 := Lib.hid hc2; have K12 := Lib.hid kk; have B32 := Lib.hid (B31.out.kpt kk); have r0 : World.cell? w2 ⟨w.heap.size, 0, none⟩ = some (.int .i64 W) := B32.out.cell 0; have r1 : World.cell? w2 ⟨w.heap.size, 1, none⟩ = some (.slice ah hs.length caph) := B32.out.cell 1; have r2 : World.cell? w2 ⟨w.heap.size, 2, none⟩ = some (.slice at' ts.length capt) := B32.out.cell 2; have r3 : World.cell? w2 ⟨w.heap.size, 3, none⟩ = some (.int .i64 X) := B32.out.cell 3; clear hc2 kk)
          | (go_at_call 38; (with_reducible refine (NI.out _ K1.out _ _ _ _ C2.out K12.out).mono ?_); rintro x w3 ⟨rfl, hc3, kb, ky⟩; have H3 := Lib.hid hc3; have K13 : Hid (Kpt w1 w3) := Below.trans K12.out kb; have K3 : Hid (Kpt w w3) := ktr K1.out K13.out; have B63 := Lib.hid (B61.out.kpt K13.out); clear hc3 kb ky)
          | (refine wp_storeW rfl (.tmp 6) (.tmp 34) rfl (w.heap.size + 2) _ _ rfl rfl B63.out rfl rfl (by simp [Value.oneCell']) ?_; intro w9 r9 k9 o9; have R9 := Lib.hid r9; have K9 : Hid (Kpt w w9) := Lib.hid (k9 _ _ K3.out (by omega)); clear r9 k9 o9))
        exact bodyPost_ret (v := .tuple #[.agg #[.int .i64 0, .slice none 0 0, .slice none 0 0], .slice none 0 0, .int .i64 E]) (results_W3 Tryz.results11 _ _ _ _ _ _ rfl rfl rfl R9.out rfl) rfl (FIN.out _ K9.out)
    · have HX : Hid (ntE W hs ts X fs ps T b = wldE T fs b) := by unfold Hid; rw [NE.out, orE, if_neg h2]
      have EN := Lib.hid (fun w' (k : Kpt w w') => engage_bad T _ _ _ w' h2 ⟨_, _, _, rfl⟩ ⟨_, _, _, rfl⟩ (fun w'' k' => WC w'' (ktr k k')))
      have z0 : (wldE T fs b != 0) = true := bne_iff_ne.2 h2
      have H2 := Lib.hid h2
      have FIN := Lib.hid (fun w' (k : Kpt w w') => ntRes_E HX.out h2 k)
      clear h1 h2 WC hr hf ht hpr hF hn hb NE HX
      generalize wldE T fs b = E at *
      go_enter Tryz.func11, Tryz.ntmps11
      go_wp2_with (first
        | (go_at_call 14; (with_reducible refine (RU.out _ K0.out).mono ?_); rintro x w1 ⟨rfl, kk⟩; have K1 := Lib.hid (ktr K0.out kk); have B41 := Lib.hid (B4.out.kpt kk); have B61 := Lib.hid (B6.out.kpt kk); have b0 : World.cell? w1 ⟨w.heap.size + 1, 0, none⟩ = some (.int .i64 T) := B41.out.cell 0; have b1 : World.cell? w1 ⟨w.heap.size + 1, 1, none⟩ = some (.slice af fs.length capf) := B41.out.cell 1; have b2 : World.cell? w1 ⟨w.heap.size + 1, 2, none⟩ = some (.slice ab b.length capb) := B41.out.cell 2; clear kk)
        | (go_at_call 37; (with_reducible refine (EN.out _ K1.out).mono ?_); rintro x w2 ⟨rfl, kk⟩; have K2 := Lib.hid (ktr K1.out kk); have B62 := Lib.hid (B61.out.kpt kk); clear kk)
        | (refine wp_storeW rfl (.tmp 6) (.tmp 26) rfl (w.heap.size + 2) _ _ rfl rfl B62.out rfl rfl (by simp [Value.oneCell']) ?_; intro w9 r9 k9 o9; have R9 := Lib.hid r9; have K9 : Hid (Kpt w w9) := Lib.hid (k9 _ _ K2.out (by omega)); clear r9 k9 o9))
      exact bodyPost_ret (v := .tuple #[.agg #[.int .i64 0, .slice none 0 0, .slice none 0 0], .slice none 0 0, .int .i64 E]) (results_W3 Tryz.results11 _ _ _ _ _ _ rfl rfl rfl R9.out rfl) rfl (FIN.out _ K9.out)
  · have HX : Hid (ntE W hs ts X fs ps T b = rulE W hs ts X) := by unfold Hid ntE; rw [orE, if_neg h1]
    have z0 : (rulE W hs ts X != 0) = true := bne_iff_ne.2 h1
    have FIN := Lib.hid (fun w' (k : Kpt w w') => ntRes_E HX.out h1 k)
    clear h1 WC hr hf ht hpr hF hn hb HX
    generalize rulE W hs ts X = E at *
    go_enter Tryz.func11, Tryz.ntmps11
    go_wp2_with (first
      | (go_at_call 14; (with_reducible refine (RU.out _ K0.out).mono ?_); rintro x w1 ⟨rfl, kk⟩; have K1 := Lib.hid (ktr K0.out kk); have B61 := Lib.hid (B6.out.kpt kk); clear kk)
      | (refine wp_storeW rfl (.tmp 6) (.tmp 17) rfl (w.heap.size + 2) _ _ rfl rfl B61.out rfl rfl (by simp [Value.oneCell']) ?_; intro w9 r9 k9 o9; have R9 := Lib.hid r9; have K9 : Hid (Kpt w w9) := Lib.hid (k9 _ _ K1.out (by omega)); clear r9 k9 o9))
    exact bodyPost_ret (v := .tuple #[.agg #[.int .i64 0, .slice none 0 0, .slice none 0 0], .slice none 0 0, .int .i64 E]) (results_W3 Tryz.results11 _ _ _ _ _ _ rfl rfl rfl R9.out rfl) rfl (FIN.out _ K9.out)

end Go.Proofs.YthaahebggboliaaGreat
