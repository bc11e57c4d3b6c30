/-
  Merged: CycR, CycS, CycT.
-/
import Derived.Test.YthaahebggboliaaGreatMcp
import Derived.Test.YthaahebggboliaaGreatMsw
import Derived.Test.YthaahebggboliaaGreatMte
import Derived.Deep.Cut
import Derived.Deep.CutRange
import Derived.Deep.RegionWith
import Derived.Deep.RegionHeld3
import Derived.Deep.RegionLaw
import Derived.Lib.SmallJoins
-- CycR
namespace Go.Proofs.YthaahebggboliaaGreat
open Go.RowKit Go.Sort Go.Lib
set_option linter.unusedVariables false

theorem Tryz.sizeRulesR : (Tryz.prog.info? 27).map (·.size) = some 4 := by kernel_rfl
theorem wp_storeR {ops : Array Oper} {rest : List Oper} {o : Oper} {a : Act} {w : World} {Q : Exit → Act → World → Prop} (hgd : o.guard = none) (x y : Operand) (ho : o.op = .store 27 x y)
    (g : Nat) (cs old : Array Value) (hx : a.eval x = .pointer (some ⟨g, 0, none⟩)) (hy : a.eval y = .agg cs) (hg : Blk w g old 27) (hs : old.size = 4) (hc : cs.size = 4) (h1 : cs.all (·.oneCell') = true)
    (h : ∀ w', Blk w' g cs 27 → (∀ B w0, Below B w0 w → B ≤ g → Below B w0 w') → (∀ k, k ≠ g → w'.heap[k]? = w.heap[k]?) → wpList Tryz.prog ops Q rest (a.put o.dst undef) w') : wpList Tryz.prog ops Q (o :: rest) a w :=
  wpList_store_row hgd _ x y ho g cs hx hy _ old hg (by rw [hc]; exact Tryz.sizeRulesR) (by omega) h1 (h _ (setRow_heap w g old cs _ _ hg) (fun B w0 hb hB => below_setRow hb hB cs) (fun k hk => setRow_other w g k cs hk))
theorem tenZ_is : tenL 20 = tenZ := by decide
theorem wk_reads {w : World} {v : Value} (h : Reads w v wkH) : Reads w v [739936] := h
theorem cell_off {w w' : World} {g : Nat} (o : ∀ k, k ≠ g → w'.heap[k]? = w.heap[k]?) {k i : Nat} (h : k ≠ g) : w'.cell? ⟨k, i, none⟩ = w.cell? ⟨k, i, none⟩ := by
  unfold World.cell?
  rw [show w'.heap[(⟨k, i, none⟩ : Addr).block]? = w.heap[(⟨k, i, none⟩ : Addr).block]? from o k h]
theorem zero_no {i : Nat} {z : Int} (hz : z ≠ 0) : (#[.int .i64 0, .slice none 0 0, .slice none 0 0, .int .i64 0] : Array Value)[i]? ≠ some (.int .i64 z) := by
  rcases i with _ | _ | _ | _ | i <;> simp <;> omega
theorem wk_off {w w' : World} {g : Nat} {v : Value} (hb : Blk w g #[.int .i64 0, .slice none 0 0, .slice none 0 0, .int .i64 0] 27) (o : ∀ k, k ≠ g → w'.heap[k]? = w.heap[k]?) (h : Reads w v wkH) : Reads w' v wkH := by
  obtain ⟨a, cap, rfl, hm, hc⟩ := h
  refine ⟨a, cap, rfl, hm, fun j hj => ?_⟩
  obtain ⟨k, off, e, hk⟩ := hc j hj
  refine ⟨k, off, e, ?_⟩
  rw [cell_off o (fun q => by
    subst q
    rw [hb.cell] at hk
    have : j = 0 := by have : wkH.length = 1 := rfl; omega
    subst this
    exact zero_no (z := 739936) (by decide) hk)]
  exact hk
theorem cls_off {w w' : World} {g : Nat} {v : Value} (hb : Blk w g #[.int .i64 0, .slice none 0 0, .slice none 0 0, .int .i64 0] 27) (o : ∀ k, k ≠ g → w'.heap[k]? = w.heap[k]?) (h : ReadsT w v clsT) : ReadsT w' v clsT := by
  obtain ⟨a, cap, rfl, hm, hc⟩ := h
  refine ⟨a, cap, rfl, hm, fun j hj => ?_⟩
  obtain ⟨k, off, e, hk⟩ := hc j hj
  have hne : k ≠ g := fun q => by
    subst q
    have h0 := hk 0 (by decide)
    rw [hb.cell] at h0
    have e4 : (clsT.getD j []).getD 0 0 = 4 := by
      have : clsT.length = 6 := rfl
      rcases (show j = 0 ∨ j = 1 ∨ j = 2 ∨ j = 3 ∨ j = 4 ∨ j = 5 by omega) with rfl | rfl | rfl | rfl | rfl | rfl <;> rfl
    rw [e4] at h0
    exact zero_no (z := 4) (by decide) h0
  exact ⟨k, off, e, fun i hi => by rw [cell_off o hne]; exact hk i hi⟩
set_option maxRecDepth 100000 in
set_option maxHeartbeats 4000000 in
theorem rules_made (w : World) : Calls Tryz.prog 48 #[] w fun e w' => ∃ hv tv, e = .returned (.agg #[.int .i64 96, hv, tv, .int .i64 0]) ∧ Reads w' hv wkH ∧ ReadsT w' tv clsT ∧ Kpt w w' := by
  have ZB : Hid (Blk (w.alloc (.cells #[.int .i64 0, .slice none 0 0, .slice none 0 0, .int .i64 0] 27)) w.heap.size #[.int .i64 0, .slice none 0 0, .slice none 0 0, .int .i64 0] 27) := Blk.made w _ _
  have K0 : Hid (Kpt w (w.alloc (.cells #[.int .i64 0, .slice none 0 0, .slice none 0 0, .int .i64 0] 27))) := (Kpt.refl w).alloc _
  go_enter Tryz.func48, Tryz.ntmps48
  go_wp2_with (first
    | (go_at_call 69; (with_reducible refine (week_any _).mono ?_); rintro z wq ⟨vq, rfl, hrq, kq⟩; have K1 := Lib.hid (ktr K0.out kq); have B1 := Lib.hid (ZB.out.kpt kq); obtain ⟨a1, c1, rfl, -⟩ := _root_.id hrq; have HV := Lib.hid hrq; clear kq hrq)
    | (go_at_call 100; (with_reducible refine (classes_run _).mono ?_); rintro z w2 ⟨tv, rfl, ht, kq⟩; have K2 := Lib.hid (ktr K1.out kq); have B2 := Lib.hid (B1.out.kpt kq); have HV2 := Lib.hid (HV.out.kpt kq); obtain ⟨a2, c2, rfl, -⟩ := _root_.id ht; have HT2 := Lib.hid ht; clear kq ht)
    | (refine wp_storeR rfl (.tmp 0) (.tmp 3) rfl w.heap.size _ _ rfl rfl B2.out rfl rfl (by simp [Value.oneCell']) ?_; intro w9 r9 k9 o9; have R9 := Lib.hid r9; have K9 : Hid (Kpt w w9) := k9 _ _ K2.out (Nat.le_refl _); have HV9 := Lib.hid (wk_off B2.out o9 HV2.out); have HT9 := Lib.hid (cls_off B2.out o9 HT2.out); clear r9 k9 o9))
  exact bodyPost_ret (v := .agg #[.int .i64 96, .slice a1 wkH.length c1, .slice a2 clsT.length c2, .int .i64 0]) (results_cell_row Tryz.results48 _ _ w.heap.size _ _ _ _ rfl R9.out Tryz.underlying27 rfl Tryz.sizeRulesR) rfl ⟨_, _, rfl, HV9.out, HT9.out, K9.out⟩
end Go.Proofs.YthaahebggboliaaGreat

-- CycS
namespace Go.Proofs.YthaahebggboliaaGreat
open Go.RowKit Go.Sort Go.Lib
set_option linter.unusedVariables false

theorem cs_fl : (∀ l ∈ [fbA], FlB l) ∧ (∀ l ∈ [fbB], FlB l) ∧ ∀ l ∈ [fbC], FlB l := by
  refine ⟨fun l hl => ?_, fun l hl => ?_, fun l hl => ?_⟩ <;> (rw [List.mem_singleton.1 hl]; unfold FlB; decide)
theorem cs_add (w : World) : Calls Tryz.prog 21 #[.agg #[.int .i64 739935, .slice none 0 0, .slice none 0 0], .agg #[.int .i64 7, .int .i64 1, .int .i64 2, .int .i64 0, .int .i64 3, .int .i64 739935, .int .i64 3000, .int .i64 0, .int .i64 0, .int .i64 0]] w (WdRes w 0 739935 [fbA] []) := by
  have h := add_any 739935 7 1 2 0 3 739935 3000 0 0 0 (.slice none 0 0) (.slice none 0 0) [] [] w (readsF_nil w none 0) (fun n c e => by cases e; rfl) (readsP_nil w none 0 (fun _ => rfl)) (cs_fl.1 fbA (List.mem_singleton.2 rfl))
  have e1 : adT 739935 [] [] fbA = 739935 := if_pos cb_1
  have e2 : adF 739935 [] [] fbA = [fbA] := if_pos cb_1
  have e3 : adB 739935 [] [] fbA = [] := if_pos cb_1
  change Calls _ _ _ w (WdRes w (adE 739935 [] [] fbA) (adT 739935 [] [] fbA) (adF 739935 [] [] fbA) (adB 739935 [] [] fbA)) at h
  rwa [cb_1, e1, e2, e3] at h
theorem cs_deliver (v b : Value) (w : World) (hF : ReadsF w v [fbA]) (hn : NilC v) (hb : ReadsP w b []) : Calls Tryz.prog 20 #[.agg #[.int .i64 739935, v, b], .int .i64 7, .int .i64 1000] w (WdRes w 0 739935 [fbB] bkA) := by
  have h := deliver_any 739935 7 1000 v b [fbA] [] w hF hn hb
  have e : dvT 739935 7 1000 [fbA] [] = 739935 := if_pos cb_2.1
  rwa [cb_2.1, e, cb_2.2.1, cb_2.2.2] at h
theorem cs_deliver2 (v b : Value) (w : World) (hF : ReadsF w v [fbA]) (hn : NilC v) (hb : ReadsP w b []) : Calls Tryz.prog 20 #[.agg #[.int .i64 739935, v, b], .int .i64 8, .int .i64 1] w (WdRes w 5 0 [] []) := by
  have h := deliver_any 739935 8 1 v b [fbA] [] w hF hn hb
  have e5 := cb_3.2.2.2.1
  have n5 : ¬ dvE 739935 8 1 [fbA] [] = 0 := by rw [e5]; decide
  have e1 : dvT 739935 8 1 [fbA] [] = 0 := if_neg n5
  have e2 : dvF 739935 8 1 [fbA] [] = [] := if_neg n5
  have e3 : dvB 739935 8 1 [fbA] [] = [] := if_neg n5
  rwa [e5, e1, e2, e3] at h
theorem cs_night1 (hv tv pcv v b : Value) (w : World) (hr : Reads w hv wkH) (ht : ReadsT w tv clsT) (hp : Reads w pcv (tenL 20)) (hF : ReadsF w v [fbB]) (hn : NilC v) (hb : ReadsP w b bkA) :
    Calls Tryz.prog 11 #[.agg #[.int .i64 96, hv, tv, .int .i64 0], .agg #[.int .i64 739937, v, b], pcv] w (NtRes w 0 739938 [fbB] bkB [(1, 0, -2), (2, 0, 2)]) := by
  rw [tenZ_is] at hp
  have h := night_any 96 0 739937 hv tv pcv v b wkH tenZ clsT [fbB] bkA w hr wk_fits ht hp hF hn hb
  rwa [cb_n1.1, cb_n1.2.1, cb_n1.2.2.1, cb_n1.2.2.2.1, cb_n1.2.2.2.2] at h
theorem cs_night2 (hv tv pcv v b : Value) (w : World) (hr : Reads w hv wkH) (ht : ReadsT w tv clsT) (hp : Reads w pcv (tenL 20)) (hF : ReadsF w v [fbB]) (hn : NilC v) (hb : ReadsP w b bkB) :
    Calls Tryz.prog 11 #[.agg #[.int .i64 96, hv, tv, .int .i64 0], .agg #[.int .i64 739956, v, b], pcv] w (NtRes w 0 739957 [fbC] bkD [(1, 0, -2), (2, 0, 2), (1, 0, -20000), (2, 0, 20000)]) := by
  rw [tenZ_is] at hp
  have h := night_any 96 0 739956 hv tv pcv v b wkH tenZ clsT [fbB] bkB w hr wk_fits ht hp hF hn hb
  rwa [cb_n2.1, cb_n2.2.1, cb_n2.2.2.1, cb_n2.2.2.2.1, cb_n2.2.2.2.2] at h
theorem cs_tidy (v b : Value) (w : World) (hF : ReadsF w v [fbC]) (hn : NilC v) (hb : ReadsP w b bkD) : Calls Tryz.prog 22 #[.agg #[.int .i64 739957, v, b]] w (TdRes w 0 739957 [] bkD [fbC]) := by
  have h := tidy_any 739957 v b [fbC] bkD w hF hn hb
  have e0 := cb_3.2.2.1
  have e1 : tdT 739957 [fbC] bkD = 739957 := if_pos e0
  have e2 : tdF 739957 [fbC] bkD = [] := (if_pos e0).trans cb_td.1
  have e3 : tdB 739957 [fbC] bkD = bkD := if_pos e0
  have e4 : tdD 739957 [fbC] bkD = [fbC] := (if_pos e0).trans cb_td.2
  rwa [e0, e1, e2, e3, e4] at h

end Go.Proofs.YthaahebggboliaaGreat

-- CycT
namespace Go.Proofs.YthaahebggboliaaGreat
open Go.RowKit Go.Sort Go.Lib
set_option linter.unusedVariables false

theorem blk_z {w : World} {g : Nat} (h : Blk w g #[.int .i64 0, .slice none 0 0, .slice none 0 0] 31) : w.cell? ⟨g, 0, none⟩ = some (.int .i64 0) ∧ w.cell? ⟨g, 1, none⟩ = some (.slice none 0 0) ∧ w.cell? ⟨g, 2, none⟩ = some (.slice none 0 0) ∧ w.frozen? ⟨g, 0, none⟩ = false ∧ w.frozen? ⟨g, 1, none⟩ = false ∧ w.frozen? ⟨g, 2, none⟩ = false :=
  ⟨h.cell 0, h.cell 1, h.cell 2, h.frozen 0, h.frozen 1, h.frozen 2⟩
theorem formN (k : Nat) {N : Nat} {T : TypeId} {w : World} {B : Nat} {v : Value} {fs : List (List Int)} (h : OwnsN N T w B v fs) (e : fs.length = k) : ∃ a cap, v = .slice a k cap := by
  obtain ⟨a, n, cap, rfl, hn⟩ := OwnsN.form h
  exact ⟨a, cap, by rw [show n = fs.length from hn, e]⟩
theorem formQ (k : Nat) {w : World} {B : Nat} {v : Value} {ps : List (Int × Int × Int)} (h : OwnsP w B v ps) (e : ps.length = k) : ∃ a cap, v = .slice a k cap := by
  obtain ⟨a, cap, rfl⟩ := OwnsP.form h
  exact ⟨a, cap, by rw [e]⟩
/-- a night's answer put into a world of the call's own -/
theorem three_is {w : World} {g : Nat} (h : Blk w g #[.int .i64 0, .slice none 0 0, .slice none 0 0] 31) (a b c : Value) : Blk (((w.setCell ⟨g, 0, none⟩ a).setCell ⟨g, 1, none⟩ b).setCell ⟨g, 2, none⟩ c) g #[a, b, c] 31 ∧
    (∀ W, Kpt W w → W.heap.size ≤ g → Kpt W (((w.setCell ⟨g, 0, none⟩ a).setCell ⟨g, 1, none⟩ b).setCell ⟨g, 2, none⟩ c)) ∧
    ∀ {base size n : Nat} {e : TypeId} {v : Value} {xs : List Value}, e ≠ 31 → w.ownsRow base e size v n xs → (((w.setCell ⟨g, 0, none⟩ a).setCell ⟨g, 1, none⟩ b).setCell ⟨g, 2, none⟩ c).ownsRow base e size v n xs := by
  have h1 := h.put 0 a
  have h2 := h1.put 1 b
  have h3 := h2.put 2 c
  refine ⟨h3, fun W k hg => ((k.setCell (p := ⟨g, 0, none⟩) hg _).setCell (p := ⟨g, 1, none⟩) hg _).setCell (p := ⟨g, 2, none⟩) hg _, fun he hr => ?_⟩
  exact row_away (row_away (row_away hr h he 0 a) h1 he 1 b) h2 he 2 c
theorem fin_new {W0 wd : World} {T : Int} {ga ha qa : Option Addr} {gc hc qn qc base : Nat} {fs : List (List Int)} {b p : List (Int × Int × Int)} (KA : Kpt W0 wd) (hf : OwnsN 10 42 wd base (.slice ga 1 gc) fs) (hb : OwnsP wd base (.slice ha 4 hc) b) (hq : OwnsP wd base (.slice qa qn qc) p) :
    W0.heap.size ≤ wd.heap.size ∧ Blk (wd.alloc (.cells #[.int .i64 T, .slice ga 1 gc, .slice ha 4 hc] 31)) wd.heap.size #[.int .i64 T, .slice ga 1 gc, .slice ha 4 hc] 31 ∧ OwnsN 10 42 (wd.alloc (.cells #[.int .i64 T, .slice ga 1 gc, .slice ha 4 hc] 31)) 0 (.slice ga 1 gc) fs ∧ OwnsP (wd.alloc (.cells #[.int .i64 T, .slice ga 1 gc, .slice ha 4 hc] 31)) 0 (.slice ha 4 hc) b ∧ OwnsP (wd.alloc (.cells #[.int .i64 T, .slice ga 1 gc, .slice ha 4 hc] 31)) 0 (.slice qa qn qc) p ∧ Kpt W0 (wd.alloc (.cells #[.int .i64 T, .slice ga 1 gc, .slice ha 4 hc] 31)) :=
  ⟨KA.size, Blk.made _ _ _, Joins.ownsRow_le (row_kpt hf ((Kpt.refl _).alloc _)) (Nat.zero_le _), Joins.ownsRow_le (row_kpt hb ((Kpt.refl _).alloc _)) (Nat.zero_le _), Joins.ownsRow_le (row_kpt hq ((Kpt.refl _).alloc _)) (Nat.zero_le _), KA.alloc _⟩
theorem fin_old {W0 wd : World} {g : Nat} {T : Int} {ga ha qa : Option Addr} {gc hc qn qc base : Nat} {fs : List (List Int)} {b p : List (Int × Int × Int)} (hg : Blk wd g #[.int .i64 0, .slice none 0 0, .slice none 0 0] 31 ∧ W0.heap.size ≤ g) (KA : Kpt W0 wd) (hf : OwnsN 10 42 wd base (.slice ga 1 gc) fs) (hb : OwnsP wd base (.slice ha 4 hc) b) (hq : OwnsP wd base (.slice qa qn qc) p) :
    W0.heap.size ≤ g ∧ Blk (((wd.setCell ⟨g, 0, none⟩ (.int .i64 T)).setCell ⟨g, 1, none⟩ (.slice ga 1 gc)).setCell ⟨g, 2, none⟩ (.slice ha 4 hc)) g #[.int .i64 T, .slice ga 1 gc, .slice ha 4 hc] 31 ∧ OwnsN 10 42 (((wd.setCell ⟨g, 0, none⟩ (.int .i64 T)).setCell ⟨g, 1, none⟩ (.slice ga 1 gc)).setCell ⟨g, 2, none⟩ (.slice ha 4 hc)) 0 (.slice ga 1 gc) fs ∧ OwnsP (((wd.setCell ⟨g, 0, none⟩ (.int .i64 T)).setCell ⟨g, 1, none⟩ (.slice ga 1 gc)).setCell ⟨g, 2, none⟩ (.slice ha 4 hc)) 0 (.slice ha 4 hc) b ∧ OwnsP (((wd.setCell ⟨g, 0, none⟩ (.int .i64 T)).setCell ⟨g, 1, none⟩ (.slice ga 1 gc)).setCell ⟨g, 2, none⟩ (.slice ha 4 hc)) 0 (.slice qa qn qc) p ∧ Kpt W0 (((wd.setCell ⟨g, 0, none⟩ (.int .i64 T)).setCell ⟨g, 1, none⟩ (.slice ga 1 gc)).setCell ⟨g, 2, none⟩ (.slice ha 4 hc)) := by
  obtain ⟨h1, h2, h3⟩ := three_is hg.1 (.int .i64 T) (.slice ga 1 gc) (.slice ha 4 hc)
  exact ⟨hg.2, h1, Joins.ownsRow_le (h3 (by decide) hf) (Nat.zero_le _), Joins.ownsRow_le (h3 (by decide) hb) (Nat.zero_le _), Joins.ownsRow_le (h3 (by decide) hq) (Nat.zero_le _), h2 W0 KA hg.2⟩
theorem own_cellP {w : World} {B : Nat} {v : Value} {ps : List (Int × Int × Int)} (h : OwnsP w B v ps) (h0 : 0 < ps.length) : ∃ g cap, v = .slice (some ⟨g, 0, none⟩) ps.length cap ∧ ∀ j u, (flatP ps)[j]? = some u → w.cell? ⟨g, j, none⟩ = some u := by
  obtain ⟨g, cap, rfl⟩ := Joins.ownsRow_form h h0
  refine ⟨g, cap, rfl, fun j u hu => ?_⟩
  have := World.ownsRow.cells h (g := g) (by simp [Value.ownBlock]) j u hu
  rw [show (⟨g, 0, none⟩ : Addr).add j = ⟨g, j, none⟩ from by unfold Addr.add; split <;> simp_all] at this
  exact this
theorem own_cellF {w : World} {B : Nat} {v : Value} {fs : List (List Int)} (h : OwnsN 10 42 w B v fs) (h0 : 0 < fs.length) : ∃ g cap, v = .slice (some ⟨g, 0, none⟩) fs.length cap ∧ ∀ j u, (flatN 10 fs)[j]? = some u → w.cell? ⟨g, j, none⟩ = some u := by
  obtain ⟨g, cap, rfl⟩ := Joins.ownsRow_form h h0
  refine ⟨g, cap, rfl, fun j u hu => ?_⟩
  have := World.ownsRow.cells h (g := g) (by simp [Value.ownBlock]) j u hu
  rw [show (⟨g, 0, none⟩ : Addr).add j = ⟨g, j, none⟩ from by unfold Addr.add; split <;> simp_all] at this
  exact this
theorem inp_pq : InP [((1 : Int), (0 : Int), (-2 : Int)), (2, 0, 2)] := by unfold InP; decide
theorem rp_pq {w : World} {g : Nat} {T : TypeId} (h : Blk w g #[.int .i64 1, .int .i64 0, .int .i64 (-2), .int .i64 2, .int .i64 0, .int .i64 2] T) : ReadsP w (.slice (some ⟨g, 0, none⟩) 2 2) [(1, 0, -2), (2, 0, 2)] := by
  refine ⟨_, 2, rfl, (fun e => by cases e), (by decide), inp_pq, fun j hj => ⟨g, 0, rfl, ?_⟩⟩
  rcases (show j = 0 ∨ j = 1 by have : j < 2 := hj; omega) with rfl | rfl
  · exact ⟨h.cell _, h.cell _, h.cell _⟩
  · exact ⟨h.cell _, h.cell _, h.cell _⟩
theorem inp_bkA : InP bkA := by unfold InP bkA; decide
theorem inp_bkB : InP bkB := by unfold InP bkB; decide
theorem inp_bkD : InP bkD := by unfold InP bkD; decide

set_option maxRecDepth 100000 in
set_option maxHeartbeats 4000000 in
theorem cycleBegun_run (w : World) : Calls Tryz.prog 13 #[] w fun e w' => e = .returned (.bool true) ∧ Kpt w w' := by
  go_enter Tryz.func13, Tryz.ntmps13
  go_upto_region 6 with (first
    | (go_at_call 47; (with_reducible refine (some_run _).mono ?_); rintro e w1 ⟨rfl, k1⟩; have K1 := Lib.hid k1; have Z1 : Hid (Blk (w1.alloc (.cells #[.int .i64 0, .int .i64 0, .int .i64 0, .int .i64 0, .int .i64 0, .int .i64 0, .int .i64 0, .int .i64 0, .int .i64 0, .int .i64 0] 42)) w1.heap.size #[.int .i64 0, .int .i64 0, .int .i64 0, .int .i64 0, .int .i64 0, .int .i64 0, .int .i64 0, .int .i64 0, .int .i64 0, .int .i64 0] 42) := Blk.made _ _ _; have KZ1 : Hid (Kpt w (w1.alloc (.cells #[.int .i64 0, .int .i64 0, .int .i64 0, .int .i64 0, .int .i64 0, .int .i64 0, .int .i64 0, .int .i64 0, .int .i64 0, .int .i64 0] 42))) := K1.out.alloc _; clear k1)
    | (refine wp_storeF rfl (.tmp 1) (.tmp 17) rfl w1.heap.size _ _ rfl rfl Z1.out rfl rfl (by simp [Value.oneCell']) ?_; intro w2 r2 k2 o2; have R2 := Lib.hid r2; have K2 : Hid (Kpt w w2) := k2 _ _ KZ1.out K1.out.size; have x0 : World.cell? w2 ⟨w1.heap.size, 0, none⟩ = some (.int .i64 7) := R2.out.cell 0; have x1 : World.cell? w2 ⟨w1.heap.size, 1, none⟩ = some (.int .i64 1) := R2.out.cell 1; have x2 : World.cell? w2 ⟨w1.heap.size, 2, none⟩ = some (.int .i64 2) := R2.out.cell 2; have x3 : World.cell? w2 ⟨w1.heap.size, 3, none⟩ = some (.int .i64 0) := R2.out.cell 3; have x4 : World.cell? w2 ⟨w1.heap.size, 4, none⟩ = some (.int .i64 3) := R2.out.cell 4; have x5 : World.cell? w2 ⟨w1.heap.size, 5, none⟩ = some (.int .i64 739935) := R2.out.cell 5; have x6 : World.cell? w2 ⟨w1.heap.size, 6, none⟩ = some (.int .i64 100) := R2.out.cell 6; have x7 : World.cell? w2 ⟨w1.heap.size, 7, none⟩ = some (.int .i64 0) := R2.out.cell 7; have x8 : World.cell? w2 ⟨w1.heap.size, 8, none⟩ = some (.int .i64 0) := R2.out.cell 8; have x9 : World.cell? w2 ⟨w1.heap.size, 9, none⟩ = some (.int .i64 0) := R2.out.cell 9; have f6 : World.frozen? w2 ⟨w1.heap.size, 6, none⟩ = false := Blk.frozen R2.out 6; clear r2 k2 o2)
    | (go_at_call 21; (with_reducible refine (cs_add _).mono ?_); rintro e w3 ⟨fv, bv, rfl, of3, ob3, k3⟩; have K3 : Hid (Kpt w w3) := ktr (Below.setCell K2.out K1.out.size _) k3; have OF3 := Lib.hid of3; have OB3 := Lib.hid ob3; obtain ⟨a3, c3, rfl⟩ := formN 1 of3 rfl; obtain ⟨b3, d3, rfl⟩ := formQ 0 ob3 rfl; have Z3 : Hid (Blk (w3.alloc (.cells #[.int .i64 0, .slice none 0 0, .slice none 0 0] 31)) w3.heap.size #[.int .i64 0, .slice none 0 0, .slice none 0 0] 31) := Blk.made _ _ _; have KZ3 : Hid (Kpt w (w3.alloc (.cells #[.int .i64 0, .slice none 0 0, .slice none 0 0] 31))) := K3.out.alloc _; clear of3 ob3 k3)
    | (refine wp_storeW rfl (.tmp 2) (.tmp 23) rfl w3.heap.size _ _ rfl rfl Z3.out rfl rfl (by simp [Value.oneCell']) ?_; intro w4 r4 k4 o4; have R4 := Lib.hid r4; have K4 : Hid (Kpt w w4) := k4 _ _ KZ3.out K3.out.size; have KK4 : Hid (Kpt w3 w4) := k4 _ _ ((Kpt.refl w3).alloc _) (Nat.le_refl _); have OF4 := Lib.hid (OF3.out.kpt KK4.out); have OB4 := Lib.hid (row_kpt OB3.out KK4.out); have DV := Lib.hid (cs_deliver (.slice a3 1 c3) (.slice b3 0 d3) w4 (OF4.out.readsF cs_fl.1) (row_nil OF4.out) (OwnsP.reads (ps := []) OB4.out (inP_of (fun q hq => absurd hq (by simp))))); have y0 : World.cell? w4 ⟨w3.heap.size, 0, none⟩ = some (.int .i64 739935) := R4.out.cell 0; have y1 : World.cell? w4 ⟨w3.heap.size, 1, none⟩ = some (.slice a3 1 c3) := R4.out.cell 1; have y2 : World.cell? w4 ⟨w3.heap.size, 2, none⟩ = some (.slice b3 0 d3) := R4.out.cell 2; have R24 := R4; clear r4 k4 o4 x0 x1 x2 x3 x4 x5 x6 x7 x8 x9 f6)
    | (go_at_call 20; (with_reducible refine DV.out.mono ?_); rintro e w5 ⟨fv5, bv5, rfl, of5, ob5, k5⟩; have K5 : Hid (Kpt w w5) := ktr K4.out k5; have KK5 : Hid (Kpt w4 w5) := k5; have OF5 := Lib.hid of5; have OB5 := Lib.hid ob5; obtain ⟨a5, c5, rfl⟩ := formN 1 of5 rfl; obtain ⟨b5, d5, rfl⟩ := formQ 2 ob5 rfl; have Z5 : Hid (Blk (w5.alloc (.cells #[.int .i64 0, .slice none 0 0, .slice none 0 0] 31)) w5.heap.size #[.int .i64 0, .slice none 0 0, .slice none 0 0] 31) := Blk.made _ _ _; have KZ5 : Hid (Kpt w (w5.alloc (.cells #[.int .i64 0, .slice none 0 0, .slice none 0 0] 31))) := K5.out.alloc _; clear of5 ob5 k5)
    | (refine wp_storeW rfl (.tmp 4) (.tmp 28) rfl w5.heap.size _ _ rfl rfl Z5.out rfl rfl (by simp [Value.oneCell']) ?_; intro w6 r6 k6 o6; have R6 := Lib.hid r6; have K6 : Hid (Kpt w w6) := k6 _ _ KZ5.out K5.out.size; have KK6 : Hid (Kpt w5 w6) := k6 _ _ ((Kpt.refl w5).alloc _) (Nat.le_refl _); have OF6 := Lib.hid (OF5.out.kpt KK6.out); have OB6 := Lib.hid (row_kpt OB5.out KK6.out); have z0 : World.cell? w6 ⟨w5.heap.size, 0, none⟩ = some (.int .i64 739935) := R6.out.cell 0; have f60 : World.frozen? w6 ⟨w5.heap.size, 0, none⟩ = false := Blk.frozen R6.out 0; clear r6 k6 o6 y0 y1 y2))
  have BX : Hid (Blk (w6.setCell ⟨w5.heap.size, 0, none⟩ (.int .i64 739937)) w5.heap.size #[.int .i64 739937, .slice a5 1 c5, .slice b5 2 d5] 31) := Blk.put R6.out 0 _
  have K0 : Hid (Kpt w (w6.setCell ⟨w5.heap.size, 0, none⟩ (.int .i64 739937))) := Kpt.setCell K6.out (p := ⟨w5.heap.size, 0, none⟩) (Below.size K5.out) _
  have KT : Hid (Kpt w4 (w6.setCell ⟨w5.heap.size, 0, none⟩ (.int .i64 739937))) := Kpt.setCell (ktr KK5.out KK6.out) (p := ⟨w5.heap.size, 0, none⟩) (Below.size KK5.out) _
  have BT := Lib.hid (Blk.kpt R24.out KT.out)
  have TF : Hid (OwnsN 10 42 (w6.setCell ⟨w5.heap.size, 0, none⟩ (.int .i64 739937)) 0 (.slice a3 1 c3) [fbA]) := Joins.ownsRow_le (OwnsN.kpt OF4.out KT.out) (Nat.zero_le _)
  have TB : Hid (OwnsP (w6.setCell ⟨w5.heap.size, 0, none⟩ (.int .i64 739937)) 0 (.slice b3 0 d3) []) := Joins.ownsRow_le (row_kpt OB4.out KT.out) (Nat.zero_le _)
  have HF : Hid (OwnsN 10 42 (w6.setCell ⟨w5.heap.size, 0, none⟩ (.int .i64 739937)) 0 (.slice a5 1 c5) [fbB]) := Joins.ownsRow_le (row_away OF6.out R6.out (by decide) 0 (.int .i64 739937)) (Nat.zero_le _)
  have HB : Hid (OwnsP (w6.setCell ⟨w5.heap.size, 0, none⟩ (.int .i64 739937)) 0 (.slice b5 2 d5) bkA) := Joins.ownsRow_le (row_away OB6.out R6.out (by decide) 0 (.int .i64 739937)) (Nat.zero_le _)
  clear Z1 KZ1 K1 R2 K2 K3 OF3 OB3 Z3 KZ3 R4 K4 KK4 OF4 OB4 DV R24 K5 KK5 OF5 OB5 Z5 KZ5 R6 K6 KK6 OF6 OB6 z0 f60 KT
  generalize (w6.setCell ⟨w5.heap.size, 0, none⟩ (.int .i64 739937)) = W0 at *
  generalize w5.heap.size = B at *
  generalize w3.heap.size = BW at *
  go_cut [6, 7, 8] from 31 to 39 (fun v6 v7 v8 wc => ∃ g ga gc ha hc qa qc, v6 = .pointer (some ⟨g, 0, none⟩) ∧ v7 = .slice qa 2 qc ∧ v8 = .int .i64 0 ∧ Hid (W0.heap.size ≤ g) ∧ Hid (Blk wc g #[.int .i64 739938, .slice ga 1 gc, .slice ha 4 hc] 31) ∧ Hid (OwnsN 10 42 wc 0 (.slice ga 1 gc) [fbB]) ∧ Hid (OwnsP wc 0 (.slice ha 4 hc) bkB) ∧ Hid (OwnsP wc 0 (.slice qa 2 qc) [(1, 0, -2), (2, 0, 2)]) ∧ Hid (Kpt W0 wc))
  case first =>
    have KA : Hid (Kpt W0 W0) := Kpt.refl _
    have KO : Hid (Kpt W0 W0) := Kpt.refl _
    have x0 : World.cell? W0 ⟨B, 0, none⟩ = some (.int .i64 739937) := BX.out.cell 0
    have x1 : World.cell? W0 ⟨B, 1, none⟩ = some (.slice a5 1 c5) := BX.out.cell 1
    have x2 : World.cell? W0 ⟨B, 2, none⟩ = some (.slice b5 2 d5) := BX.out.cell 2
    have NG : Hid (∀ W hv tv pcv, Kpt W0 W → Reads W hv wkH → ReadsT W tv clsT → Reads W pcv (tenL 20) → Calls Tryz.prog 11 #[.agg #[.int .i64 96, hv, tv, .int .i64 0], .agg #[.int .i64 739937, .slice a5 1 c5, .slice b5 2 d5], pcv] W (NtRes W 0 739938 [fbB] bkB [(1, 0, -2), (2, 0, 2)])) := fun W hv tv pcv k h1 h2 h3 => cs_night1 hv tv pcv _ _ W h1 h2 h3 (OwnsN.readsF (OwnsN.kpt HF.out k) cs_fl.2.1) (row_nil (OwnsN.kpt HF.out k)) (OwnsP.reads (row_kpt HB.out k) inp_bkA)
    go_region_held3 (fun w' => World.cell? w' ⟨B, 0, none⟩ = some (.int .i64 739937) ∧ World.cell? w' ⟨B, 1, none⟩ = some (.slice a5 1 c5) ∧ World.cell? w' ⟨B, 2, none⟩ = some (.slice b5 2 d5))
      (first
        | go_keep
        | (exact ⟨(BX.out.kpt FO.out.2.2.2.2.2).cell 0, (BX.out.kpt FO.out.2.2.2.2.2).cell 1, (BX.out.kpt FO.out.2.2.2.2.2).cell 2⟩)
        | (exact ⟨x0, x1, x2⟩))
      (first
      | (go_at_call 48; (with_reducible refine (rules_made _).mono ?_); rintro z wa ⟨hv, tv, rfl, rh, rt, kk⟩; have HH := Lib.hid rh; have HT := Lib.hid rt; have KO := KA; have KB : Hid (Kpt W0 wa) := ktr KA.out (by first | exact kk | exact ktr ((Kpt.refl _).drewN 1) kk | exact ktr ((Kpt.refl _).alloc _) kk | exact ktr (((Kpt.refl _).drewN 1).alloc _) kk | exact ktr (((Kpt.refl _).alloc _).drewN 1) kk); have KA := KB; clear KB; have x0 : World.cell? wa ⟨B, 0, none⟩ = some (.int .i64 739937) := (BX.out.kpt KA.out).cell 0; have x1 : World.cell? wa ⟨B, 1, none⟩ = some (.slice a5 1 c5) := (BX.out.kpt KA.out).cell 1; have x2 : World.cell? wa ⟨B, 2, none⟩ = some (.slice b5 2 d5) := (BX.out.kpt KA.out).cell 2; (first | have BL := Lib.hid (And.intro (BL.out.1.kpt (by first | exact kk | exact ktr ((Kpt.refl _).drewN 1) kk | exact ktr ((Kpt.refl _).alloc _) kk | exact ktr (((Kpt.refl _).drewN 1).alloc _) kk | exact ktr (((Kpt.refl _).alloc _).drewN 1) kk)) BL.out.2) | have BL : Hid (Blk wa W0.heap.size #[.int .i64 0, .slice none 0 0, .slice none 0 0] 31 ∧ W0.heap.size ≤ W0.heap.size) := Lib.hid (And.intro ((Blk.made _ #[.int .i64 0, .slice none 0 0, .slice none 0 0] 31).kpt kk) (Below.size KO.out)) | have BL : Hid (Blk wa W0.heap.size #[.int .i64 0, .slice none 0 0, .slice none 0 0] 31 ∧ W0.heap.size ≤ W0.heap.size) := Lib.hid (And.intro ((Blk.made _ #[.int .i64 0, .slice none 0 0, .slice none 0 0] 31).kpt (ktr ((Kpt.refl _).drewN 1) kk)) (Below.size KO.out)) | have BL : Hid (Blk wa W0.heap.size #[.int .i64 0, .slice none 0 0, .slice none 0 0] 31 ∧ W0.heap.size ≤ W0.heap.size) := Lib.hid (And.intro (((Blk.made _ #[.int .i64 0, .slice none 0 0, .slice none 0 0] 31).drew).kpt kk) (Below.size KO.out)) | skip); (first | (have bz := blk_z BL.out.1; obtain ⟨bz0, bz1, bz2, bf0, bf1, bf2⟩ := bz) | skip); (try clear rh rt kk))
      | (go_at_call 49; (with_reducible refine (tenEach_run _).mono ?_); rintro z wb ⟨pv, rfl, rd, kk⟩; have HP := Lib.hid rd; have HH := Lib.hid (HH.out.kpt (by first | exact kk | exact ktr ((Kpt.refl _).drewN 1) kk | exact ktr ((Kpt.refl _).alloc _) kk | exact ktr (((Kpt.refl _).drewN 1).alloc _) kk | exact ktr (((Kpt.refl _).alloc _).drewN 1) kk)); have HT := Lib.hid (HT.out.kpt (by first | exact kk | exact ktr ((Kpt.refl _).drewN 1) kk | exact ktr ((Kpt.refl _).alloc _) kk | exact ktr (((Kpt.refl _).drewN 1).alloc _) kk | exact ktr (((Kpt.refl _).alloc _).drewN 1) kk)); have KO := KA; have KB : Hid (Kpt W0 wb) := ktr KA.out (by first | exact kk | exact ktr ((Kpt.refl _).drewN 1) kk | exact ktr ((Kpt.refl _).alloc _) kk | exact ktr (((Kpt.refl _).drewN 1).alloc _) kk | exact ktr (((Kpt.refl _).alloc _).drewN 1) kk); have KA := KB; clear KB; have x0 : World.cell? wb ⟨B, 0, none⟩ = some (.int .i64 739937) := (BX.out.kpt KA.out).cell 0; have x1 : World.cell? wb ⟨B, 1, none⟩ = some (.slice a5 1 c5) := (BX.out.kpt KA.out).cell 1; have x2 : World.cell? wb ⟨B, 2, none⟩ = some (.slice b5 2 d5) := (BX.out.kpt KA.out).cell 2; (first | have BL := Lib.hid (And.intro (BL.out.1.kpt (by first | exact kk | exact ktr ((Kpt.refl _).drewN 1) kk | exact ktr ((Kpt.refl _).alloc _) kk | exact ktr (((Kpt.refl _).drewN 1).alloc _) kk | exact ktr (((Kpt.refl _).alloc _).drewN 1) kk)) BL.out.2) | have BL : Hid (Blk wb wa.heap.size #[.int .i64 0, .slice none 0 0, .slice none 0 0] 31 ∧ W0.heap.size ≤ wa.heap.size) := Lib.hid (And.intro ((Blk.made _ #[.int .i64 0, .slice none 0 0, .slice none 0 0] 31).kpt kk) (Below.size KO.out)) | have BL : Hid (Blk wb wa.heap.size #[.int .i64 0, .slice none 0 0, .slice none 0 0] 31 ∧ W0.heap.size ≤ wa.heap.size) := Lib.hid (And.intro ((Blk.made _ #[.int .i64 0, .slice none 0 0, .slice none 0 0] 31).kpt (ktr ((Kpt.refl _).drewN 1) kk)) (Below.size KO.out)) | have BL : Hid (Blk wb wa.heap.size #[.int .i64 0, .slice none 0 0, .slice none 0 0] 31 ∧ W0.heap.size ≤ wa.heap.size) := Lib.hid (And.intro (((Blk.made _ #[.int .i64 0, .slice none 0 0, .slice none 0 0] 31).drew).kpt kk) (Below.size KO.out)) | skip); (first | (have bz := blk_z BL.out.1; obtain ⟨bz0, bz1, bz2, bf0, bf1, bf2⟩ := bz) | skip); (try clear rd kk))
      | (go_at_call 11; (first | (with_reducible refine (NG.out _ _ _ _ KA.out HH.out HT.out HP.out).mono ?_) | (with_reducible refine (NG.out _ _ _ _ (KA.out.alloc _) (HH.out.kpt ((Kpt.refl _).alloc _)) (HT.out.kpt ((Kpt.refl _).alloc _)) (HP.out.kpt ((Kpt.refl _).alloc _))).mono ?_)); rintro z wd ⟨fv, bv, qv, rfl, hf, hb, hq, kk⟩; have HFo := Lib.hid hf; have HBo := Lib.hid hb; have HQo := Lib.hid hq; obtain ⟨ga, gc, rfl⟩ := formN 1 hf rfl; obtain ⟨ha, hc, rfl⟩ := formQ 4 hb rfl; obtain ⟨qa, qc, rfl⟩ := formQ 2 hq rfl; have KO := KA; have KB : Hid (Kpt W0 wd) := ktr KA.out (by first | exact kk | exact ktr ((Kpt.refl _).drewN 1) kk | exact ktr ((Kpt.refl _).alloc _) kk | exact ktr (((Kpt.refl _).drewN 1).alloc _) kk | exact ktr (((Kpt.refl _).alloc _).drewN 1) kk); have KA := KB; clear KB; have x0 : World.cell? wd ⟨B, 0, none⟩ = some (.int .i64 739937) := (BX.out.kpt KA.out).cell 0; have x1 : World.cell? wd ⟨B, 1, none⟩ = some (.slice a5 1 c5) := (BX.out.kpt KA.out).cell 1; have x2 : World.cell? wd ⟨B, 2, none⟩ = some (.slice b5 2 d5) := (BX.out.kpt KA.out).cell 2; (first | have BL := Lib.hid (And.intro (BL.out.1.kpt (by first | exact kk | exact ktr ((Kpt.refl _).drewN 1) kk | exact ktr ((Kpt.refl _).alloc _) kk | exact ktr (((Kpt.refl _).drewN 1).alloc _) kk | exact ktr (((Kpt.refl _).alloc _).drewN 1) kk)) BL.out.2) | have BL : Hid (Blk wd wb.heap.size #[.int .i64 0, .slice none 0 0, .slice none 0 0] 31 ∧ W0.heap.size ≤ wb.heap.size) := Lib.hid (And.intro ((Blk.made _ #[.int .i64 0, .slice none 0 0, .slice none 0 0] 31).kpt kk) (Below.size KO.out)) | have BL : Hid (Blk wd wb.heap.size #[.int .i64 0, .slice none 0 0, .slice none 0 0] 31 ∧ W0.heap.size ≤ wb.heap.size) := Lib.hid (And.intro ((Blk.made _ #[.int .i64 0, .slice none 0 0, .slice none 0 0] 31).kpt (ktr ((Kpt.refl _).drewN 1) kk)) (Below.size KO.out)) | have BL : Hid (Blk wd wb.heap.size #[.int .i64 0, .slice none 0 0, .slice none 0 0] 31 ∧ W0.heap.size ≤ wb.heap.size) := Lib.hid (And.intro (((Blk.made _ #[.int .i64 0, .slice none 0 0, .slice none 0 0] 31).drew).kpt kk) (Below.size KO.out)) | skip); (first | (have bz := blk_z BL.out.1; obtain ⟨bz0, bz1, bz2, bf0, bf1, bf2⟩ := bz) | skip); (first | (have FO := Lib.hid (fin_old (T := 739938) BL.out KA.out HFo.out HBo.out HQo.out)) | skip); (try clear hf hb hq kk)))
    all_goals go_wp2
    all_goals go_meet
    all_goals (case rel => first | exact ⟨_, _, _, _, _, _, _, rfl, rfl, rfl, FO.out⟩ | exact ⟨_, _, _, _, _, _, _, rfl, rfl, rfl, fin_new KA.out HFo.out HBo.out HQo.out⟩)
  case rest =>
  obtain ⟨g6, a6, c6, b6, d6, q6, e6, rfl, rfl, rfl, hg, hb6, hf6, hk6, hq6, hw6⟩ := hcut
  have R6 := hb6
  have y0 : World.cell? wc ⟨g6, 0, none⟩ = some (.int .i64 739938) := hb6.out.cell 0
  have yf : World.frozen? wc ⟨g6, 0, none⟩ = false := Blk.frozen hb6.out 0
  go_upto_region 8 with fail
  have KS : Hid (Kpt W0 (wc.setCell ⟨g6, 0, none⟩ (.int .i64 739956))) := Kpt.setCell hw6.out (p := ⟨g6, 0, none⟩) hg.out _
  have XB : Hid (Blk (wc.setCell ⟨g6, 0, none⟩ (.int .i64 739956)) B #[.int .i64 739937, .slice a5 1 c5, .slice b5 2 d5] 31) := BX.out.kpt KS.out
  have XF : Hid (OwnsN 10 42 (wc.setCell ⟨g6, 0, none⟩ (.int .i64 739956)) 0 (.slice a5 1 c5) [fbB]) := OwnsN.kpt HF.out KS.out
  have BT := Lib.hid (BT.out.kpt KS.out)
  have TF := Lib.hid (OwnsN.kpt TF.out KS.out)
  have TB : Hid (OwnsP (wc.setCell ⟨g6, 0, none⟩ (.int .i64 739956)) 0 (.slice b3 0 d3) []) := row_kpt TB.out KS.out
  have K0 := Lib.hid (ktr K0.out KS.out)
  have HF : Hid (OwnsN 10 42 (wc.setCell ⟨g6, 0, none⟩ (.int .i64 739956)) 0 (.slice a6 1 c6) [fbB]) := row_away hf6.out R6.out (by decide) 0 (.int .i64 739956)
  have HB : Hid (OwnsP (wc.setCell ⟨g6, 0, none⟩ (.int .i64 739956)) 0 (.slice b6 4 d6) bkB) := row_away hk6.out R6.out (by decide) 0 (.int .i64 739956)
  have HQ : Hid (OwnsP (wc.setCell ⟨g6, 0, none⟩ (.int .i64 739956)) 0 (.slice q6 2 e6) [(1, 0, -2), (2, 0, 2)]) := row_away hq6.out R6.out (by decide) 0 (.int .i64 739956)
  have BX : Hid (Blk (wc.setCell ⟨g6, 0, none⟩ (.int .i64 739956)) g6 #[.int .i64 739956, .slice a6 1 c6, .slice b6 4 d6] 31) := Blk.put R6.out 0 _
  clear hg hb6 hf6 hk6 hq6 hw6 R6 y0 yf KS
  have BY := XB
  clear XB
  generalize (wc.setCell ⟨g6, 0, none⟩ (.int .i64 739956)) = W1 at *
  go_cut [9, 10, 11] from 40 to 48 (fun v9 v10 v11 wc => ∃ g ga gc ha hc qa qc, v9 = .pointer (some ⟨g, 0, none⟩) ∧ v10 = .slice qa 4 qc ∧ v11 = .int .i64 0 ∧ Hid (W1.heap.size ≤ g) ∧ Hid (Blk wc g #[.int .i64 739957, .slice ga 1 gc, .slice ha 4 hc] 31) ∧ Hid (OwnsN 10 42 wc 0 (.slice ga 1 gc) [fbC]) ∧ Hid (OwnsP wc 0 (.slice ha 4 hc) bkD) ∧ Hid (OwnsP wc 0 (.slice qa 4 qc) [(1, 0, -2), (2, 0, 2), (1, 0, -20000), (2, 0, 20000)]) ∧ Hid (Kpt W1 wc))
  case first =>
    have KA : Hid (Kpt W1 W1) := Kpt.refl _
    have KO : Hid (Kpt W1 W1) := Kpt.refl _
    have x0 : World.cell? W1 ⟨g6, 0, none⟩ = some (.int .i64 739956) := BX.out.cell 0
    have x1 : World.cell? W1 ⟨g6, 1, none⟩ = some (.slice a6 1 c6) := BX.out.cell 1
    have x2 : World.cell? W1 ⟨g6, 2, none⟩ = some (.slice b6 4 d6) := BX.out.cell 2
    have NG : Hid (∀ W hv tv pcv, Kpt W1 W → Reads W hv wkH → ReadsT W tv clsT → Reads W pcv (tenL 20) → Calls Tryz.prog 11 #[.agg #[.int .i64 96, hv, tv, .int .i64 0], .agg #[.int .i64 739956, .slice a6 1 c6, .slice b6 4 d6], pcv] W (NtRes W 0 739957 [fbC] bkD [(1, 0, -2), (2, 0, 2), (1, 0, -20000), (2, 0, 20000)])) := fun W hv tv pcv k h1 h2 h3 => cs_night2 hv tv pcv _ _ W h1 h2 h3 (OwnsN.readsF (OwnsN.kpt HF.out k) cs_fl.2.1) (row_nil (OwnsN.kpt HF.out k)) (OwnsP.reads (row_kpt HB.out k) inp_bkB)
    go_region_held3 (fun w' => World.cell? w' ⟨g6, 0, none⟩ = some (.int .i64 739956) ∧ World.cell? w' ⟨g6, 1, none⟩ = some (.slice a6 1 c6) ∧ World.cell? w' ⟨g6, 2, none⟩ = some (.slice b6 4 d6))
      (first
        | go_keep
        | (exact ⟨(BX.out.kpt FO.out.2.2.2.2.2).cell 0, (BX.out.kpt FO.out.2.2.2.2.2).cell 1, (BX.out.kpt FO.out.2.2.2.2.2).cell 2⟩)
        | (exact ⟨x0, x1, x2⟩))
      (first
      | (go_at_call 48; (with_reducible refine (rules_made _).mono ?_); rintro z wa ⟨hv, tv, rfl, rh, rt, kk⟩; have HH := Lib.hid rh; have HT := Lib.hid rt; have KO := KA; have KB : Hid (Kpt W1 wa) := ktr KA.out (by first | exact kk | exact ktr ((Kpt.refl _).drewN 1) kk | exact ktr ((Kpt.refl _).alloc _) kk | exact ktr (((Kpt.refl _).drewN 1).alloc _) kk | exact ktr (((Kpt.refl _).alloc _).drewN 1) kk); have KA := KB; clear KB; have x0 : World.cell? wa ⟨g6, 0, none⟩ = some (.int .i64 739956) := (BX.out.kpt KA.out).cell 0; have x1 : World.cell? wa ⟨g6, 1, none⟩ = some (.slice a6 1 c6) := (BX.out.kpt KA.out).cell 1; have x2 : World.cell? wa ⟨g6, 2, none⟩ = some (.slice b6 4 d6) := (BX.out.kpt KA.out).cell 2; (first | have BL := Lib.hid (And.intro (BL.out.1.kpt (by first | exact kk | exact ktr ((Kpt.refl _).drewN 1) kk | exact ktr ((Kpt.refl _).alloc _) kk | exact ktr (((Kpt.refl _).drewN 1).alloc _) kk | exact ktr (((Kpt.refl _).alloc _).drewN 1) kk)) BL.out.2) | have BL : Hid (Blk wa W1.heap.size #[.int .i64 0, .slice none 0 0, .slice none 0 0] 31 ∧ W1.heap.size ≤ W1.heap.size) := Lib.hid (And.intro ((Blk.made _ #[.int .i64 0, .slice none 0 0, .slice none 0 0] 31).kpt kk) (Below.size KO.out)) | have BL : Hid (Blk wa W1.heap.size #[.int .i64 0, .slice none 0 0, .slice none 0 0] 31 ∧ W1.heap.size ≤ W1.heap.size) := Lib.hid (And.intro ((Blk.made _ #[.int .i64 0, .slice none 0 0, .slice none 0 0] 31).kpt (ktr ((Kpt.refl _).drewN 1) kk)) (Below.size KO.out)) | have BL : Hid (Blk wa W1.heap.size #[.int .i64 0, .slice none 0 0, .slice none 0 0] 31 ∧ W1.heap.size ≤ W1.heap.size) := Lib.hid (And.intro (((Blk.made _ #[.int .i64 0, .slice none 0 0, .slice none 0 0] 31).drew).kpt kk) (Below.size KO.out)) | skip); (first | (have bz := blk_z BL.out.1; obtain ⟨bz0, bz1, bz2, bf0, bf1, bf2⟩ := bz) | skip); (try clear rh rt kk))
      | (go_at_call 49; (with_reducible refine (tenEach_run _).mono ?_); rintro z wb ⟨pv, rfl, rd, kk⟩; have HP := Lib.hid rd; have HH := Lib.hid (HH.out.kpt (by first | exact kk | exact ktr ((Kpt.refl _).drewN 1) kk | exact ktr ((Kpt.refl _).alloc _) kk | exact ktr (((Kpt.refl _).drewN 1).alloc _) kk | exact ktr (((Kpt.refl _).alloc _).drewN 1) kk)); have HT := Lib.hid (HT.out.kpt (by first | exact kk | exact ktr ((Kpt.refl _).drewN 1) kk | exact ktr ((Kpt.refl _).alloc _) kk | exact ktr (((Kpt.refl _).drewN 1).alloc _) kk | exact ktr (((Kpt.refl _).alloc _).drewN 1) kk)); have KO := KA; have KB : Hid (Kpt W1 wb) := ktr KA.out (by first | exact kk | exact ktr ((Kpt.refl _).drewN 1) kk | exact ktr ((Kpt.refl _).alloc _) kk | exact ktr (((Kpt.refl _).drewN 1).alloc _) kk | exact ktr (((Kpt.refl _).alloc _).drewN 1) kk); have KA := KB; clear KB; have x0 : World.cell? wb ⟨g6, 0, none⟩ = some (.int .i64 739956) := (BX.out.kpt KA.out).cell 0; have x1 : World.cell? wb ⟨g6, 1, none⟩ = some (.slice a6 1 c6) := (BX.out.kpt KA.out).cell 1; have x2 : World.cell? wb ⟨g6, 2, none⟩ = some (.slice b6 4 d6) := (BX.out.kpt KA.out).cell 2; (first | have BL := Lib.hid (And.intro (BL.out.1.kpt (by first | exact kk | exact ktr ((Kpt.refl _).drewN 1) kk | exact ktr ((Kpt.refl _).alloc _) kk | exact ktr (((Kpt.refl _).drewN 1).alloc _) kk | exact ktr (((Kpt.refl _).alloc _).drewN 1) kk)) BL.out.2) | have BL : Hid (Blk wb wa.heap.size #[.int .i64 0, .slice none 0 0, .slice none 0 0] 31 ∧ W1.heap.size ≤ wa.heap.size) := Lib.hid (And.intro ((Blk.made _ #[.int .i64 0, .slice none 0 0, .slice none 0 0] 31).kpt kk) (Below.size KO.out)) | have BL : Hid (Blk wb wa.heap.size #[.int .i64 0, .slice none 0 0, .slice none 0 0] 31 ∧ W1.heap.size ≤ wa.heap.size) := Lib.hid (And.intro ((Blk.made _ #[.int .i64 0, .slice none 0 0, .slice none 0 0] 31).kpt (ktr ((Kpt.refl _).drewN 1) kk)) (Below.size KO.out)) | have BL : Hid (Blk wb wa.heap.size #[.int .i64 0, .slice none 0 0, .slice none 0 0] 31 ∧ W1.heap.size ≤ wa.heap.size) := Lib.hid (And.intro (((Blk.made _ #[.int .i64 0, .slice none 0 0, .slice none 0 0] 31).drew).kpt kk) (Below.size KO.out)) | skip); (first | (have bz := blk_z BL.out.1; obtain ⟨bz0, bz1, bz2, bf0, bf1, bf2⟩ := bz) | skip); (try clear rd kk))
      | (go_at_call 11; (first | (with_reducible refine (NG.out _ _ _ _ KA.out HH.out HT.out HP.out).mono ?_) | (with_reducible refine (NG.out _ _ _ _ (KA.out.alloc _) (HH.out.kpt ((Kpt.refl _).alloc _)) (HT.out.kpt ((Kpt.refl _).alloc _)) (HP.out.kpt ((Kpt.refl _).alloc _))).mono ?_)); rintro z wd ⟨fv, bv, qv, rfl, hf, hb, hq, kk⟩; have HFo := Lib.hid hf; have HBo := Lib.hid hb; have HQo := Lib.hid hq; obtain ⟨ga, gc, rfl⟩ := formN 1 hf rfl; obtain ⟨ha, hc, rfl⟩ := formQ 4 hb rfl; obtain ⟨qa, qc, rfl⟩ := formQ 4 hq rfl; have KO := KA; have KB : Hid (Kpt W1 wd) := ktr KA.out (by first | exact kk | exact ktr ((Kpt.refl _).drewN 1) kk | exact ktr ((Kpt.refl _).alloc _) kk | exact ktr (((Kpt.refl _).drewN 1).alloc _) kk | exact ktr (((Kpt.refl _).alloc _).drewN 1) kk); have KA := KB; clear KB; have x0 : World.cell? wd ⟨g6, 0, none⟩ = some (.int .i64 739956) := (BX.out.kpt KA.out).cell 0; have x1 : World.cell? wd ⟨g6, 1, none⟩ = some (.slice a6 1 c6) := (BX.out.kpt KA.out).cell 1; have x2 : World.cell? wd ⟨g6, 2, none⟩ = some (.slice b6 4 d6) := (BX.out.kpt KA.out).cell 2; (first | have BL := Lib.hid (And.intro (BL.out.1.kpt (by first | exact kk | exact ktr ((Kpt.refl _).drewN 1) kk | exact ktr ((Kpt.refl _).alloc _) kk | exact ktr (((Kpt.refl _).drewN 1).alloc _) kk | exact ktr (((Kpt.refl _).alloc _).drewN 1) kk)) BL.out.2) | have BL : Hid (Blk wd wb.heap.size #[.int .i64 0, .slice none 0 0, .slice none 0 0] 31 ∧ W1.heap.size ≤ wb.heap.size) := Lib.hid (And.intro ((Blk.made _ #[.int .i64 0, .slice none 0 0, .slice none 0 0] 31).kpt kk) (Below.size KO.out)) | have BL : Hid (Blk wd wb.heap.size #[.int .i64 0, .slice none 0 0, .slice none 0 0] 31 ∧ W1.heap.size ≤ wb.heap.size) := Lib.hid (And.intro ((Blk.made _ #[.int .i64 0, .slice none 0 0, .slice none 0 0] 31).kpt (ktr ((Kpt.refl _).drewN 1) kk)) (Below.size KO.out)) | have BL : Hid (Blk wd wb.heap.size #[.int .i64 0, .slice none 0 0, .slice none 0 0] 31 ∧ W1.heap.size ≤ wb.heap.size) := Lib.hid (And.intro (((Blk.made _ #[.int .i64 0, .slice none 0 0, .slice none 0 0] 31).drew).kpt kk) (Below.size KO.out)) | skip); (first | (have bz := blk_z BL.out.1; obtain ⟨bz0, bz1, bz2, bf0, bf1, bf2⟩ := bz) | skip); (first | (have FO := Lib.hid (fin_old (T := 739957) BL.out KA.out HFo.out HBo.out HQo.out)) | skip); (try clear hf hb hq kk)))
    all_goals go_wp2
    all_goals go_meet
    all_goals (case rel => first | exact ⟨_, _, _, _, _, _, _, rfl, rfl, rfl, FO.out⟩ | exact ⟨_, _, _, _, _, _, _, rfl, rfl, rfl, fin_new KA.out HFo.out HBo.out HQo.out⟩)
  case rest =>
  obtain ⟨g9, a9, c9, b9, d9, q9, e9, rfl, rfl, rfl, hg, hb9, hf9, hk9, hq9, hw9⟩ := hcut
  obtain ⟨kx, cx, ex, hx⟩ := own_cellF (OwnsN.kpt XF.out hw9.out) (by decide)
  obtain ⟨rfl, -, rfl⟩ : a5 = some ⟨kx, 0, none⟩ ∧ True ∧ c5 = cx := by injection ex with e1 e2 e3; exact ⟨e1, trivial, e3⟩
  have CX : Hid (wc.cell? ⟨kx, 7, none⟩ = some (.int .i64 1000)) := hx 7 _ rfl
  obtain ⟨kq, cq, eq, hq⟩ := own_cellP hq9.out (by decide)
  obtain ⟨rfl, -, rfl⟩ : q9 = some ⟨kq, 0, none⟩ ∧ True ∧ e9 = cq := by injection eq with e1 e2 e3; exact ⟨e1, trivial, e3⟩
  have CQ : Hid (wc.cell? ⟨kq, 11, none⟩ = some (.int .i64 20000)) := hq 11 _ rfl
  clear hx hq ex eq
  have BY := Lib.hid (BY.out.kpt hw9.out)
  have BT := Lib.hid (BT.out.kpt hw9.out)
  have PQ : Hid (ReadsP wc (.slice q6 2 e6) [(1, 0, -2), (2, 0, 2)]) := OwnsP.reads (row_kpt HQ.out hw9.out) inp_pq
  have TD := Lib.hid (cs_tidy (.slice a9 1 c9) (.slice b9 4 d9) wc (OwnsN.readsF hf9.out cs_fl.2.2) (row_nil hf9.out) (OwnsP.reads hk9.out inp_bkD))
  have rf3 : ReadsF wc (.slice a3 1 c3) [fbA] := OwnsN.readsF (OwnsN.kpt TF.out hw9.out) cs_fl.1
  have rn3 : NilC (.slice a3 1 c3) := row_nil TF.out
  have rp3 : ReadsP wc (.slice b3 0 d3) [] := OwnsP.reads (ps := []) (row_kpt TB.out hw9.out) (inP_of (fun q hq => absurd hq (by simp)))
  have DV2 := Lib.hid (fun W (k : Kpt wc W) => cs_deliver2 (.slice a3 1 c3) (.slice b3 0 d3) W (rf3.kpt k) rn3 (rp3.kpt k))
  have CK : Hid (∀ W, Calls Tryz.prog 16 #[.agg #[.int .i64 0, .slice none 0 0, .slice none 0 0]] W fun e w' => e = .returned (.int .i64 0) ∧ Kpt W w') := fun W => by
    have := wcheck_run 0 (.slice none 0 0) (.slice none 0 0) [] [] W (readsF_nil _ _ _) (readsP_nil _ none 0 (fun _ => rfl))
    rwa [cb_3.2.2.2.2] at this
  have RU : Hid (∀ W, Calls Tryz.prog 14 #[.agg #[.int .i64 0, .slice none 0 0, .slice none 0 0, .int .i64 0]] W fun e w' => e = .returned (.int .i64 1) ∧ Kpt W w') := fun W => by
    have := rules_run 0 0 (.slice none 0 0) (.slice none 0 0) [] [] W (reads_nil _ none 0) (fun j hj => absurd hj (Nat.not_lt_zero j)) ⟨none, 0, rfl, Nat.zero_le _, fun k hk => absurd hk (Nat.not_lt_zero k)⟩
    rwa [cb_rul.2] at this
  have KW := Lib.hid (ktr K0.out hw9.out)
  have z0 : World.cell? wc ⟨g9, 0, none⟩ = some (.int .i64 739957) := hb9.out.cell 0
  have z1 : World.cell? wc ⟨g9, 1, none⟩ = some (.slice a9 1 c9) := hb9.out.cell 1
  have z2 : World.cell? wc ⟨g9, 2, none⟩ = some (.slice b9 4 d9) := hb9.out.cell 2
  have HB9 := hb9
  clear rf3 rn3 rp3 hf9 hk9 hq9 hw9 hg TF TB HF HB HQ XF BX K0 hb9
  go_wp2_with (first
    | (go_at_call 22; (with_reducible refine TD.out.mono ?_); rintro z w10 ⟨tv, bv, dv, rfl, ht, hb, hd, kk⟩; have HT := Lib.hid ht; have HBb := Lib.hid hb; have HD := Lib.hid hd; obtain ⟨ta, tc, rfl⟩ := formN 0 ht rfl; obtain ⟨ba, bc, rfl⟩ := formQ 4 hb rfl; obtain ⟨kd, dc, ed, hdd⟩ := own_cellF hd (by decide); subst ed; have CD : Hid (w10.cell? ⟨kd, 9, none⟩ = some (.int .i64 2000)) := hdd 9 _ rfl; have K10 : Hid (Kpt wc w10) := kk; have Z10 : Hid (Blk (w10.alloc (.cells #[.int .i64 0, .slice none 0 0, .slice none 0 0] 31)) w10.heap.size #[.int .i64 0, .slice none 0 0, .slice none 0 0] 31) := Blk.made _ _ _; have KZ10 : Hid (Kpt wc (w10.alloc (.cells #[.int .i64 0, .slice none 0 0, .slice none 0 0] 31))) := K10.out.alloc _; clear ht hb hd kk hdd TD z0 z1 z2)
    | (refine wp_storeW rfl (.tmp 12) (.tmp 51) rfl w10.heap.size _ _ rfl rfl Z10.out rfl rfl (by simp [Value.oneCell']) ?_; intro w11 r11 k11 o11; have R11 := Lib.hid r11; have K11 : Hid (Kpt wc w11) := k11 _ _ KZ10.out K10.out.size; have KK11 : Hid (Kpt w10 w11) := k11 _ _ ((Kpt.refl w10).alloc _) (Nat.le_refl _); have CD := Lib.hid (KK11.out.cell CD.out); have x0 : World.cell? w11 ⟨BW, 0, none⟩ = some (.int .i64 739935) := (BT.out.kpt K11.out).cell 0; have x1 : World.cell? w11 ⟨BW, 1, none⟩ = some (.slice a3 1 c3) := (BT.out.kpt K11.out).cell 1; have x2 : World.cell? w11 ⟨BW, 2, none⟩ = some (.slice b3 0 d3) := (BT.out.kpt K11.out).cell 2; clear r11 k11 o11)
    | (go_at_call 20; (with_reducible refine (DV2.out _ K11.out).mono ?_); rintro z w12 ⟨fv, bv, rfl, hf, hb, kk⟩; obtain ⟨fa, fc, rfl⟩ := formN 0 hf rfl; obtain ⟨ba2, bc2, rfl⟩ := formQ 0 hb rfl; have K12 : Hid (Kpt wc w12) := ktr K11.out kk; have KK12 : Hid (Kpt w11 w12) := kk; have Z12 : Hid (Blk (w12.alloc (.cells #[.int .i64 0, .slice none 0 0, .slice none 0 0] 31)) w12.heap.size #[.int .i64 0, .slice none 0 0, .slice none 0 0] 31) := Blk.made _ _ _; have KZ12 : Hid (Kpt wc (w12.alloc (.cells #[.int .i64 0, .slice none 0 0, .slice none 0 0] 31))) := K12.out.alloc _; clear hf hb kk x0 x1 x2)
    | (refine wp_storeW rfl (.tmp 15) (.tmp 57) rfl w12.heap.size _ _ rfl rfl Z12.out rfl rfl (by simp [Value.oneCell']) ?_; intro w13 r13 k13 o13; have K13 : Hid (Kpt wc w13) := k13 _ _ KZ12.out K12.out.size; have KK13 : Hid (Kpt w11 w13) := ktr KK12.out (k13 _ _ ((Kpt.refl w12).alloc _) (Nat.le_refl _)); have CD := Lib.hid (KK13.out.cell CD.out); have R13 := Lib.hid (R11.out.kpt KK13.out); have u1 : World.cell? w13 ⟨B, 1, none⟩ = some (.slice (some ⟨kx, 0, none⟩) 1 c5) := (BY.out.kpt K13.out).cell 1; have u7 : World.cell? w13 ⟨kx, 7, none⟩ = some (.int .i64 1000) := K13.out.cell CX.out; have PQ := Lib.hid (PQ.out.kpt K13.out); have KP : Hid (Kpt w13 (w13.alloc (.cells #[.int .i64 1, .int .i64 0, .int .i64 (-2), .int .i64 2, .int .i64 0, .int .i64 2] 55))) := (Kpt.refl _).alloc _; clear r13 k13 o13)
    | (go_at_call 19; (with_reducible refine (sameP_any _ _ _ _ (PQ.out.kpt KP.out) (rp_pq (Blk.made _ _ _))).mono ?_); rintro z w14 ⟨rfl, kk⟩; have KK14 : Hid (Kpt w13 w14) := ktr KP.out kk; have K14 : Hid (Kpt wc w14) := ktr K13.out KK14.out; have v11 : World.cell? w14 ⟨kq, 11, none⟩ = some (.int .i64 20000) := K14.out.cell CQ.out; have v0 : World.cell? w14 ⟨g9, 0, none⟩ = some (.int .i64 739957) := (HB9.out.kpt K14.out).cell 0; have v1 : World.cell? w14 ⟨w10.heap.size, 1, none⟩ = some (.slice ta 0 tc) := (R13.out.kpt KK14.out).cell 1; have v9 : World.cell? w14 ⟨kd, 9, none⟩ = some (.int .i64 2000) := KK14.out.cell CD.out; clear kk u1 u7)
    | (go_at_call 16; (with_reducible refine (CK.out _).mono ?_); rintro z w15 ⟨rfl, kk⟩; have K15 : Hid (Kpt wc w15) := ktr K14.out kk; clear kk)
    | (go_at_call 14; (with_reducible refine (RU.out _).mono ?_); rintro z w16 ⟨rfl, kk⟩; have K16 : Hid (Kpt wc w16) := ktr K15.out kk; clear kk))
  go_ret
  exact ⟨rfl, ktr KW.out K16.out⟩

end Go.Proofs.YthaahebggboliaaGreat
