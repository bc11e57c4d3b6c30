/-
  Merged: ClmD.
-/
import Derived.RangeFuncNested
import Derived.RangeFuncBound
import Derived.RangeFuncCalls
import Derived.RangeFuncLeaves
import Derived.RangeFuncFrom
import Derived.RangeFuncGives
import Derived.Shelf.Abstract
import Derived.Shelf.RegionOpen
import Derived.OwnWalkIn
import Derived.TacticsInMore
import Derived.LoopNIn
import Derived.LoopIn
import Derived.Test.YtgccipmeiceonaaMk12
import Derived.Test.YtgccipmeiceonaaMk7
-- ClmD
namespace Go.Proofs.Ytgccipmeiceonaa
open Go.RowKit Go.Shelf
set_option linter.unusedVariables false
attribute [local go_sem] Oper.semAt_some

theorem wpIn_storeF {F : Fence} {n : Nat} {ops : Array Oper} {rest : List Oper} {o : Oper} {a : Act} {w : World} {Q : Exit → Act → World → Prop} (hgd : o.guard = none) (x y : Operand) (ho : o.op = .store 38 x y)
    (g : Nat) (cs old : Array Value) (hx : a.eval x = .pointer (some ⟨g, 0, none⟩)) (hy : a.eval y = .agg cs) (hg : Blk w g old 38) (hs : old.size = 10) (hc : cs.size = 10) (h1 : cs.all (·.oneCell') = true)
    (h : ∀ w', Blk w' g cs 38 → (∀ B w0, Below B w0 w → B ≤ g → Below B w0 w') → (∀ k, k ≠ g → w'.heap[k]? = w.heap[k]?) → wpListIn F n Try.prog ops Q rest (a.put o.dst undef) w') : wpListIn F n Try.prog ops Q (o :: rest) a w :=
  wpListIn_plain hgd fun K hK => by
    have hq := h _ (setRow_heap w g old cs _ _ hg) (fun B w0 hb hB => below_setRow hb hB cs) (fun k hk => setRow_other w g k cs hk)
    unfold Oper.wpIn
    refine ⟨by simp [Oper.about, ho], ?_⟩
    rw [Oper.semAt_plain F _ _ (by rw [ho]; intro c hc'; cases hc')]
    simp only [execOp, ho, hx, hy, Instr.storeAt, Instr.sureAddr, Sem.run_bind, Sem.run_pure, Result.andThen_ok, run_storeVar_row (P := Try.prog) w g 38 38 old cs hg (by rw [hc]; exact Try.sizeFail) (by omega) h1]
    exact hK _ _ hq
theorem wpIn_loadF {F : Fence} {n : Nat} {ops : Array Oper} {rest : List Oper} {o : Oper} {a : Act} {w : World} {Q : Exit → Act → World → Prop} (hgd : o.guard = none) (x : Operand) (ho : o.op = .load 38 x)
    (g : Nat) (cs : Array Value) (hx : a.eval x = .pointer (some ⟨g, 0, none⟩)) (hg : Blk w g cs 38) (hc : cs.size = 10)
    (h : wpListIn F n Try.prog ops Q rest (a.put o.dst (.agg cs)) w) : wpListIn F n Try.prog ops Q (o :: rest) a w :=
  wpListIn_plain hgd fun K hK => by
    unfold Oper.wpIn
    refine ⟨by simp [Oper.about, ho], ?_⟩
    rw [Oper.semAt_plain F _ _ (by rw [ho]; intro c hc'; cases hc')]
    simp only [execOp, ho, hx, Instr.loadAt, Instr.sureAddr, Sem.run_bind, Sem.run_pure, Result.andThen_ok, run_loadVar_row (P := Try.prog) w g 38 38 cs (0, 0) _ hg Try.underlying38 rfl (by rw [hc]; exact Try.sizeFail)]
    exact hK _ _ h

theorem kgrown {w w' : World} (h : Kpt w w') : w.grownBy w' none := ⟨Below.os h, Below.tape h, Below.output h, Below.size h, fun k hk _ => Below.block h k hk⟩
/-- how many of a fail are open, told as a list -/
def openL (l : List Int) : Int := openV (l.getD 0 0) (l.getD 1 0) (l.getD 2 0) (l.getD 3 0) (l.getD 4 0) (l.getD 5 0) (l.getD 6 0) (l.getD 7 0) (l.getD 8 0) (l.getD 9 0)
/-- an event reaches a fail -/
def hitB (P : Int) (l : List Int) : Bool := decide (l.getD 4 0 = P) && decide (0 < openL l)
/-- those of the first k fails that an event reaches -/
def hit (P : Int) (fs : List (List Int)) (k : Nat) : List (Fin fs.length) := ((List.finRange fs.length).take k).filter fun i => hitB P (fs.getD i.1 [])
theorem hit_s {P : Int} {fs : List (List Int)} {k : Nat} (h : k < fs.length) : hit P fs (k + 1) = hit P fs k ++ (if hitB P (fs.getD k []) = true then [⟨k, h⟩] else []) := by
  unfold hit
  rw [List.take_succ_eq_append_getElem (by simpa using h), List.filter_append]
  congr 1
  have : (List.finRange fs.length)[k]'(by simpa using h) = ⟨k, h⟩ := by simp
  rw [this]
  by_cases e : hitB P (fs.getD k []) = true
  · rw [if_pos e, List.filter_cons_of_pos (by simpa using e), List.filter_nil]
  · rw [if_neg e, List.filter_cons_of_neg (by simpa using e), List.filter_nil]
theorem hit_len (P : Int) (fs : List (List Int)) (k : Nat) : (hit P fs k).length ≤ k := by
  unfold hit; refine Nat.le_trans (List.length_filter_le _ _) ?_; rw [List.length_take]; exact Nat.min_le_left _ _
theorem hit_pre (P : Int) (fs : List (List Int)) {k m : Nat} (h : k ≤ m) : hit P fs k <+: hit P fs m := by
  unfold hit
  exact List.IsPrefix.filter _ (List.take_prefix_take_left h)
theorem hit_all (P : Int) (fs : List (List Int)) : ∀ x ∈ hit P fs fs.length, hitB P (fs.getD x.1 []) = true := by
  intro x hx
  unfold hit at hx
  exact (List.mem_filter.1 hx).2

/-- a round keeps what lay below, and a box -/
def KpC (n₀ B : Nat) (W W' : World) : Prop := Below n₀ W W' ∧ W'.heap[B]? = W.heap[B]?
theorem KpC.t {n₀ B : Nat} {X Y Z : World} (h : KpC n₀ B X Y) (k : KpC n₀ B Y Z) : KpC n₀ B X Z := ⟨h.1.trans k.1, k.2.trans h.2⟩
theorem KpC.b {n₀ B : Nat} {w : World} (hn : n₀ ≤ w.heap.size) (hB : B < w.heap.size) (W : World) (l : Nat) (o o' : Obj) (hl : w.heap.size ≤ l) (h : W.heap[l]? = some o) (h1 : o.isCells = false) (h2 : o.isWalk = false) : KpC n₀ B W (W.putObj l o') :=
  ⟨belowK_b hn W l o o' hl h h1 h2, World.putObj_heap_other (by omega)⟩
theorem Blk.same {W W' : World} {B : Nat} {cs : Array Value} {T : TypeId} (hb : Blk W B cs T) (h : W'.heap[B]? = W.heap[B]?) : Blk W' B cs T := h.trans hb

set_option maxRecDepth 100000 in
set_option maxHeartbeats 4000000 in
theorem holdIter_in (n : Nat) (hn : 1 ≤ n) (l : Nat) (w0 : World) (P C G O : Int) (v : Value) (fs : List (List Int)) (Bs Be : Nat) (hR : ReadsF w0 v fs)
    (J Jx : List (Fin fs.length) → World → Prop) (W0 : World) (hJ : AbidesFrom W0.heap.size J) (g0 : Kpt w0 W0) (hB : W0.cell? ⟨Bs, 0, none⟩ = some v) (hE : Blk W0 Be #[.int .i64 P, .int .i64 C, .int .i64 G, .int .i64 O] 53)
    (hY : ∀ pre x W1, J pre W1 → pre.length < fs.length → YieldAt Fence.wide (n - 1) Try.prog l #[.int .i64 ((x.1 : Nat) : Int), .agg #[.int .i64 P, .int .i64 C, .int .i64 G, .int .i64 O, .int .i64 (openL (fs.getD x.1 []))]] W1 fun e W' =>
      (e = .returned (.bool true) ∧ J (pre ++ [x]) W' ∧ KpC w0.heap.size Be W1 W') ∨ (e = .returned (.bool false) ∧ Jx (pre ++ [x]) W'))
    (h0 : J [] W0) :
    CallsIn Fence.wide n Try.prog 125 #[.func (.yield l) #[] #[], .pointer (some ⟨Bs, 0, none⟩), .pointer (some ⟨Be, 0, none⟩)] W0 fun e W' => (∃ v, e = .returned v) ∧
      ((∃ ys, ys = hit P fs fs.length ∧ J ys W') ∨ (∃ pre, pre <+: hit P fs fs.length ∧ Jx pre W')) := by
  obtain ⟨a, cap, rfl, hm, -, hc⟩ := hR
  unfold maxLen at hm
  have HC := Lib.hid hc
  have HJ := Lib.hid hJ
  have HE := Lib.hid hE
  have G0 := Lib.hid g0
  have HY := Lib.hid hY
  have c0 := hB
  have H0 : Hid (J (hit P fs 0) W0) := h0
  have HS := Lib.hid (fun k (h : k < fs.length) => hit_s (P := P) h)
  have HL := Lib.hid (fun k => hit_len P fs k)
  have HP := Lib.hid (fun k (h : k ≤ fs.length) => hit_pre P fs h)
  clear hc hJ hE g0 hY hB h0
  refine callsIn_of_wp Try.func125 rfl trivial ?_ rfl
  simp only [Try.ntmps125, List.size_toArray, List.length_cons, List.length_nil, Nat.reduceAdd, Nat.reduceSub, Array.replicate_succ, Array.replicate_zero, List.push_toArray, List.append_toArray, List.nil_append, List.cons_append]
  gi_wp2
  clear c0
  gi_loopw [10] (fun i wr => ∃ k : Nat, k ≤ fs.length ∧ i = .int .i64 (k : Int) ∧ Hid (J (hit P fs k) wr) ∧ Hid (Kpt w0 wr) ∧ Hid (Blk wr Be #[.int .i64 P, .int .i64 C, .int .i64 G, .int .i64 O] 53)) (fun i _ => fs.length - (intOf i).toNat)
  case atStart => exact ⟨0, Nat.zero_le _, rfl, H0.out, G0.out, HE.out⟩
  case round =>
    obtain ⟨k, hk, rfl, HJs, HK, HB⟩ := hrel
    by_cases hlt : k < fs.length
    · obtain ⟨g, off, rfl, hfl⟩ := HC.out k hlt
      have hf := hfl.kpt HK.out
      have hs := HS.out k hlt
      have hlen : (hit P fs k).length < fs.length := Nat.lt_of_le_of_lt (HL.out k) hlt
      have HQ := Lib.hid (HP.out (k + 1) hlt)
      have hyk := fun W1 (h : J (hit P fs k) W1) => HY.out (hit P fs k) ⟨k, hlt⟩ W1 h hlen
      unfold hitB openL at hs
      unfold openL at hyk
      dsimp only at hyk
      have c0 : wr.cell? ⟨g, off + k * 10, none⟩ = _ := hf 0 (by omega)
      have c1 : wr.cell? ⟨g, off + k * 10 + 1, none⟩ = _ := hf 1 (by omega)
      have c2 : wr.cell? ⟨g, off + k * 10 + 2, none⟩ = _ := hf 2 (by omega)
      have c3 : wr.cell? ⟨g, off + k * 10 + 3, none⟩ = _ := hf 3 (by omega)
      have c4 : wr.cell? ⟨g, off + k * 10 + 4, none⟩ = _ := hf 4 (by omega)
      have c5 : wr.cell? ⟨g, off + k * 10 + 5, none⟩ = _ := hf 5 (by omega)
      have c6 : wr.cell? ⟨g, off + k * 10 + 6, none⟩ = _ := hf 6 (by omega)
      have c7 : wr.cell? ⟨g, off + k * 10 + 7, none⟩ = _ := hf 7 (by omega)
      have c8 : wr.cell? ⟨g, off + k * 10 + 8, none⟩ = _ := hf 8 (by omega)
      have c9 : wr.cell? ⟨g, off + k * 10 + 9, none⟩ = _ := hf 9 (by omega)
      clear hf hfl
      generalize (fs.getD k []).getD 0 0 = i at *
      generalize (fs.getD k []).getD 1 0 = f at *
      generalize (fs.getD k []).getD 2 0 = t at *
      generalize (fs.getD k []).getD 3 0 = c at *
      generalize (fs.getD k []).getD 4 0 = p at *
      generalize (fs.getD k []).getD 5 0 = d at *
      generalize (fs.getD k []).getD 6 0 = u at *
      generalize (fs.getD k []).getD 7 0 = x at *
      generalize (fs.getD k []).getD 8 0 = b at *
      generalize (fs.getD k []).getD 9 0 = y at *
      have OX := Lib.hid (fun w => fopenX_run i f t c p d u x b y w)
      generalize openV i f t c p d u x b y = U at *
      generalize failE i f t c p d u x b y = E at *
      have HYK := Lib.hid hyk
      have y1 : decide ((k : Int) < (fs.length : Int)) = true := decide_eq_true (by omega)
      have ZB : Hid (Blk (wr.alloc (.cells #[.int .i64 0, .int .i64 0, .int .i64 0, .int .i64 0, .int .i64 0, .int .i64 0, .int .i64 0, .int .i64 0, .int .i64 0, .int .i64 0] 38)) wr.heap.size #[.int .i64 0, .int .i64 0, .int .i64 0, .int .i64 0, .int .i64 0, .int .i64 0, .int .i64 0, .int .i64 0, .int .i64 0, .int .i64 0] 38) := Blk.made _ _ _
      have KZ : Hid (Kpt wr (wr.alloc (.cells #[.int .i64 0, .int .i64 0, .int .i64 0, .int .i64 0, .int .i64 0, .int .i64 0, .int .i64 0, .int .i64 0, .int .i64 0, .int .i64 0] 38))) := (Kpt.refl wr).alloc _
      clear hyk
      by_cases hp : p = P
      · subst hp
        by_cases hu : 0 < U
        · have hd0 : decide ((0 : Int) < U) = true := decide_eq_true hu
          have HV : Hid (hit p fs (k + 1) = hit p fs k ++ [⟨k, hlt⟩]) := by unfold Hid; rw [hs]; simp [hu]
          clear hs
          gi_wp2_with (first
            | (refine wpIn_storeF rfl (.tmp 5) (.tmp 14) rfl wr.heap.size _ _ rfl rfl ZB.out rfl rfl (by simp [Value.oneCell']) ?_; intro w9 r9 k9 o9; have R9 := Lib.hid r9; have K9 : Hid (Kpt wr w9) := Lib.hid (k9 _ _ KZ.out (Nat.le_refl _)); clear r9 k9 o9)
            | (refine wpIn_loadF rfl (.tmp 5) rfl wr.heap.size _ rfl R9.out rfl ?_)
            | (refine ⟨trivial, ?_⟩; gi_at_call 107; refine (callsIn_wide.2 (OX.out _)).mono ?_; rintro e w2 ⟨rfl, k2⟩; have K2 := Lib.hid (ktr K9.out k2); have ci : World.cell? w2 ⟨wr.heap.size, 4, none⟩ = some (.int .i64 p) := Blk.cell (R9.out.kpt k2) 4; have BE := Lib.hid (HB.out.kpt K2.out); have e0 : World.cell? w2 ⟨Be, 0, none⟩ = some (.int .i64 p) := BE.out.cell 0; have e1 : World.cell? w2 ⟨Be, 1, none⟩ = some (.int .i64 C) := BE.out.cell 1; have e2 : World.cell? w2 ⟨Be, 2, none⟩ = some (.int .i64 G) := BE.out.cell 2; have e3 : World.cell? w2 ⟨Be, 3, none⟩ = some (.int .i64 O) := BE.out.cell 3; clear k2; obtain ⟨fn, tmps, assign, body, hy, hR⟩ := HYK.out w2 (HJ.out _ wr w2 none HJs.out (kgrown K2.out) (fun r e => by cases e)); have HR := Lib.hid hR; clear hR))
          refine HR.out.mono ?_
          rintro e W3 (⟨rfl, hJ3, hk3⟩ | ⟨rfl, hJx3⟩)
          · gi_wp2
            go_roundw
            case rel => exact ⟨k + 1, hlt, by go_num, by unfold Hid; rw [HV.out]; exact hJ3, (HK.out.trans (K2.out.mono HK.out.size)).trans hk3.1, BE.out.same hk3.2⟩
            case measure => simp [intOf]; omega
          · gi_wp2
            refine bodyPost_ret (results_none rfl _ _ _) rfl ?_
            exact ⟨⟨_, rfl⟩, .inr ⟨_, by rw [← HV.out]; exact HQ.out, hJx3⟩⟩
        · have hd0 : decide ((0 : Int) < U) = false := decide_eq_false hu
          have HV : Hid (hit p fs (k + 1) = hit p fs k) := by unfold Hid; rw [hs]; simp [hu]
          clear hs
          gi_wp2_with (first
            | (refine wpIn_storeF rfl (.tmp 5) (.tmp 14) rfl wr.heap.size _ _ rfl rfl ZB.out rfl rfl (by simp [Value.oneCell']) ?_; intro w9 r9 k9 o9; have R9 := Lib.hid r9; have K9 : Hid (Kpt wr w9) := Lib.hid (k9 _ _ KZ.out (Nat.le_refl _)); clear r9 k9 o9)
            | (refine wpIn_loadF rfl (.tmp 5) rfl wr.heap.size _ rfl R9.out rfl ?_)
            | (refine ⟨trivial, ?_⟩; gi_at_call 107; refine (callsIn_wide.2 (OX.out _)).mono ?_; rintro e w2 ⟨rfl, k2⟩; have K2 := Lib.hid (ktr K9.out k2); have ci : World.cell? w2 ⟨wr.heap.size, 4, none⟩ = some (.int .i64 p) := Blk.cell (R9.out.kpt k2) 4; have BE := Lib.hid (HB.out.kpt K2.out); have e0 : World.cell? w2 ⟨Be, 0, none⟩ = some (.int .i64 p) := BE.out.cell 0; have e1 : World.cell? w2 ⟨Be, 1, none⟩ = some (.int .i64 C) := BE.out.cell 1; have e2 : World.cell? w2 ⟨Be, 2, none⟩ = some (.int .i64 G) := BE.out.cell 2; have e3 : World.cell? w2 ⟨Be, 3, none⟩ = some (.int .i64 O) := BE.out.cell 3; clear k2))
          refine ⟨fun _ h => (by cases h), ?_⟩
          gi_wp2
          go_roundw
          case rel => exact ⟨k + 1, hlt, by go_num, by unfold Hid; rw [HV.out]; exact HJ.out _ wr w2 none HJs.out (kgrown K2.out) (fun r e => by cases e), HK.out.trans (K2.out.mono HK.out.size), BE.out⟩
          case measure => simp [intOf]; omega
      · have hp0 : (p == P) = false := beq_eq_false_iff_ne.2 hp
        have HV : Hid (hit P fs (k + 1) = hit P fs k) := by unfold Hid; rw [hs]; simp [hp]
        clear hs
        gi_wp2_with (first
          | (refine wpIn_storeF rfl (.tmp 5) (.tmp 14) rfl wr.heap.size _ _ rfl rfl ZB.out rfl rfl (by simp [Value.oneCell']) ?_; intro w9 r9 k9 o9; have R9 := Lib.hid r9; have K9 : Hid (Kpt wr w9) := Lib.hid (k9 _ _ KZ.out (Nat.le_refl _)); clear r9 k9 o9)
          | (refine wpIn_loadF rfl (.tmp 5) rfl wr.heap.size _ rfl R9.out rfl ?_)
          | (refine ⟨trivial, ?_⟩; gi_at_call 107; refine (callsIn_wide.2 (OX.out _)).mono ?_; rintro e w2 ⟨rfl, k2⟩; have K2 := Lib.hid (ktr K9.out k2); have ci : World.cell? w2 ⟨wr.heap.size, 4, none⟩ = some (.int .i64 p) := Blk.cell (R9.out.kpt k2) 4; have BE := Lib.hid (HB.out.kpt K2.out); have e0 : World.cell? w2 ⟨Be, 0, none⟩ = some (.int .i64 P) := BE.out.cell 0; have e1 : World.cell? w2 ⟨Be, 1, none⟩ = some (.int .i64 C) := BE.out.cell 1; have e2 : World.cell? w2 ⟨Be, 2, none⟩ = some (.int .i64 G) := BE.out.cell 2; have e3 : World.cell? w2 ⟨Be, 3, none⟩ = some (.int .i64 O) := BE.out.cell 3; clear k2))
        refine ⟨fun _ h => (by cases h), ?_⟩
        gi_wp2
        go_roundw
        case rel => exact ⟨k + 1, hlt, by go_num, by unfold Hid; rw [HV.out]; exact HJ.out _ wr w2 none HJs.out (kgrown K2.out) (fun r e => by cases e), HK.out.trans (K2.out.mono HK.out.size), BE.out⟩
        case measure => simp [intOf]; omega
    · have hkl : k = fs.length := by omega
      have y1 : decide ((k : Int) < (fs.length : Int)) = false := decide_eq_false (by omega)
      have HF : Hid (J (hit P fs fs.length) wr) := by have := HJs.out; rwa [hkl] at this
      clear HJs
      gi_wp2
      go_end0
      exact ⟨⟨_, rfl⟩, .inl ⟨_, rfl, HF.out⟩⟩

end Go.Proofs.Ytgccipmeiceonaa
