/-
  Merged: ClmD, ClmE, ClmR, ClmF.
-/
import Derived.RangeFuncNested
import Derived.RangeFuncBound
import Derived.RangeFuncCalls
import Derived.RangeFuncLeaves
import Derived.RangeFuncFrom
import Derived.RangeFuncGives
import Derived.Shelf.Abstract
import Derived.Shelf.RegionOpen
import Derived.OwnWalkIn
import Derived.TacticsInMore
import Derived.LoopNIn
import Derived.LoopIn
import Derived.Test.YtklaojahocjeiaaMe2
import Derived.Test.YtklaojahocjeiaaMe1
import Derived.RangeFuncBox
import Derived.RangeFuncWrites
import Derived.Sort.BigQuietIn
import Derived.Test.YtklaojahocjeiaaKept
-- ClmD
namespace Go.Proofs.Ytklaojahocjeiaa
open Go.RowKit Go.Shelf
set_option linter.unusedVariables false
attribute [local go_sem] Oper.semAt_some

theorem wpIn_storeF {F : Fence} {n : Nat} {ops : Array Oper} {rest : List Oper} {o : Oper} {a : Act} {w : World} {Q : Exit → Act → World → Prop} (hgd : o.guard = none) (x y : Operand) (ho : o.op = .store 49 x y)
    (g : Nat) (cs old : Array Value) (hx : a.eval x = .pointer (some ⟨g, 0, none⟩)) (hy : a.eval y = .agg cs) (hg : Blk w g old 49) (hs : old.size = 10) (hc : cs.size = 10) (h1 : cs.all (·.oneCell') = true)
    (h : ∀ w', Blk w' g cs 49 → (∀ B w0, Below B w0 w → B ≤ g → Below B w0 w') → (∀ k, k ≠ g → w'.heap[k]? = w.heap[k]?) → wpListIn F n Try.prog ops Q rest (a.put o.dst undef) w') : wpListIn F n Try.prog ops Q (o :: rest) a w :=
  wpListIn_plain hgd fun K hK => by
    have hq := h _ (setRow_heap w g old cs _ _ hg) (fun B w0 hb hB => below_setRow hb hB cs) (fun k hk => setRow_other w g k cs hk)
    unfold Oper.wpIn
    refine ⟨by simp [Oper.about, ho], ?_⟩
    rw [Oper.semAt_plain F _ _ (by rw [ho]; intro c hc'; cases hc')]
    simp only [execOp, ho, hx, hy, Instr.storeAt, Instr.sureAddr, Sem.run_bind, Sem.run_pure, Result.andThen_ok, run_storeVar_row (P := Try.prog) w g 49 49 old cs hg (by rw [hc]; exact Try.sizeFail) (by omega) h1]
    exact hK _ _ hq
theorem wpIn_loadF {F : Fence} {n : Nat} {ops : Array Oper} {rest : List Oper} {o : Oper} {a : Act} {w : World} {Q : Exit → Act → World → Prop} (hgd : o.guard = none) (x : Operand) (ho : o.op = .load 49 x)
    (g : Nat) (cs : Array Value) (hx : a.eval x = .pointer (some ⟨g, 0, none⟩)) (hg : Blk w g cs 49) (hc : cs.size = 10)
    (h : wpListIn F n Try.prog ops Q rest (a.put o.dst (.agg cs)) w) : wpListIn F n Try.prog ops Q (o :: rest) a w :=
  wpListIn_plain hgd fun K hK => by
    unfold Oper.wpIn
    refine ⟨by simp [Oper.about, ho], ?_⟩
    rw [Oper.semAt_plain F _ _ (by rw [ho]; intro c hc'; cases hc')]
    simp only [execOp, ho, hx, Instr.loadAt, Instr.sureAddr, Sem.run_bind, Sem.run_pure, Result.andThen_ok, run_loadVar_row (P := Try.prog) w g 49 49 cs (0, 0) _ hg Try.underlying49 rfl (by rw [hc]; exact Try.sizeFail)]
    exact hK _ _ h

theorem kgrown {w w' : World} (h : Kpt w w') : w.grownBy w' none := ⟨Below.os h, Below.tape h, Below.output h, Below.size h, fun k hk _ => Below.block h k hk⟩
/-- how many of a fail are open, told as a list -/
def openL (l : List Int) : Int := openV (l.getD 0 0) (l.getD 1 0) (l.getD 2 0) (l.getD 3 0) (l.getD 4 0) (l.getD 5 0) (l.getD 6 0) (l.getD 7 0) (l.getD 8 0) (l.getD 9 0)
/-- an event reaches a fail -/
def hitB (P : Int) (l : List Int) : Bool := decide (l.getD 4 0 = P) && decide (0 < openL l)
/-- those of the first k fails that an event reaches -/
def hit (P : Int) (fs : List (List Int)) (k : Nat) : List (Fin fs.length) := ((List.finRange fs.length).take k).filter fun i => hitB P (fs.getD i.1 [])
theorem hit_s {P : Int} {fs : List (List Int)} {k : Nat} (h : k < fs.length) : hit P fs (k + 1) = hit P fs k ++ (if hitB P (fs.getD k []) = true then [⟨k, h⟩] else []) := by
  unfold hit
  rw [List.take_succ_eq_append_getElem (by simpa using h), List.filter_append]
  congr 1
  have : (List.finRange fs.length)[k]'(by simpa using h) = ⟨k, h⟩ := by simp
  rw [this]
  by_cases e : hitB P (fs.getD k []) = true
  · rw [if_pos e, List.filter_cons_of_pos (by simpa using e), List.filter_nil]
  · rw [if_neg e, List.filter_cons_of_neg (by simpa using e), List.filter_nil]
theorem hit_len (P : Int) (fs : List (List Int)) (k : Nat) : (hit P fs k).length ≤ k := by
  unfold hit; refine Nat.le_trans (List.length_filter_le _ _) ?_; rw [List.length_take]; exact Nat.min_le_left _ _
theorem hit_pre (P : Int) (fs : List (List Int)) {k m : Nat} (h : k ≤ m) : hit P fs k <+: hit P fs m := by
  unfold hit
  exact List.IsPrefix.filter _ (List.take_prefix_take_left h)
theorem hit_all (P : Int) (fs : List (List Int)) : ∀ x ∈ hit P fs fs.length, hitB P (fs.getD x.1 []) = true := by
  intro x hx
  unfold hit at hx
  exact (List.mem_filter.1 hx).2

/-- a round keeps what lay below, and a box -/
def KpC (n₀ B : Nat) (W W' : World) : Prop := Below n₀ W W' ∧ W'.heap[B]? = W.heap[B]?
theorem KpC.t {n₀ B : Nat} {X Y Z : World} (h : KpC n₀ B X Y) (k : KpC n₀ B Y Z) : KpC n₀ B X Z := ⟨h.1.trans k.1, k.2.trans h.2⟩
theorem KpC.b {n₀ B : Nat} {w : World} (hn : n₀ ≤ w.heap.size) (hB : B < w.heap.size) (W : World) (l : Nat) (o o' : Obj) (hl : w.heap.size ≤ l) (h : W.heap[l]? = some o) (h1 : o.isCells = false) (h2 : o.isWalk = false) : KpC n₀ B W (W.putObj l o') :=
  ⟨belowK_b hn W l o o' hl h h1 h2, World.putObj_heap_other (by omega)⟩
theorem Blk.same {W W' : World} {B : Nat} {cs : Array Value} {T : TypeId} (hb : Blk W B cs T) (h : W'.heap[B]? = W.heap[B]?) : Blk W' B cs T := h.trans hb

set_option maxRecDepth 100000 in
set_option maxHeartbeats 4000000 in
theorem holdIter_in (n : Nat) (hn : 1 ≤ n) (l : Nat) (w0 : World) (P C G O : Int) (v : Value) (fs : List (List Int)) (Bs Be : Nat) (hR : ReadsF w0 v fs)
    (J Jx : List (Fin fs.length) → World → Prop) (W0 : World) (hJ : AbidesFrom W0.heap.size J) (g0 : Kpt w0 W0) (hB : W0.cell? ⟨Bs, 0, none⟩ = some v) (hE : Blk W0 Be #[.int .i64 P, .int .i64 C, .int .i64 G, .int .i64 O] 23)
    (hY : ∀ pre x W1, J pre W1 → pre.length < fs.length → YieldAt Fence.wide (n - 1) Try.prog l #[.int .i64 ((x.1 : Nat) : Int), .agg #[.int .i64 P, .int .i64 C, .int .i64 G, .int .i64 O, .int .i64 (openL (fs.getD x.1 []))]] W1 fun e W' =>
      (e = .returned (.bool true) ∧ J (pre ++ [x]) W' ∧ KpC w0.heap.size Be W1 W') ∨ (e = .returned (.bool false) ∧ Jx (pre ++ [x]) W'))
    (h0 : J [] W0) :
    CallsIn Fence.wide n Try.prog 55 #[.func (.yield l) #[] #[], .pointer (some ⟨Bs, 0, none⟩), .pointer (some ⟨Be, 0, none⟩)] W0 fun e W' => (∃ v, e = .returned v) ∧
      ((∃ ys, ys = hit P fs fs.length ∧ J ys W') ∨ (∃ pre, pre <+: hit P fs fs.length ∧ Jx pre W')) := by
  obtain ⟨a, cap, rfl, hm, -, hc⟩ := hR
  unfold maxLen at hm
  have HC := Lib.hid hc
  have HJ := Lib.hid hJ
  have HE := Lib.hid hE
  have G0 := Lib.hid g0
  have HY := Lib.hid hY
  have c0 := hB
  have H0 : Hid (J (hit P fs 0) W0) := h0
  have HS := Lib.hid (fun k (h : k < fs.length) => hit_s (P := P) h)
  have HL := Lib.hid (fun k => hit_len P fs k)
  have HP := Lib.hid (fun k (h : k ≤ fs.length) => hit_pre P fs h)
  clear hc hJ hE g0 hY hB h0
  refine callsIn_of_wp Try.func55 rfl trivial ?_ rfl
  simp only [Try.ntmps55, List.size_toArray, List.length_cons, List.length_nil, Nat.reduceAdd, Nat.reduceSub, Array.replicate_succ, Array.replicate_zero, List.push_toArray, List.append_toArray, List.nil_append, List.cons_append]
  gi_wp2
  clear c0
  gi_loopw [10] (fun i wr => ∃ k : Nat, k ≤ fs.length ∧ i = .int .i64 (k : Int) ∧ Hid (J (hit P fs k) wr) ∧ Hid (Kpt w0 wr) ∧ Hid (Blk wr Be #[.int .i64 P, .int .i64 C, .int .i64 G, .int .i64 O] 23)) (fun i _ => fs.length - (intOf i).toNat)
  case atStart => exact ⟨0, Nat.zero_le _, rfl, H0.out, G0.out, HE.out⟩
  case round =>
    obtain ⟨k, hk, rfl, HJs, HK, HB⟩ := hrel
    by_cases hlt : k < fs.length
    · obtain ⟨g, off, rfl, hfl⟩ := HC.out k hlt
      have hf := hfl.kpt HK.out
      have hs := HS.out k hlt
      have hlen : (hit P fs k).length < fs.length := Nat.lt_of_le_of_lt (HL.out k) hlt
      have HQ := Lib.hid (HP.out (k + 1) hlt)
      have hyk := fun W1 (h : J (hit P fs k) W1) => HY.out (hit P fs k) ⟨k, hlt⟩ W1 h hlen
      unfold hitB openL at hs
      unfold openL at hyk
      dsimp only at hyk
      have c0 : wr.cell? ⟨g, off + k * 10, none⟩ = _ := hf 0 (by omega)
      have c1 : wr.cell? ⟨g, off + k * 10 + 1, none⟩ = _ := hf 1 (by omega)
      have c2 : wr.cell? ⟨g, off + k * 10 + 2, none⟩ = _ := hf 2 (by omega)
      have c3 : wr.cell? ⟨g, off + k * 10 + 3, none⟩ = _ := hf 3 (by omega)
      have c4 : wr.cell? ⟨g, off + k * 10 + 4, none⟩ = _ := hf 4 (by omega)
      have c5 : wr.cell? ⟨g, off + k * 10 + 5, none⟩ = _ := hf 5 (by omega)
      have c6 : wr.cell? ⟨g, off + k * 10 + 6, none⟩ = _ := hf 6 (by omega)
      have c7 : wr.cell? ⟨g, off + k * 10 + 7, none⟩ = _ := hf 7 (by omega)
      have c8 : wr.cell? ⟨g, off + k * 10 + 8, none⟩ = _ := hf 8 (by omega)
      have c9 : wr.cell? ⟨g, off + k * 10 + 9, none⟩ = _ := hf 9 (by omega)
      clear hf hfl
      generalize (fs.getD k []).getD 0 0 = i at *
      generalize (fs.getD k []).getD 1 0 = f at *
      generalize (fs.getD k []).getD 2 0 = t at *
      generalize (fs.getD k []).getD 3 0 = c at *
      generalize (fs.getD k []).getD 4 0 = p at *
      generalize (fs.getD k []).getD 5 0 = d at *
      generalize (fs.getD k []).getD 6 0 = u at *
      generalize (fs.getD k []).getD 7 0 = x at *
      generalize (fs.getD k []).getD 8 0 = b at *
      generalize (fs.getD k []).getD 9 0 = y at *
      have OX := Lib.hid (fun w => fopenX_run i f t c p d u x b y w)
      generalize openV i f t c p d u x b y = U at *
      generalize failE i f t c p d u x b y = E at *
      have HYK := Lib.hid hyk
      have y1 : decide ((k : Int) < (fs.length : Int)) = true := decide_eq_true (by omega)
      have ZB : Hid (Blk (wr.alloc (.cells #[.int .i64 0, .int .i64 0, .int .i64 0, .int .i64 0, .int .i64 0, .int .i64 0, .int .i64 0, .int .i64 0, .int .i64 0, .int .i64 0] 49)) wr.heap.size #[.int .i64 0, .int .i64 0, .int .i64 0, .int .i64 0, .int .i64 0, .int .i64 0, .int .i64 0, .int .i64 0, .int .i64 0, .int .i64 0] 49) := Blk.made _ _ _
      have KZ : Hid (Kpt wr (wr.alloc (.cells #[.int .i64 0, .int .i64 0, .int .i64 0, .int .i64 0, .int .i64 0, .int .i64 0, .int .i64 0, .int .i64 0, .int .i64 0, .int .i64 0] 49))) := (Kpt.refl wr).alloc _
      clear hyk
      by_cases hp : p = P
      · subst hp
        by_cases hu : 0 < U
        · have hd0 : decide ((0 : Int) < U) = true := decide_eq_true hu
          have HV : Hid (hit p fs (k + 1) = hit p fs k ++ [⟨k, hlt⟩]) := by unfold Hid; rw [hs]; simp [hu]
          clear hs
          gi_wp2_with (first
            | (refine wpIn_storeF rfl (.tmp 5) (.tmp 14) rfl wr.heap.size _ _ rfl rfl ZB.out rfl rfl (by simp [Value.oneCell']) ?_; intro w9 r9 k9 o9; have R9 := Lib.hid r9; have K9 : Hid (Kpt wr w9) := Lib.hid (k9 _ _ KZ.out (Nat.le_refl _)); clear r9 k9 o9)
            | (refine wpIn_loadF rfl (.tmp 5) rfl wr.heap.size _ rfl R9.out rfl ?_)
            | (refine ⟨trivial, ?_⟩; gi_at_call 26; refine (callsIn_wide.2 (OX.out _)).mono ?_; rintro e w2 ⟨rfl, k2⟩; have K2 := Lib.hid (ktr K9.out k2); have ci : World.cell? w2 ⟨wr.heap.size, 4, none⟩ = some (.int .i64 p) := Blk.cell (R9.out.kpt k2) 4; have BE := Lib.hid (HB.out.kpt K2.out); have e0 : World.cell? w2 ⟨Be, 0, none⟩ = some (.int .i64 p) := BE.out.cell 0; have e1 : World.cell? w2 ⟨Be, 1, none⟩ = some (.int .i64 C) := BE.out.cell 1; have e2 : World.cell? w2 ⟨Be, 2, none⟩ = some (.int .i64 G) := BE.out.cell 2; have e3 : World.cell? w2 ⟨Be, 3, none⟩ = some (.int .i64 O) := BE.out.cell 3; clear k2; obtain ⟨fn, tmps, assign, body, hy, hR⟩ := HYK.out w2 (HJ.out _ wr w2 none HJs.out (kgrown K2.out) (fun r e => by cases e)); have HR := Lib.hid hR; clear hR))
          refine HR.out.mono ?_
          rintro e W3 (⟨rfl, hJ3, hk3⟩ | ⟨rfl, hJx3⟩)
          · gi_wp2
            go_roundw
            case rel => exact ⟨k + 1, hlt, by go_num, by unfold Hid; rw [HV.out]; exact hJ3, (HK.out.trans (K2.out.mono HK.out.size)).trans hk3.1, BE.out.same hk3.2⟩
            case measure => simp [intOf]; omega
          · gi_wp2
            refine bodyPost_ret (results_none rfl _ _ _) rfl ?_
            exact ⟨⟨_, rfl⟩, .inr ⟨_, by rw [← HV.out]; exact HQ.out, hJx3⟩⟩
        · have hd0 : decide ((0 : Int) < U) = false := decide_eq_false hu
          have HV : Hid (hit p fs (k + 1) = hit p fs k) := by unfold Hid; rw [hs]; simp [hu]
          clear hs
          gi_wp2_with (first
            | (refine wpIn_storeF rfl (.tmp 5) (.tmp 14) rfl wr.heap.size _ _ rfl rfl ZB.out rfl rfl (by simp [Value.oneCell']) ?_; intro w9 r9 k9 o9; have R9 := Lib.hid r9; have K9 : Hid (Kpt wr w9) := Lib.hid (k9 _ _ KZ.out (Nat.le_refl _)); clear r9 k9 o9)
            | (refine wpIn_loadF rfl (.tmp 5) rfl wr.heap.size _ rfl R9.out rfl ?_)
            | (refine ⟨trivial, ?_⟩; gi_at_call 26; refine (callsIn_wide.2 (OX.out _)).mono ?_; rintro e w2 ⟨rfl, k2⟩; have K2 := Lib.hid (ktr K9.out k2); have ci : World.cell? w2 ⟨wr.heap.size, 4, none⟩ = some (.int .i64 p) := Blk.cell (R9.out.kpt k2) 4; have BE := Lib.hid (HB.out.kpt K2.out); have e0 : World.cell? w2 ⟨Be, 0, none⟩ = some (.int .i64 p) := BE.out.cell 0; have e1 : World.cell? w2 ⟨Be, 1, none⟩ = some (.int .i64 C) := BE.out.cell 1; have e2 : World.cell? w2 ⟨Be, 2, none⟩ = some (.int .i64 G) := BE.out.cell 2; have e3 : World.cell? w2 ⟨Be, 3, none⟩ = some (.int .i64 O) := BE.out.cell 3; clear k2))
          refine ⟨fun _ h => (by cases h), ?_⟩
          gi_wp2
          go_roundw
          case rel => exact ⟨k + 1, hlt, by go_num, by unfold Hid; rw [HV.out]; exact HJ.out _ wr w2 none HJs.out (kgrown K2.out) (fun r e => by cases e), HK.out.trans (K2.out.mono HK.out.size), BE.out⟩
          case measure => simp [intOf]; omega
      · have hp0 : (p == P) = false := beq_eq_false_iff_ne.2 hp
        have HV : Hid (hit P fs (k + 1) = hit P fs k) := by unfold Hid; rw [hs]; simp [hp]
        clear hs
        gi_wp2_with (first
          | (refine wpIn_storeF rfl (.tmp 5) (.tmp 14) rfl wr.heap.size _ _ rfl rfl ZB.out rfl rfl (by simp [Value.oneCell']) ?_; intro w9 r9 k9 o9; have R9 := Lib.hid r9; have K9 : Hid (Kpt wr w9) := Lib.hid (k9 _ _ KZ.out (Nat.le_refl _)); clear r9 k9 o9)
          | (refine wpIn_loadF rfl (.tmp 5) rfl wr.heap.size _ rfl R9.out rfl ?_)
          | (refine ⟨trivial, ?_⟩; gi_at_call 26; refine (callsIn_wide.2 (OX.out _)).mono ?_; rintro e w2 ⟨rfl, k2⟩; have K2 := Lib.hid (ktr K9.out k2); have ci : World.cell? w2 ⟨wr.heap.size, 4, none⟩ = some (.int .i64 p) := Blk.cell (R9.out.kpt k2) 4; have BE := Lib.hid (HB.out.kpt K2.out); have e0 : World.cell? w2 ⟨Be, 0, none⟩ = some (.int .i64 P) := BE.out.cell 0; have e1 : World.cell? w2 ⟨Be, 1, none⟩ = some (.int .i64 C) := BE.out.cell 1; have e2 : World.cell? w2 ⟨Be, 2, none⟩ = some (.int .i64 G) := BE.out.cell 2; have e3 : World.cell? w2 ⟨Be, 3, none⟩ = some (.int .i64 O) := BE.out.cell 3; clear k2))
        refine ⟨fun _ h => (by cases h), ?_⟩
        gi_wp2
        go_roundw
        case rel => exact ⟨k + 1, hlt, by go_num, by unfold Hid; rw [HV.out]; exact HJ.out _ wr w2 none HJs.out (kgrown K2.out) (fun r e => by cases e), HK.out.trans (K2.out.mono HK.out.size), BE.out⟩
        case measure => simp [intOf]; omega
    · have hkl : k = fs.length := by omega
      have y1 : decide ((k : Int) < (fs.length : Int)) = false := decide_eq_false (by omega)
      have HF : Hid (J (hit P fs fs.length) wr) := by have := HJs.out; rwa [hkl] at this
      clear HJs
      gi_wp2
      go_end0
      exact ⟨⟨_, rfl⟩, .inl ⟨_, rfl, HF.out⟩⟩

end Go.Proofs.Ytklaojahocjeiaa

-- ClmE
namespace Go.Proofs.Ytklaojahocjeiaa
open Go.RowKit Go.Shelf
set_option linter.unusedVariables false
attribute [local go_sem] Oper.semAt_some

theorem hold_stops (n : Nat) (hn : 1 ≤ n) (n₀ : Nat) (w w0 : World) (hw : w.heap.size = n₀) (P C G O : Int) (v : Value) (fs : List (List Int)) (Bs Be : Nat) (hR : ReadsF w v fs) (hk : Kpt w w0) (hB : w0.cell? ⟨Bs, 0, none⟩ = some v) (hE : Blk w0 Be #[.int .i64 P, .int .i64 C, .int .i64 G, .int .i64 O] 23) :
    SeqStopsK Fence.wide n Try.prog 55 #[.pointer (some ⟨Bs, 0, none⟩), .pointer (some ⟨Be, 0, none⟩)] (fun x : Fin fs.length => #[.int .i64 ((x.1 : Nat) : Int), .agg #[.int .i64 P, .int .i64 C, .int .i64 G, .int .i64 O, .int .i64 (openL (fs.getD x.1 []))]]) (KpC n₀ Be) (fun ys => ys = hit P fs fs.length) (fun pre => pre <+: hit P fs fs.length) fs.length w0 := by
  intro l J Jx W0 hW hJ hJx hY h0
  subst hw
  exact holdIter_in n hn l w P C G O v fs Bs Be hR J Jx W0 hJ (ktr hk hW) (Kpt.cell hW hB) (Blk.kpt hE hW) hY h0
theorem openV_bd (i f t c p d u x b y : Int) : 0 ≤ openV i f t c p d u x b y ∧ openV i f t c p d u x b y ≤ 1073741824 := by
  unfold openV
  split
  · next h =>
    obtain ⟨g1, g2, g3, g4⟩ := fail_0 h
    obtain ⟨-, -, -, -, -, hu⟩ := fdue_t g1
    obtain ⟨hx, hb, hy⟩ := ftk_t g3
    omega
  · omega
theorem checks_60 {fs : List (List Int)} (h : checksE fs = 0) : fs.length ≤ 60 := by
  unfold checksE at h
  split at h
  · cases h
  · omega
theorem cwE_0 {P C G O : Int} {fs : List (List Int)} (h : cwE P C G O fs = 0) : evE P C G O = 0 ∧ checksE fs = 0 := by
  unfold cwE at h
  split at h
  · next a => exact ⟨a, h⟩
  · next a => exact absurd h a

/-- what one that owes has to pass on of money -/
def dueL (C : Int) (l : List Int) : List (Int × Int × Int) := if 0 < hoC C (openL l) then [(l.getD 1 0, l.getD 2 0, hoC C (openL l))] else []
/-- .. and of new papers -/
def pstL (P G O : Int) (l : List Int) : List (Int × Int × Int) := if 0 < hoN G O (openL l) then [(l.getD 1 0, P, -hoN G O (openL l)), (l.getD 2 0, P, hoN G O (openL l))] else []
def duesOf (C : Int) (fs : List (List Int)) (xs : List (Fin fs.length)) : List (Int × Int × Int) := xs.flatMap fun x => dueL C (fs.getD x.1 [])
def pstsOf (P G O : Int) (fs : List (List Int)) (xs : List (Fin fs.length)) : List (Int × Int × Int) := xs.flatMap fun x => pstL P G O (fs.getD x.1 [])
theorem duesOf_s (C : Int) (fs : List (List Int)) (xs : List (Fin fs.length)) (x : Fin fs.length) : duesOf C fs (xs ++ [x]) = duesOf C fs xs ++ dueL C (fs.getD x.1 []) := by simp [duesOf]
theorem pstsOf_s (P G O : Int) (fs : List (List Int)) (xs : List (Fin fs.length)) (x : Fin fs.length) : pstsOf P G O fs (xs ++ [x]) = pstsOf P G O fs xs ++ pstL P G O (fs.getD x.1 []) := by simp [pstsOf]
theorem duesOf_len (C : Int) (fs : List (List Int)) (xs : List (Fin fs.length)) : (duesOf C fs xs).length ≤ xs.length := by
  induction xs with
  | nil => exact Nat.le_refl _
  | cons x xs ih =>
    have : (dueL C (fs.getD x.1 [])).length ≤ 1 := by unfold dueL; split <;> simp
    unfold duesOf at ih ⊢
    rw [List.flatMap_cons, List.length_append, List.length_cons]
    omega
theorem pstsOf_len (P G O : Int) (fs : List (List Int)) (xs : List (Fin fs.length)) : (pstsOf P G O fs xs).length ≤ 2 * xs.length := by
  induction xs with
  | nil => exact Nat.le_refl _
  | cons x xs ih =>
    have : (pstL P G O (fs.getD x.1 [])).length ≤ 2 := by unfold pstL; split <;> simp
    unfold pstsOf at ih ⊢
    rw [List.flatMap_cons, List.length_append, List.length_cons]
    omega

set_option maxRecDepth 100000 in
set_option maxHeartbeats 4000000 in
theorem claims_bad (P C G O : Int) (v : Value) (fs : List (List Int)) (w : World) (hr : ReadsF w v fs) (h : cwE P C G O fs ≠ 0) : Calls Try.prog 10 #[.agg #[.int .i64 P, .int .i64 C, .int .i64 G, .int .i64 O], v] w fun e w' => e = .returned (.tuple #[.slice none 0 0, .slice none 0 0, .int .i64 (cwE P C G O fs)]) ∧ Kpt w w' := by
  obtain ⟨ad, cap, hv, -⟩ := id hr
  have KA : Hid (Kpt w ((w.alloc (.cells #[.int .i64 P, .int .i64 C, .int .i64 G, .int .i64 O] 23)).alloc (.cells #[v] 24))) := ((Kpt.refl w).alloc _).alloc _
  have CW := Lib.hid (fun w' (k : Kpt w w') => checkWith_any P C G O v fs w' (hr.kpt k))
  have z : (cwE P C G O fs != 0) = true := bne_iff_ne.2 h
  subst hv
  clear h hr
  generalize cwE P C G O fs = E at *
  generalize fs.length = n at *
  go_enter Try.func10, Try.ntmps10
  go_wp2_with (go_at_call 31; (with_reducible refine (CW.out _ KA.out).mono ?_); rintro e w1 ⟨rfl, k1⟩; have K1 := Lib.hid (ktr KA.out k1); clear k1)
  go_ret3
  exact ⟨rfl, K1.out⟩

theorem Try.infoDueC : (Try.prog.info? 51).map (fun i => (i.zero, i.size, i.bytes)) = some (some (.agg #[.int .i64 0, .int .i64 0, .int .i64 0]), 3, 24) := by kernel_rfl
theorem Try.infoPstC : (Try.prog.info? 53).map (fun i => (i.zero, i.size, i.bytes)) = some (some (.agg #[.int .i64 0, .int .i64 0, .int .i64 0]), 3, 24) := by kernel_rfl
theorem Try.sizeHold : (Try.prog.info? 58).map (·.size) = some 5 := by kernel_rfl
theorem wpIn_storeH {F : Fence} {n : Nat} {ops : Array Oper} {rest : List Oper} {o : Oper} {a : Act} {w : World} {Q : Exit → Act → World → Prop} (hgd : o.guard = none) (x y : Operand) (ho : o.op = .store 58 x y)
    (g : Nat) (cs old : Array Value) (hx : a.eval x = .pointer (some ⟨g, 0, none⟩)) (hy : a.eval y = .agg cs) (hg : Blk w g old 58) (hs : old.size = 5) (hc : cs.size = 5) (h1 : cs.all (·.oneCell') = true)
    (h : ∀ w', Blk w' g cs 58 → (∀ B w0, Below B w0 w → B ≤ g → Below B w0 w') → (∀ k, k ≠ g → w'.heap[k]? = w.heap[k]?) → wpListIn F n Try.prog ops Q rest (a.put o.dst undef) w') : wpListIn F n Try.prog ops Q (o :: rest) a w :=
  wpListIn_plain hgd fun K hK => by
    have hq := h _ (setRow_heap w g old cs _ _ hg) (fun B w0 hb hB => below_setRow hb hB cs) (fun k hk => setRow_other w g k cs hk)
    unfold Oper.wpIn
    refine ⟨by simp [Oper.about, ho], ?_⟩
    rw [Oper.semAt_plain F _ _ (by rw [ho]; intro c hc'; cases hc')]
    simp only [execOp, ho, hx, hy, Instr.storeAt, Instr.sureAddr, Sem.run_bind, Sem.run_pure, Result.andThen_ok, run_storeVar_row (P := Try.prog) w g 58 58 old cs hg (by rw [hc]; exact Try.sizeHold) (by omega) h1]
    exact hK _ _ hq
theorem wpIn_loadH {F : Fence} {n : Nat} {ops : Array Oper} {rest : List Oper} {o : Oper} {a : Act} {w : World} {Q : Exit → Act → World → Prop} (hgd : o.guard = none) (x : Operand) (ho : o.op = .load 58 x)
    (g : Nat) (cs : Array Value) (hx : a.eval x = .pointer (some ⟨g, 0, none⟩)) (hg : Blk w g cs 58) (hc : cs.size = 5)
    (h : wpListIn F n Try.prog ops Q rest (a.put o.dst (.agg cs)) w) : wpListIn F n Try.prog ops Q (o :: rest) a w :=
  wpListIn_plain hgd fun K hK => by
    unfold Oper.wpIn
    refine ⟨by simp [Oper.about, ho], ?_⟩
    rw [Oper.semAt_plain F _ _ (by rw [ho]; intro c hc'; cases hc')]
    simp only [execOp, ho, hx, Instr.loadAt, Instr.sureAddr, Sem.run_bind, Sem.run_pure, Result.andThen_ok, run_loadVar_row (P := Try.prog) w g 58 58 cs (0, 0) _ hg Try.underlying58 rfl (by rw [hc]; exact Try.sizeHold)]
    exact hK _ _ h
theorem wpIn_appendDu {F : Fence} {n : Nat} {ops : Array Oper} {rest : List Oper} {o : Oper} {a : Act} {Q : Exit → Act → World → Prop} (hgd : o.guard = none) (s x : Operand)
    (ho : o.op = .call { callee := .builtin .append, args := #[s, x], argTypes := #[30, 30] })
    (base : Nat) (v : Value) (ps qs : List (Int × Int × Int)) (w : World) (g c : Nat) (cs : Array Value) (T' : TypeId) (hs : a.eval s = v) (hown : OwnsT 51 w base v ps) (hx : a.eval x = .slice (some ⟨g, 0, none⟩) qs.length c) (hg : Blk w g cs T') (hcs : cs.toList = flatP qs)
    (hlen : ps.length + qs.length ≤ 100000) (hbase : base ≤ w.heap.size)
    (h : ∀ v' w', OwnsT 51 w' base v' (ps ++ qs) → w.grownBy w' v.ownBlock → wpListIn F n Try.prog ops Q rest (a.put o.dst v') w') : wpListIn F n Try.prog ops Q (o :: rest) a w := by
  obtain ⟨i0, hi, hz0, hz1, hz2⟩ := info_parts Try.infoDueC
  refine wpListIn_append_own _ hgd s x 30 ho base 51 i0 _ 3 24 Try.underlying30 hi hz0 hz1 hz2 rfl (by decide) v _ _ hs hown ⟨g, 0, none⟩ qs.length c (flatP qs) hx (flatP_len qs) ?_ (flatP_one qs) ?_ ?_ hbase ?_
  · intro j u hu
    exact World.news_of_block hg j u (by rw [hcs]; exact hu)
  · unfold maxLen; omega
  · omega
  · intro v' w' h1 h2 _
    refine h v' w' ?_ h2
    unfold OwnsT
    rw [List.length_append, flatP_append]
    exact h1
theorem wpIn_appendPs {F : Fence} {n : Nat} {ops : Array Oper} {rest : List Oper} {o : Oper} {a : Act} {Q : Exit → Act → World → Prop} (hgd : o.guard = none) (s x : Operand)
    (ho : o.op = .call { callee := .builtin .append, args := #[s, x], argTypes := #[31, 31] })
    (base : Nat) (v : Value) (ps qs : List (Int × Int × Int)) (w : World) (g c : Nat) (cs : Array Value) (T' : TypeId) (hs : a.eval s = v) (hown : OwnsT 53 w base v ps) (hx : a.eval x = .slice (some ⟨g, 0, none⟩) qs.length c) (hg : Blk w g cs T') (hcs : cs.toList = flatP qs)
    (hlen : ps.length + qs.length ≤ 100000) (hbase : base ≤ w.heap.size)
    (h : ∀ v' w', OwnsT 53 w' base v' (ps ++ qs) → w.grownBy w' v.ownBlock → wpListIn F n Try.prog ops Q rest (a.put o.dst v') w') : wpListIn F n Try.prog ops Q (o :: rest) a w := by
  obtain ⟨i0, hi, hz0, hz1, hz2⟩ := info_parts Try.infoPstC
  refine wpListIn_append_own _ hgd s x 31 ho base 53 i0 _ 3 24 Try.underlying31 hi hz0 hz1 hz2 rfl (by decide) v _ _ hs hown ⟨g, 0, none⟩ qs.length c (flatP qs) hx (flatP_len qs) ?_ (flatP_one qs) ?_ ?_ hbase ?_
  · intro j u hu
    exact World.news_of_block hg j u (by rw [hcs]; exact hu)
  · unfold maxLen; omega
  · omega
  · intro v' w' h1 h2 _
    refine h v' w' ?_ h2
    unfold OwnsT
    rw [List.length_append, flatP_append]
    exact h1
theorem OwnsT.own {T : TypeId} {w w' : World} {base : Nat} {u : Value} {ps : List (Int × Int × Int)} {row : Option Nat} (h : OwnsT T w base u ps) (g : w.grownBy w' row) (hr : ∀ r, row = some r → ∃ o : Obj, w.heap[r]? = some o ∧ o.isCells = false) : OwnsT T w' base u ps := by
  obtain ⟨h1, h2⟩ := h
  refine ⟨h1, ?_⟩
  rcases h2 with h2 | ⟨k, cap, cur, rfl, hk, hh, r⟩
  · exact .inl h2
  · exact .inr ⟨k, cap, cur, rfl, hk, (g.block k (heap_lt hh) (fun e => by obtain ⟨o, ho, hc⟩ := hr k e.symm; rw [hh] at ho; cases ho; cases hc)).trans hh, r⟩
theorem Blk.own {w w' : World} {g : Nat} {cs : Array Value} {T : TypeId} {row : Option Nat} (h : Blk w g cs T) (k : w.grownBy w' row) (hr : ∀ r, row = some r → ∃ o : Obj, w.heap[r]? = some o ∧ o.isCells = false) : Blk w' g cs T :=
  (k.block g h.lt (fun e => by obtain ⟨o, ho, hc⟩ := hr g e.symm; rw [show w.heap[g]? = _ from h] at ho; cases ho; cases hc)).trans h
theorem Blk.norow {w : World} {g : Nat} {cs : Array Value} {T e : TypeId} (h : Blk w g cs T) (hT : T ≠ e) {base : Nat} {v : Value} {ps : List (Int × Int × Int)} (hr : OwnsT e w base v ps) : some g ≠ v.ownBlock := by
  rcases hr.2 with ⟨rfl, _⟩ | ⟨k, cap, cur, rfl, _, hh, _⟩
  · simp [Value.ownBlock]
  · intro e'
    have e'' : g = k := by simpa [Value.ownBlock] using e'
    subst e''
    rw [show w.heap[g]? = _ from h] at hh
    cases hh
    exact hT rfl
theorem Blk.grown {w w' : World} {g : Nat} {cs : Array Value} {T : TypeId} {row : Option Nat} (h : Blk w g cs T) (k : w.grownBy w' row) (hr : some g ≠ row) : Blk w' g cs T := (k.block g h.lt hr).trans h
theorem OwnsT.grown {T e : TypeId} {w w' : World} {base : Nat} {u v : Value} {ps qs : List (Int × Int × Int)} (h : OwnsT T w base u ps) (hT : T ≠ e) (hv : OwnsT e w base v qs) (g : w.grownBy w' v.ownBlock) : OwnsT T w' base u ps := by
  obtain ⟨h1, h2⟩ := h
  refine ⟨h1, ?_⟩
  rcases h2 with h2 | ⟨k, cap, cur, rfl, hk, hh, r⟩
  · exact .inl h2
  · exact .inr ⟨k, cap, cur, rfl, hk, (g.block k (heap_lt hh) (Blk.norow (show Blk w k cur T from hh) hT hv)).trans hh, r⟩
theorem kothers {w w' : World} (k : Kpt w w') : KeepsOthers w w' := ⟨Below.size k, fun i o h _ => (Below.block k i (heap_lt h)).trans h⟩

/-- what lies in a round of Claims -/
structure CS (n0 b q : Nat) (ev hc : Array Value) (sl : Value) (W : World) (dv : Value) (ds : List (Int × Int × Int)) (pv : Value) (qs : List (Int × Int × Int)) : Prop where
  bd : Blk W b #[dv] 30
  bp : Blk W (b + 1) #[pv] 31
  be : Blk W (b + 2) ev 23
  bf : Blk W (n0 + 1) #[sl] 24
  bh : Blk W q hc 58
  od : OwnsT 51 W n0 dv ds
  op : OwnsT 53 W n0 pv qs
theorem CS.kpt {n0 b q : Nat} {ev hc : Array Value} {sl : Value} {W W' : World} {dv pv : Value} {ds qs : List (Int × Int × Int)} (h : CS n0 b q ev hc sl W dv ds pv qs) (k : Kpt W W') : CS n0 b q ev hc sl W' dv ds pv qs :=
  ⟨h.bd.kpt k, h.bp.kpt k, h.be.kpt k, h.bf.kpt k, h.bh.kpt k, h.od.kpt k, h.op.kpt k⟩
/-- what a step of a round keeps -/
def Stp (n0 b : Nat) (W W' : World) : Prop := KeepsOthers W W' ∧ Below n0 W W'
theorem Stp.t {n0 b : Nat} {A B C : World} (h : Stp n0 b A B) (k : Stp n0 b B C) : Stp n0 b A C := ⟨h.1.trans k.1, h.2.trans k.2⟩
theorem Stp.of {n0 b : Nat} {W W' : World} (k : Kpt W W') (h : n0 ≤ W.heap.size) : Stp n0 b W W' := ⟨kothers k, Below.mono k h⟩
theorem CS.addD {n0 b q : Nat} {ev hc : Array Value} {sl : Value} {W w1 : World} {dv pv v' : Value} {ds qs ds' : List (Int × Int × Int)} {tmp : Obj} (h : CS n0 b q ev hc sl W dv ds pv qs) (hn : n0 + 1 < b) (hq : b + 2 < q) (own' : OwnsT 51 w1 n0 v' ds') (hg : (W.alloc tmp).grownBy w1 dv.ownBlock) :
    Boxed w1 b 30 dv ∧ CS n0 b q ev hc sl (w1.setCell ⟨b, 0, none⟩ v') v' ds' pv qs ∧ Stp n0 b W (w1.setCell ⟨b, 0, none⟩ v') := by
  have hs : n0 ≤ W.heap.size := by have := h.bd.lt; omega
  obtain ⟨a1, a2, a3, a4, a5⟩ := Boxed.appended (show Boxed W b 30 dv from h.bd) (by decide) h.od hs (by omega) own' hg
  have od := h.od.alloc tmp
  refine ⟨a1, ⟨a2, ?_, ?_, ?_, ?_, a3, ?_⟩, a4, a5⟩
  · exact ((h.bp.alloc tmp).grown hg ((h.bp.alloc tmp).norow (by decide) od)).away (p := ⟨b, 0, none⟩) (by show b + 1 ≠ b; omega) _
  · exact ((h.be.alloc tmp).grown hg ((h.be.alloc tmp).norow (by decide) od)).away (p := ⟨b, 0, none⟩) (by show b + 2 ≠ b; omega) _
  · exact ((h.bf.alloc tmp).grown hg ((h.bf.alloc tmp).norow (by decide) od)).away (p := ⟨b, 0, none⟩) (by show n0 + 1 ≠ b; omega) _
  · exact ((h.bh.alloc tmp).grown hg ((h.bh.alloc tmp).norow (by decide) od)).away (p := ⟨b, 0, none⟩) (by show q ≠ b; omega) _
  · have o := (h.op.alloc tmp).grown (by decide) od hg
    exact o.away (Blk.norow a1 (by decide) o) _
theorem CS.addP {n0 b q : Nat} {ev hc : Array Value} {sl : Value} {W w1 : World} {dv pv v' : Value} {ds qs qs' : List (Int × Int × Int)} {tmp : Obj} (h : CS n0 b q ev hc sl W dv ds pv qs) (hn : n0 + 1 < b) (hq : b + 2 < q) (own' : OwnsT 53 w1 n0 v' qs') (hg : (W.alloc tmp).grownBy w1 pv.ownBlock) :
    Boxed w1 (b + 1) 31 pv ∧ CS n0 b q ev hc sl (w1.setCell ⟨b + 1, 0, none⟩ v') dv ds v' qs' ∧ Stp n0 b W (w1.setCell ⟨b + 1, 0, none⟩ v') := by
  have hs : n0 ≤ W.heap.size := by have := h.bd.lt; omega
  obtain ⟨a1, a2, a3, a4, a5⟩ := Boxed.appended (show Boxed W (b + 1) 31 pv from h.bp) (by decide) h.op hs (by omega) own' hg
  have op := h.op.alloc tmp
  refine ⟨a1, ⟨?_, a2, ?_, ?_, ?_, ?_, a3⟩, a4, a5⟩
  · exact ((h.bd.alloc tmp).grown hg ((h.bd.alloc tmp).norow (by decide) op)).away (p := ⟨b + 1, 0, none⟩) (by show b ≠ b + 1; omega) _
  · exact ((h.be.alloc tmp).grown hg ((h.be.alloc tmp).norow (by decide) op)).away (p := ⟨b + 1, 0, none⟩) (by show b + 2 ≠ b + 1; omega) _
  · exact ((h.bf.alloc tmp).grown hg ((h.bf.alloc tmp).norow (by decide) op)).away (p := ⟨b + 1, 0, none⟩) (by show n0 + 1 ≠ b + 1; omega) _
  · exact ((h.bh.alloc tmp).grown hg ((h.bh.alloc tmp).norow (by decide) op)).away (p := ⟨b + 1, 0, none⟩) (by show q ≠ b + 1; omega) _
  · have o := (h.od.alloc tmp).grown (by decide) op hg
    exact o.away (Blk.norow a1 (by decide) o) _

end Go.Proofs.Ytklaojahocjeiaa

-- ClmR
namespace Go.Proofs.Ytklaojahocjeiaa
open Go.RowKit Go.Shelf
set_option linter.unusedVariables false

/-- an operation that is no defer statement -/
def noDefer (o : Oper) : Bool := match o.op with | .defer _ => false | _ => true
theorem noDefer_ne {o : Oper} (h : noDefer o = true) : ∀ c, o.op ≠ .defer c := fun c e => by unfold noDefer at h; rw [e] at h; cases h
theorem wpIn_opRound {F : Fence} {n l : Nat} {P : Program} {o : Oper} {a : Act} {w : World} {K : Act → World → Prop} {Q : Exit → Act → World → Prop} (hd : noDefer o = true) (h : o.wpIn F n P a w K Q) : o.wpIn (F.inRound l) n P a w K Q := by
  unfold Oper.wpIn at h ⊢
  refine ⟨h.1, ?_⟩
  have h2 := h.2
  rw [Oper.semAt_plain F _ _ (noDefer_ne hd)] at h2
  rw [Oper.semAt_plain (F.inRound l) _ _ (noDefer_ne hd)]
  exact h2
theorem wpAnyIn_round {F : Fence} {n l : Nat} {P : Program} {md : Region.Mode} {ops : Array Oper} {Q : Exit → Act → World → Prop} (hd : ∀ (i : Nat) (o : Oper), ops[i]? = some o → noDefer o = true) : ∀ (fuel : Nat) (listed : Array Bool) (a : Act) (w : World), wpAnyIn F n P md ops Q fuel listed a w → wpAnyIn (F.inRound l) n P md ops Q fuel listed a w
  | 0, _, _, _, h => h
  | fuel + 1, listed, a, w, h => by
    have ih := wpAnyIn_round (F := F) (n := n) (l := l) (P := P) (md := md) (Q := Q) hd fuel
    refine ⟨h.1, fun i hi => ?_⟩
    have h2 := h.2 i hi
    unfold wpOpIn at h2 ⊢
    split
    · next ho => simp only [ho] at h2; exact ih _ _ _ h2
    · next o ho =>
      simp only [ho] at h2
      split
      · next hw =>
        simp only [hw, if_true] at h2
        exact wpIn_opRound (hd i o ho) (Oper.wpIn_mono (fun a' w' => ih _ a' w') h2)
      · next hw =>
        simp only [hw] at h2
        exact ⟨h2.1, ih _ _ _ h2.2⟩
/-- a region that draws and only reads, in a round: one walk, in the text's order -/
theorem wpIn_region_quiet_round {F : Fence} {n l : Nat} {P : Program} {id : Nat} {Q : Exit → Act → World → Prop} {a : Act} {w : World} {ops : List Oper} (hro : F.round = none) (hnd : ops.all noDefer = true) (hm : P.follows .mixedOrders = true) (hB : Region.lexB .any ops.toArray = true)
    (h : wpQuietIn F n P ops.toArray (fun w' => ∃ k, w' = w.drewN k) (fun a' => ∀ w', (∃ k, w' = w.drewN k) → Q .normal a' w') ops a) : (Code.region id ops.toArray true).wpIn (F.inRound l) n P Q a w := by
  simp only [Region.lexB, Bool.and_eq_true] at hB
  refine wpIn_region_any hm (wpAnyIn_round (fun i o ho => ?_) _ _ _ _ (wpAnyIn_of_quiet (C := fun w' => ∃ k, w' = w.drewN k) (Q := fun a' => ∀ w', (∃ k, w' = w.drewN k) → Q .normal a' w') hro (fun _ w' hw' h => h w' hw') _ _ _ _ ⟨1, rfl⟩ ?_))
  · exact List.all_eq_true.1 hnd o (List.mem_of_getElem? (by simpa using ho))
  · have := wpAnyQIn_lex (F := F) (n := n) (C := fun w' => ∃ k, w' = w.drewN k) (md := .any) hB.1 ops 0 (Array.replicate ops.toArray.size false) a (by simp) (by simpa using hB.2) h
    simpa using this

theorem kpt_drewN (w : World) (k : Nat) : Kpt w (w.drewN k) := Kpt.drewN (Kpt.refl w) k

end Go.Proofs.Ytklaojahocjeiaa

-- ClmF
namespace Go.Proofs.Ytklaojahocjeiaa
open Go.RowKit Go.Shelf
set_option linter.unusedVariables false
attribute [local go_sem] Oper.semAt_some

/-- what a round of Claims finds -/
def CI (n0 b : Nat) (ev : Array Value) (sl : Value) (P C G O : Int) (fs : List (List Int)) (w : World) (pre : List (Fin fs.length)) (W : World) : Prop :=
  (∃ dv pv, Blk W b #[dv] 30 ∧ Blk W (b + 1) #[pv] 31 ∧ Blk W (b + 2) ev 23 ∧ Blk W (n0 + 1) #[sl] 24 ∧ OwnsT 51 W n0 dv (duesOf C fs pre) ∧ OwnsT 53 W n0 pv (pstsOf P G O fs pre)) ∧ Below n0 w W
theorem hoN_bd {G O U : Int} (hu : 0 ≤ U ∧ U ≤ 1073741824) (hg : 0 ≤ G ∧ G ≤ 1000) (ho : 0 ≤ O) : 0 ≤ hoN G O U ∧ hoN G O U ≤ 1073741824000 := by
  unfold hoN
  split
  · omega
  · have h1 : U * G ≤ 1073741824 * 1000 := Int.mul_le_mul hu.2 hg.2 hg.1 (by decide)
    have h0 : 0 ≤ U * G := Int.mul_nonneg hu.1 hg.1
    exact ⟨Int.ediv_nonneg h0 ho, Int.le_trans (Int.ediv_le_self _ h0) (by omega)⟩

set_option maxRecDepth 100000 in
set_option maxHeartbeats 4000000 in
theorem claims_ok (P C G O : Int) (a : Option Addr) (cap : Nat) (fs : List (List Int)) (w : World) (hr : ReadsF w (.slice a fs.length cap) fs) (h : cwE P C G O fs = 0) : Calls Try.prog 10 #[.agg #[.int .i64 P, .int .i64 C, .int .i64 G, .int .i64 O], .slice a fs.length cap] w fun e w' => ∃ dv pv, e = .returned (.tuple #[dv, pv, .int .i64 0]) ∧ OwnsT 51 w' w.heap.size dv (duesOf C fs (hit P fs fs.length)) ∧ OwnsT 53 w' w.heap.size pv (pstsOf P G O fs (hit P fs fs.length)) ∧ Kpt w w' := by
  obtain ⟨h1', h2⟩ := cwE_0 h
  have h60 := checks_60 h2
  have KA : Hid (Kpt w ((w.alloc (.cells #[.int .i64 P, .int .i64 C, .int .i64 G, .int .i64 O] 23)).alloc (.cells #[.slice a fs.length cap] 24))) := ((Kpt.refl w).alloc _).alloc _
  have BE : Hid (Blk ((w.alloc (.cells #[.int .i64 P, .int .i64 C, .int .i64 G, .int .i64 O] 23)).alloc (.cells #[.slice a fs.length cap] 24)) w.heap.size #[.int .i64 P, .int .i64 C, .int .i64 G, .int .i64 O] 23) := (Blk.made w _ _).alloc _
  have BF : Hid (Boxed ((w.alloc (.cells #[.int .i64 P, .int .i64 C, .int .i64 G, .int .i64 O] 23)).alloc (.cells #[.slice a fs.length cap] 24)) (w.heap.size + 1) 24 (.slice a fs.length cap)) := by
    have := Boxed.new (w.alloc (.cells #[.int .i64 P, .int .i64 C, .int .i64 G, .int .i64 O] 23)) 24 (.slice a fs.length cap)
    rwa [World.size_alloc] at this
  have CW := Lib.hid (fun w' (k : Kpt w w') => checkWith_any P C G O _ fs w' (hr.kpt k))
  rw [h] at CW
  have HR := Lib.hid hr
  obtain ⟨a', cap', e, hm, -, hcl⟩ := hr
  injection e with e1 _ e3
  subst e1 e3
  have HC := Lib.hid hcl
  clear hcl h h2
  unfold maxLen at hm
  refine (callsIn_wide (n := 3)).1 ?_
  refine callsIn_of_wp_marks Try.func10 rfl trivial ?_ rfl
  simp only [Try.ntmps10, List.size_toArray, List.length_cons, List.length_nil, Nat.reduceAdd, Nat.reduceSub, Array.replicate_succ, Array.replicate_zero, List.push_toArray, List.append_toArray, List.nil_append, List.cons_append]
  gi_wp2_with (first
    | (refine ⟨trivial, ?_⟩; gi_at_call 31; (with_reducible refine (callsIn_wide.2 (CW.out _ KA.out)).mono ?_); rintro e w1 ⟨rfl, k1⟩; have K1 := Lib.hid (ktr KA.out k1); have B1 := Lib.hid (BE.out.kpt k1); have b0 : World.cell? w1 ⟨w.heap.size, 0, none⟩ = some (.int .i64 P) := B1.out.cell 0; have b1 : World.cell? w1 ⟨w.heap.size, 1, none⟩ = some (.int .i64 C) := B1.out.cell 1; have b2 : World.cell? w1 ⟨w.heap.size, 2, none⟩ = some (.int .i64 G) := B1.out.cell 2; have b3 : World.cell? w1 ⟨w.heap.size, 3, none⟩ = some (.int .i64 O) := B1.out.cell 3; have F1 : Hid (Boxed w1 (w.heap.size + 1) 24 (.slice a fs.length cap)) := Blk.kpt BF.out k1; have f1 := F1.out.cell; have BX := Lib.hid ((B1.out.alloc (.cells #[.slice none 0 0] 30)).alloc (.cells #[.slice none 0 0] 31)); have x0 : World.cell? ((w1.alloc (.cells #[.slice none 0 0] 30)).alloc (.cells #[.slice none 0 0] 31)) ⟨w.heap.size, 0, none⟩ = some (.int .i64 P) := BX.out.cell 0; have x1 : World.cell? ((w1.alloc (.cells #[.slice none 0 0] 30)).alloc (.cells #[.slice none 0 0] 31)) ⟨w.heap.size, 1, none⟩ = some (.int .i64 C) := BX.out.cell 1; have x2 : World.cell? ((w1.alloc (.cells #[.slice none 0 0] 30)).alloc (.cells #[.slice none 0 0] 31)) ⟨w.heap.size, 2, none⟩ = some (.int .i64 G) := BX.out.cell 2; have x3 : World.cell? ((w1.alloc (.cells #[.slice none 0 0] 30)).alloc (.cells #[.slice none 0 0] 31)) ⟨w.heap.size, 3, none⟩ = some (.int .i64 O) := BX.out.cell 3; have FX : Hid (Boxed ((w1.alloc (.cells #[.slice none 0 0] 30)).alloc (.cells #[.slice none 0 0] 31)) (w.heap.size + 1) 24 (.slice a fs.length cap)) := Lib.hid ((F1.out.alloc _).alloc _); have fx := FX.out.cell; have s1 : w.heap.size + 2 ≤ w1.heap.size := (by have := Below.size k1; simp at this; omega); clear k1)
    | (refine ⟨trivial, ?_⟩; gi_at_call 32; (with_reducible refine (callsIn_wide.2 (holdings_run _ _ _ _ _ _ _ _)).mono ?_); rintro e w' ⟨rfl, rfl⟩))
  obtain ⟨w3, hw3⟩ : ∃ w3, ((((w1.alloc (.cells #[.slice none 0 0] 30)).alloc (.cells #[.slice none 0 0] 31)).alloc (.cells #[.int .i64 P, .int .i64 C, .int .i64 G, .int .i64 O] 23)).alloc (.cells #[.slice a fs.length cap] 24)) = w3 := ⟨_, rfl⟩
  have k13 : Kpt w1 w3 := by rw [← hw3]; exact ((((Kpt.refl w1).alloc _).alloc _).alloc _).alloc _
  have sz : w3.heap.size = w1.heap.size + 4 := by rw [← hw3]; simp
  have k3 : Below w.heap.size w w3 := ktr K1.out k13
  have bD : Boxed w3 w1.heap.size 30 (.slice none 0 0) := by rw [← hw3]; exact (((Boxed.new w1 _ _).alloc _).alloc _).alloc _
  have bP : Boxed w3 (w1.heap.size + 1) 31 (.slice none 0 0) := by
    rw [← hw3]
    have := Boxed.new (w1.alloc (.cells #[.slice none 0 0] 30)) 31 (.slice none 0 0)
    rw [World.size_alloc] at this
    exact (this.alloc _).alloc _
  have bE : Blk w3 (w1.heap.size + 2) #[.int .i64 P, .int .i64 C, .int .i64 G, .int .i64 O] 23 := by
    rw [← hw3]
    have := Blk.made ((w1.alloc (.cells #[.slice none 0 0] 30)).alloc (.cells #[.slice none 0 0] 31)) #[.int .i64 P, .int .i64 C, .int .i64 G, .int .i64 O] 23
    rw [World.size_alloc, World.size_alloc] at this
    exact this.alloc _
  have bF : Boxed w3 (w1.heap.size + 3) 24 (.slice a fs.length cap) := by
    rw [← hw3]
    have := Boxed.new (((w1.alloc (.cells #[.slice none 0 0] 30)).alloc (.cells #[.slice none 0 0] 31)).alloc (.cells #[.int .i64 P, .int .i64 C, .int .i64 G, .int .i64 O] 23)) 24 (.slice a fs.length cap)
    rwa [World.size_alloc, World.size_alloc, World.size_alloc] at this
  have bG : Boxed w3 (w.heap.size + 1) 24 (.slice a fs.length cap) := Blk.kpt F1.out k13
  have ST := hold_stops 2 (by omega) w.heap.size w w3 rfl P C G O _ fs (w1.heap.size + 3) (w1.heap.size + 2) HR.out k3 bF.cell bE
  rw [hw3]
  clear hw3 KA BE BF CW B1 b0 b1 b2 b3 F1 f1 BX FX fx x0 x1 x2 x3 K1 k13
  refine wpIn_rangeFunc_ownH rfl (by omega) (gf := 55) (lb := #[.pointer (some ⟨w1.heap.size + 3, 0, none⟩), .pointer (some ⟨w1.heap.size + 2, 0, none⟩)]) rfl trivial (enters_of Try.func55 (by kernel_rfl) rfl)
    ST KpC.t (KpC.b (by omega) (by omega)) (Below.refl _ _) (fun _ => rfl)
    (CI w.heap.size w1.heap.size #[.int .i64 P, .int .i64 C, .int .i64 G, .int .i64 O] (.slice a fs.length cap) P C G O fs w) (fun _ _ _ => False)
    (OwnFrom.and (Own.from (fun s A B row hs hg hr => by obtain ⟨dv, pv, h1, h2, h3, h4, h5, h6⟩ := hs; exact ⟨dv, pv, h1.own hg hr, h2.own hg hr, h3.own hg hr, h4.own hg hr, h5.own hg hr, h6.own hg hr⟩) _) (ownFrom_below (Nat.le_refl _) (by omega)))
    (fun _ _ _ _ _ hs _ _ => hs)
    ⟨⟨_, _, bD, bP, bE, bG, OwnsT.nil _ _ _, OwnsT.nil _ _ _⟩, k3⟩
    (fun x a' W => ∃ q, w1.heap.size + 2 < q ∧ a' = { tmps := #[.agg #[.int .i64 P, .int .i64 C, .int .i64 G, .int .i64 O], .slice a fs.length cap, .pointer (some ⟨w.heap.size, 0, none⟩), .pointer (some ⟨w.heap.size + 1, 0, none⟩), .slice none 0 0, .slice none 0 0, .int .i64 0, .int .i64 0, .pointer (some ⟨w1.heap.size, 0, none⟩), .pointer (some ⟨w1.heap.size + 1, 0, none⟩), .int .i64 ((x.1 : Nat) : Int), .pointer (some ⟨q, 0, none⟩), undef, undef, undef, undef, undef, .agg #[.int .i64 P, .int .i64 C, .int .i64 G, .int .i64 O], .slice a fs.length cap, .int .i64 0, .int .i64 0, .bool false, undef, .agg #[.int .i64 P, .int .i64 C, .int .i64 G, .int .i64 O], .slice a fs.length cap, .func (.func 55) #[] #[.pointer (some ⟨w1.heap.size + 3, 0, none⟩), .pointer (some ⟨w1.heap.size + 2, 0, none⟩)], .int .i64 ((x.1 : Nat) : Int), .agg #[.int .i64 P, .int .i64 C, .int .i64 G, .int .i64 O, .int .i64 (openL (fs.getD x.1 []))], undef, undef, undef, undef, undef, undef, undef, undef, undef, undef, undef, undef, undef, undef, undef, undef, undef, undef, undef, undef, undef, undef, undef, undef, undef, undef, undef, undef, undef, undef, undef, undef, undef, undef, undef, undef, undef, undef, undef, undef, undef, undef, undef, undef, undef, undef], defers := [] } ∧ Blk W q #[.int .i64 P, .int .i64 C, .int .i64 G, .int .i64 O, .int .i64 (openL (fs.getD x.1 []))] 58)
    (fun x a' => Own.from (fun s A B row hs hg hr => by obtain ⟨q, h1, h2, h3⟩ := hs; exact ⟨q, h1, h2, h3.own hg hr⟩) _)
    ?assign ?body ?done ?stop
  case assign =>
    clear bD bP bE bF bG k3 ST
    rintro l pre x W K ⟨⟨dv, pv, h1, h2, h3, h4, h5, h6⟩, hB⟩ hK
    have ZH : Hid (Blk (W.alloc (.cells #[.int .i64 0, .int .i64 0, .int .i64 0, .int .i64 0, .int .i64 0] 58)) W.heap.size #[.int .i64 0, .int .i64 0, .int .i64 0, .int .i64 0, .int .i64 0] 58) := Blk.made _ _ _
    have KZ : Hid (Kpt W (W.alloc (.cells #[.int .i64 0, .int .i64 0, .int .i64 0, .int .i64 0, .int .i64 0] 58))) := (Kpt.refl W).alloc _
    have hq := h3.lt
    generalize openL (fs.getD x.1 []) = U at hK ⊢
    gi_wp2_with (refine wpIn_storeH rfl (.tmp 11) (.tmp 27) rfl W.heap.size _ _ rfl rfl ZH.out rfl rfl (by simp [Value.oneCell']) ?_; intro w9 r9 k9 o9; have R9 := Lib.hid r9; have K9 : Hid (Kpt W w9) := Lib.hid (k9 _ _ KZ.out (Nat.le_refl _)); clear r9 k9 o9)
    exact hK _ _ ((kothers K9.out).from _) ⟨Below.mono K9.out hB.size, Below.block K9.out _ hq⟩ ⟨⟨dv, pv, h1.kpt K9.out, h2.kpt K9.out, h3.kpt K9.out, h4.kpt K9.out, h5.kpt K9.out, h6.kpt K9.out⟩, hB.trans (Below.mono K9.out hB.size)⟩ ⟨_, hq, rfl, R9.out⟩
  case body =>
    clear bD bP bE bF bG k3 ST
    rintro l pre x a' W hl - ⟨⟨dv, pv, h1, h2, h3, h4, h5, h6⟩, hB⟩ ⟨q, hq, rfl, h7⟩ hlen
    have S0 : Hid (CS w.heap.size w1.heap.size q #[.int .i64 P, .int .i64 C, .int .i64 G, .int .i64 O] #[.int .i64 P, .int .i64 C, .int .i64 G, .int .i64 O, .int .i64 (openL (fs.getD x.1 []))] (.slice a fs.length cap) W dv (duesOf C fs pre) pv (pstsOf P G O fs pre)) := ⟨h1, h2, h3, h4, h7, h5, h6⟩
    have LD : Hid ((duesOf C fs pre).length ≤ 60) := by unfold Hid; have := duesOf_len C fs pre; omega
    have LP : Hid ((pstsOf P G O fs pre).length ≤ 120) := by unfold Hid; have := pstsOf_len P G O fs pre; omega
    obtain ⟨g, off, rfl, hfl⟩ := HC.out x.1 x.2
    have hf := hfl.kpt hB
    have f0 : W.cell? ⟨w.heap.size + 1, 0, none⟩ = some (.slice (some ⟨g, off, none⟩) fs.length cap) := h4.cell 0
    have c1 : W.cell? ⟨g, off + x.1 * 10 + 1, none⟩ = _ := hf 1 (by omega)
    have c2 : W.cell? ⟨g, off + x.1 * 10 + 2, none⟩ = _ := hf 2 (by omega)
    have HI : Hid (∀ W' dv' pv', CS w.heap.size w1.heap.size q #[.int .i64 P, .int .i64 C, .int .i64 G, .int .i64 O] #[.int .i64 P, .int .i64 C, .int .i64 G, .int .i64 O, .int .i64 (openL (fs.getD x.1 []))] (.slice (some ⟨g, off, none⟩) fs.length cap) W' dv' (duesOf C fs pre ++ dueL C (fs.getD x.1 [])) pv' (pstsOf P G O fs pre ++ pstL P G O (fs.getD x.1 [])) → Stp w.heap.size w1.heap.size W W' → KeepsFrom w3.heap.size W W' ∧ KpC w.heap.size (w1.heap.size + 2) W W' ∧ CI w.heap.size w1.heap.size #[.int .i64 P, .int .i64 C, .int .i64 G, .int .i64 O] (.slice (some ⟨g, off, none⟩) fs.length cap) P C G O fs w (pre ++ [x]) W') := by
      intro W' dv' pv' hs ht
      refine ⟨ht.1.from _, ⟨ht.2, hs.be.trans h3.symm⟩, ⟨dv', pv', hs.bd, hs.bp, hs.be, hs.bf, ?_, ?_⟩, hB.trans ht.2⟩
      · rw [duesOf_s]; exact hs.od
      · rw [pstsOf_s]; exact hs.op
    have hU : 0 ≤ openL (fs.getD x.1 []) ∧ openL (fs.getD x.1 []) ≤ 1073741824 := openV_bd _ _ _ _ _ _ _ _ _ _
    obtain ⟨-, hC, hG, hO, -⟩ := evE_0 h1'
    have hN := hoN_bd hU hG hO.1
    have CA := Lib.hid (fun w => hcash_run P C G O (openL (fs.getD x.1 [])) hC hU w)
    have FA := Lib.hid (fun w => hfresh_run P C G O (openL (fs.getD x.1 [])) hG hO hU w)
    have i0 : (0 : Int) ≤ (x.1 : Int) := by omega
    have i1 : (x.1 : Int) < (fs.length : Int) := by have := x.2; omega
    unfold dueL pstL at HI
    have hmx : Try.prog.follows .mixedOrders = true := by kernel_rfl
    clear h1 h2 h3 h4 h5 h6 h7 hf hfl hB hU hC hG hO
    generalize x.1 = k at *
    generalize openL (fs.getD k []) = U at *
    generalize (fs.getD k []).getD 1 0 = F at *
    generalize (fs.getD k []).getD 2 0 = T at *
    generalize hoC C U = X at *
    generalize hoN G O U = N at *
    generalize hoR G O U = R at *
    have m1 : IntKind.i64.wrap (-N) = -N := IntWalk.i64_in _ (by omega)
    gi_wp2
    refine wpIn_region_quiet_round (F := Fence.wide) rfl (by kernel_rfl) hmx (by kernel_rfl) ?_
    repeat (gi_big_quiet_step (fail))
    refine wpQuietIn_nil ?_
    intro W1 hw1
    have KW : Hid (Kpt W W1) := by obtain ⟨nq, rfl⟩ := hw1; exact kpt_drewN _ _
    have T1 : Hid (Stp w.heap.size w1.heap.size W W1) := Stp.of KW.out (by have := S0.out.bd.lt; omega)
    have S1 := Lib.hid (S0.out.kpt KW.out)
    clear hw1 KW S0
    clear f0 c1 c2
    by_cases hX : 0 < X
    · rw [if_pos hX] at HI
      have X0 : decide ((0 : Int) < X) = true := decide_eq_true hX
      by_cases hN0 : 0 < N
      · rw [if_pos hN0] at HI
        have N0 : decide ((0 : Int) < N) = true := decide_eq_true hN0
        gi_wp2_with (first
          | (refine wpIn_loadH rfl (.tmp 11) rfl q _ rfl S3.out.bh rfl ?_)
          | (refine wpIn_loadH rfl (.tmp 11) rfl q _ rfl S1.out.bh rfl ?_)
          | (refine ⟨trivial, ?_⟩; gi_at_call 29; refine (CallsIn.inRound l (callsIn_wide.2 (CA.out _))).mono ?_; rintro e w2 ⟨rfl, k2⟩; have S2 := Lib.hid (S1.out.kpt k2); have T2 := Lib.hid (T1.out.t (Stp.of k2 (by have := S1.out.bd.lt; omega))); have d0 : World.cell? w2 ⟨w1.heap.size, 0, none⟩ = some dv := S2.out.bd.cell 0; clear k2)
          | (gi_at_builtin; refine wpIn_appendDu rfl _ _ rfl w.heap.size dv _ [(F, T, X)] _ w2.heap.size 1 _ _ rfl (S2.out.od.alloc _) rfl (Blk.made _ _ _) rfl (by have := LD.out; simp; omega) (by have := S2.out.bd.lt; simp; omega) ?_; intro v3 w3 o3 g3; obtain ⟨a3, n3, p3, rfl, -⟩ := OwnsT.formN o3; obtain ⟨d3, z3, t3⟩ := S2.out.addD (by omega) (by omega) o3 g3; have S3 := Lib.hid z3; have T3 := Lib.hid (T2.out.t t3); have hc1 := d3.cell; have hf1 := d3.frozen; clear z3 t3 o3 g3)
          | (refine ⟨trivial, ?_⟩; gi_at_call 30; refine (CallsIn.inRound l (callsIn_wide.2 (FA.out _))).mono ?_; rintro e w4 ⟨rfl, k4⟩; have S4 := Lib.hid (S3.out.kpt k4); have T4 := Lib.hid (T3.out.t (Stp.of k4 (by have := S3.out.bd.lt; omega))); have p0 : World.cell? w4 ⟨w1.heap.size + 1, 0, none⟩ = some pv := S4.out.bp.cell 0; have q0 : World.cell? w4 ⟨q, 0, none⟩ = some (.int .i64 P) := S4.out.bh.cell 0; clear k4)
          | (gi_at_builtin; refine wpIn_appendPs rfl _ _ rfl w.heap.size pv _ [(F, P, -N), (T, P, N)] _ w4.heap.size 2 _ _ rfl (S4.out.op.alloc _) rfl (Blk.made _ _ _) rfl (by have := LP.out; simp; omega) (by have := S4.out.bd.lt; simp; omega) ?_; intro v5 w5 o5 g5; obtain ⟨a5, n5, p5, rfl, -⟩ := OwnsT.formN o5; obtain ⟨d5, z5, t5⟩ := S4.out.addP (by omega) (by omega) o5 g5; have S5 := Lib.hid z5; have T5 := Lib.hid (T4.out.t t5); have hc5 := d5.cell; have hf5 := d5.frozen; clear z5 t5 o5 g5))
        exact HI.out _ _ _ S5.out T5.out
      · rw [if_neg hN0, List.append_nil] at HI
        have N0 : decide ((0 : Int) < N) = false := decide_eq_false hN0
        gi_wp2_with (first
          | (refine wpIn_loadH rfl (.tmp 11) rfl q _ rfl S3.out.bh rfl ?_)
          | (refine wpIn_loadH rfl (.tmp 11) rfl q _ rfl S1.out.bh rfl ?_)
          | (refine ⟨trivial, ?_⟩; gi_at_call 29; refine (CallsIn.inRound l (callsIn_wide.2 (CA.out _))).mono ?_; rintro e w2 ⟨rfl, k2⟩; have S2 := Lib.hid (S1.out.kpt k2); have T2 := Lib.hid (T1.out.t (Stp.of k2 (by have := S1.out.bd.lt; omega))); have d0 : World.cell? w2 ⟨w1.heap.size, 0, none⟩ = some dv := S2.out.bd.cell 0; clear k2)
          | (gi_at_builtin; refine wpIn_appendDu rfl _ _ rfl w.heap.size dv _ [(F, T, X)] _ w2.heap.size 1 _ _ rfl (S2.out.od.alloc _) rfl (Blk.made _ _ _) rfl (by have := LD.out; simp; omega) (by have := S2.out.bd.lt; simp; omega) ?_; intro v3 w3 o3 g3; obtain ⟨a3, n3, p3, rfl, -⟩ := OwnsT.formN o3; obtain ⟨d3, z3, t3⟩ := S2.out.addD (by omega) (by omega) o3 g3; have S3 := Lib.hid z3; have T3 := Lib.hid (T2.out.t t3); have hc1 := d3.cell; have hf1 := d3.frozen; clear z3 t3 o3 g3)
          | (refine ⟨trivial, ?_⟩; gi_at_call 30; refine (CallsIn.inRound l (callsIn_wide.2 (FA.out _))).mono ?_; rintro e w4 ⟨rfl, k4⟩; have S4 := Lib.hid (S3.out.kpt k4); have T4 := Lib.hid (T3.out.t (Stp.of k4 (by have := S3.out.bd.lt; omega))); have p0 : World.cell? w4 ⟨w1.heap.size + 1, 0, none⟩ = some pv := S4.out.bp.cell 0; have q0 : World.cell? w4 ⟨q, 0, none⟩ = some (.int .i64 P) := S4.out.bh.cell 0; clear k4))
        exact HI.out _ _ _ S4.out T4.out
    · rw [if_neg hX, List.append_nil] at HI
      have X0 : decide ((0 : Int) < X) = false := decide_eq_false hX
      by_cases hN0 : 0 < N
      · rw [if_pos hN0] at HI
        have N0 : decide ((0 : Int) < N) = true := decide_eq_true hN0
        gi_wp2_with (first
          | (refine wpIn_loadH rfl (.tmp 11) rfl q _ rfl S2.out.bh rfl ?_)
          | (refine wpIn_loadH rfl (.tmp 11) rfl q _ rfl S1.out.bh rfl ?_)
          | (refine ⟨trivial, ?_⟩; gi_at_call 29; refine (CallsIn.inRound l (callsIn_wide.2 (CA.out _))).mono ?_; rintro e w2 ⟨rfl, k2⟩; have S2 := Lib.hid (S1.out.kpt k2); have T2 := Lib.hid (T1.out.t (Stp.of k2 (by have := S1.out.bd.lt; omega))); have d0 : World.cell? w2 ⟨w1.heap.size, 0, none⟩ = some dv := S2.out.bd.cell 0; clear k2)
          | (refine ⟨trivial, ?_⟩; gi_at_call 30; refine (CallsIn.inRound l (callsIn_wide.2 (FA.out _))).mono ?_; rintro e w4 ⟨rfl, k4⟩; have S4 := Lib.hid (S2.out.kpt k4); have T4 := Lib.hid (T2.out.t (Stp.of k4 (by have := S2.out.bd.lt; omega))); have p0 : World.cell? w4 ⟨w1.heap.size + 1, 0, none⟩ = some pv := S4.out.bp.cell 0; have q0 : World.cell? w4 ⟨q, 0, none⟩ = some (.int .i64 P) := S4.out.bh.cell 0; clear k4)
          | (gi_at_builtin; refine wpIn_appendPs rfl _ _ rfl w.heap.size pv _ [(F, P, -N), (T, P, N)] _ w4.heap.size 2 _ _ rfl (S4.out.op.alloc _) rfl (Blk.made _ _ _) rfl (by have := LP.out; simp; omega) (by have := S4.out.bd.lt; simp; omega) ?_; intro v5 w5 o5 g5; obtain ⟨a5, n5, p5, rfl, -⟩ := OwnsT.formN o5; obtain ⟨d5, z5, t5⟩ := S4.out.addP (by omega) (by omega) o5 g5; have S5 := Lib.hid z5; have T5 := Lib.hid (T4.out.t t5); have hc5 := d5.cell; have hf5 := d5.frozen; clear z5 t5 o5 g5))
        exact HI.out _ _ _ S5.out T5.out
      · rw [if_neg hN0, List.append_nil] at HI
        have N0 : decide ((0 : Int) < N) = false := decide_eq_false hN0
        gi_wp2_with (first
          | (refine wpIn_loadH rfl (.tmp 11) rfl q _ rfl S2.out.bh rfl ?_)
          | (refine wpIn_loadH rfl (.tmp 11) rfl q _ rfl S1.out.bh rfl ?_)
          | (refine ⟨trivial, ?_⟩; gi_at_call 29; refine (CallsIn.inRound l (callsIn_wide.2 (CA.out _))).mono ?_; rintro e w2 ⟨rfl, k2⟩; have S2 := Lib.hid (S1.out.kpt k2); have T2 := Lib.hid (T1.out.t (Stp.of k2 (by have := S1.out.bd.lt; omega))); have d0 : World.cell? w2 ⟨w1.heap.size, 0, none⟩ = some dv := S2.out.bd.cell 0; clear k2)
          | (refine ⟨trivial, ?_⟩; gi_at_call 30; refine (CallsIn.inRound l (callsIn_wide.2 (FA.out _))).mono ?_; rintro e w4 ⟨rfl, k4⟩; have S4 := Lib.hid (S2.out.kpt k4); have T4 := Lib.hid (T2.out.t (Stp.of k4 (by have := S2.out.bd.lt; omega))); have p0 : World.cell? w4 ⟨w1.heap.size + 1, 0, none⟩ = some pv := S4.out.bp.cell 0; have q0 : World.cell? w4 ⟨q, 0, none⟩ = some (.int .i64 P) := S4.out.bh.cell 0; clear k4))
        exact HI.out _ _ _ S4.out T4.out
  case done =>
    clear bD bP bE bF bG k3 ST
    rintro D ys W hD rfl ⟨⟨dv, pv, h1, h2, h3, h4, h5, h6⟩, hB⟩ hK
    have d0 : W.cell? ⟨w1.heap.size, 0, none⟩ = some dv := h1.cell 0
    have p0 : W.cell? ⟨w1.heap.size + 1, 0, none⟩ = some pv := h2.cell 0
    have HD := Lib.hid (h5.own (grownBy_putObj' W D (.deferred none)) (fun r e => by cases e; exact ⟨_, hK, rfl⟩))
    have HP := Lib.hid (h6.own (grownBy_putObj' W D (.deferred none)) (fun r e => by cases e; exact ⟨_, hK, rfl⟩))
    have HBE := Lib.hid ((Below.drew hB).trans (belowK_b (w := w) (Nat.le_refl _) W.drew D (.deferred (some [])) (.deferred none) (by omega) hK rfl rfl))
    have HK := Lib.hid hK
    have hmx : Try.prog.follows .mixedOrders = true := by kernel_rfl
    clear h1 h2 h3 h4 h5 h6 hB hK
    gi_wp2
    refine wpIn_mono (Q := fun e a' w' => match e with | .normal => a' = { tmps := #[.agg #[.int .i64 P, .int .i64 C, .int .i64 G, .int .i64 O], .slice a fs.length cap, .pointer (some ⟨w.heap.size, 0, none⟩), .pointer (some ⟨w.heap.size + 1, 0, none⟩), dv, pv, .int .i64 0, .int .i64 0, .pointer (some ⟨w1.heap.size, 0, none⟩), .pointer (some ⟨w1.heap.size + 1, 0, none⟩), undef, undef, undef, undef, undef, undef, undef, .agg #[.int .i64 P, .int .i64 C, .int .i64 G, .int .i64 O], .slice a fs.length cap, .int .i64 0, .int .i64 0, .bool false, undef, .agg #[.int .i64 P, .int .i64 C, .int .i64 G, .int .i64 O], .slice a fs.length cap, .func (.func 55) #[] #[.pointer (some ⟨w1.heap.size + 3, 0, none⟩), .pointer (some ⟨w1.heap.size + 2, 0, none⟩)], undef, undef, undef, undef, undef, undef, undef, undef, undef, undef, undef, undef, undef, undef, undef, undef, undef, undef, undef, undef, undef, undef, undef, undef, undef, undef, undef, undef, undef, undef, undef, undef, undef, undef, undef, undef, undef, undef, undef, undef, undef, undef, undef, undef, undef, undef, dv, pv], defers := [{ target := .collected D, args := #[] }] } ∧ w' = W.drew | _ => False) ?_ (fun e a' w' hh => ?_)
    · clear HD HP HBE HK HC HR h60 h1' hm s1 sz
      gi_region_with_o (fail)
      all_goals exact ⟨rfl, rfl⟩
    obtain rfl : e = .normal := by cases e <;> first | rfl | exact hh.elim
    obtain ⟨rfl, rfl⟩ := hh
    all_goals gi_wp2
    all_goals refine ⟨by simp, .inl ⟨_, _, rfl, run_takeDeferred (w := W.drew) HK.out, ?_⟩⟩
    all_goals exact ⟨_, results_tmp3 Try.results10 _ _ _, dv, pv, rfl, HD.out, HP.out, HBE.out⟩
  case stop =>
    rintro D c pre W _ _ h _
    exact h.elim

end Go.Proofs.Ytklaojahocjeiaa
