/-
  Merged: RepB, RepM.
-/
import Derived.RangeFuncNested
import Derived.RangeFuncBound
import Derived.RangeFuncCalls
import Derived.RangeFuncLeaves
import Derived.RangeFuncFrom
import Derived.RangeFuncGives
import Derived.RangeFuncBox
import Derived.RangeFuncWrites
import Derived.Shelf.Abstract
import Derived.Shelf.RegionOpen
import Derived.OwnWalkIn
import Derived.TacticsInMore
import Derived.LoopNIn
import Derived.LoopIn
import Derived.Test.YtagmgpdgiphhbaaFailE
import Derived.Test.YtagmgpdgiphhbaaFailS
import Derived.Test.YtagmgpdgiphhbaaBlk
import Derived.Test.YtagmgpdgiphhbaaTrip
import Derived.BigQuiet
-- RepB
namespace Go.Proofs.Ytagmgpdgiphhbaa
open Go.RowKit Go.Shelf
set_option linter.unusedVariables false
attribute [local go_sem] Oper.semAt_some

theorem wpIn_storeF {F : Fence} {n : Nat} {ops : Array Oper} {rest : List Oper} {o : Oper} {a : Act} {w : World} {Q : Exit → Act → World → Prop} (hgd : o.guard = none) (x y : Operand) (ho : o.op = .store 38 x y)
    (g : Nat) (cs old : Array Value) (hx : a.eval x = .pointer (some ⟨g, 0, none⟩)) (hy : a.eval y = .agg cs) (hg : Blk w g old 38) (hs : old.size = 10) (hc : cs.size = 10) (h1 : cs.all (·.oneCell') = true)
    (h : ∀ w', Blk w' g cs 38 → (∀ B w0, Below B w0 w → B ≤ g → Below B w0 w') → (∀ k, k ≠ g → w'.heap[k]? = w.heap[k]?) → wpListIn F n Try.prog ops Q rest (a.put o.dst undef) w') : wpListIn F n Try.prog ops Q (o :: rest) a w :=
  wpListIn_plain hgd fun K hK => by
    have hq := h _ (setRow_heap w g old cs _ _ hg) (fun B w0 hb hB => below_setRow hb hB cs) (fun k hk => setRow_other w g k cs hk)
    unfold Oper.wpIn
    refine ⟨by simp [Oper.about, ho], ?_⟩
    rw [Oper.semAt_plain F _ _ (by rw [ho]; intro c hc'; cases hc')]
    simp only [execOp, ho, hx, hy, Instr.storeAt, Instr.sureAddr, Sem.run_bind, Sem.run_pure, Result.andThen_ok, run_storeVar_row (P := Try.prog) w g 38 38 old cs hg (by rw [hc]; exact Try.sizeFail) (by omega) h1]
    exact hK _ _ hq
theorem wpIn_loadF {F : Fence} {n : Nat} {ops : Array Oper} {rest : List Oper} {o : Oper} {a : Act} {w : World} {Q : Exit → Act → World → Prop} (hgd : o.guard = none) (x : Operand) (ho : o.op = .load 38 x)
    (g : Nat) (cs : Array Value) (hx : a.eval x = .pointer (some ⟨g, 0, none⟩)) (hg : Blk w g cs 38) (hc : cs.size = 10)
    (h : wpListIn F n Try.prog ops Q rest (a.put o.dst (.agg cs)) w) : wpListIn F n Try.prog ops Q (o :: rest) a w :=
  wpListIn_plain hgd fun K hK => by
    unfold Oper.wpIn
    refine ⟨by simp [Oper.about, ho], ?_⟩
    rw [Oper.semAt_plain F _ _ (by rw [ho]; intro c hc'; cases hc')]
    simp only [execOp, ho, hx, Instr.loadAt, Instr.sureAddr, Sem.run_bind, Sem.run_pure, Result.andThen_ok, run_loadVar_row (P := Try.prog) w g 38 38 cs (0, 0) _ hg Try.underlying38 rfl (by rw [hc]; exact Try.sizeFail)]
    exact hK _ _ h

theorem kgrown {w w' : World} (h : Kpt w w') : w.grownBy w' none := ⟨Below.os h, Below.tape h, Below.output h, Below.size h, fun k hk _ => Below.block h k hk⟩
theorem kothers {w w' : World} (k : Kpt w w') : KeepsOthers w w' := ⟨Below.size k, fun i o h _ => (Below.block k i (heap_lt h)).trans h⟩
theorem kpt_drewN (w : World) (k : Nat) : Kpt w (w.drewN k) := Kpt.drewN (Kpt.refl w) k
/-- how many of a fail are open, told as a list -/
def openL (l : List Int) : Int := openV (l.getD 0 0) (l.getD 1 0) (l.getD 2 0) (l.getD 3 0) (l.getD 4 0) (l.getD 5 0) (l.getD 6 0) (l.getD 7 0) (l.getD 8 0) (l.getD 9 0)
/-- the cells of a fail, told as a list -/
def flC (l : List Int) : Array Value := #[.int .i64 (l.getD 0 0), .int .i64 (l.getD 1 0), .int .i64 (l.getD 2 0), .int .i64 (l.getD 3 0), .int .i64 (l.getD 4 0), .int .i64 (l.getD 5 0), .int .i64 (l.getD 6 0), .int .i64 (l.getD 7 0), .int .i64 (l.getD 8 0), .int .i64 (l.getD 9 0)]
/-- those of the first k fails that are open -/
def opn (fs : List (List Int)) (k : Nat) : List (Fin fs.length) := ((List.finRange fs.length).take k).filter fun i => decide (0 < openL (fs.getD i.1 []))
theorem opn_s {fs : List (List Int)} {k : Nat} (h : k < fs.length) : opn fs (k + 1) = opn fs k ++ (if 0 < openL (fs.getD k []) then [⟨k, h⟩] else []) := by
  unfold opn
  rw [List.take_succ_eq_append_getElem (by simpa using h), List.filter_append]
  congr 1
  have : (List.finRange fs.length)[k]'(by simpa using h) = ⟨k, h⟩ := by simp
  rw [this]
  by_cases e : 0 < openL (fs.getD k [])
  · rw [if_pos e, List.filter_cons_of_pos (by simpa using e), List.filter_nil]
  · rw [if_neg e, List.filter_cons_of_neg (by simpa using e), List.filter_nil]
theorem opn_len (fs : List (List Int)) (k : Nat) : (opn fs k).length ≤ k := by
  unfold opn; refine Nat.le_trans (List.length_filter_le _ _) ?_; rw [List.length_take]; exact Nat.min_le_left _ _
theorem opn_pre (fs : List (List Int)) {k m : Nat} (h : k ≤ m) : opn fs k <+: opn fs m := by
  unfold opn
  exact List.IsPrefix.filter _ (List.take_prefix_take_left h)

set_option maxHeartbeats 2000000 in
theorem open_it (a : Option Addr) (n cap : Nat) (w : World) : Calls Try.prog 18 #[.slice a n cap] w fun e w' => e = .returned (.func (.func 42) #[] #[.pointer (some ⟨w.heap.size, 0, none⟩)]) ∧ w' = w.alloc (.cells #[.slice a n cap] 25) := by
  go_enter Try.func18, Try.ntmps18
  go_wp2
  go_ret
  exact ⟨rfl, rfl⟩

set_option maxRecDepth 100000 in
set_option maxHeartbeats 4000000 in
theorem openIter_in (n : Nat) (hn : 1 ≤ n) (l : Nat) (w0 : World) (v : Value) (fs : List (List Int)) (Bs : Nat) (hR : ReadsF w0 v fs)
    (J Jx : List (Fin fs.length) → World → Prop) (W0 : World) (hJ : AbidesFrom W0.heap.size J) (g0 : Kpt w0 W0) (hB : W0.cell? ⟨Bs, 0, none⟩ = some v)
    (hY : ∀ pre x W1, J pre W1 → pre.length < fs.length → YieldAt Fence.wide (n - 1) Try.prog l #[.agg (flC (fs.getD x.1 [])), .int .i64 (openL (fs.getD x.1 []))] W1 fun e W' =>
      (e = .returned (.bool true) ∧ J (pre ++ [x]) W' ∧ Below w0.heap.size W1 W') ∨ (e = .returned (.bool false) ∧ Jx (pre ++ [x]) W'))
    (h0 : J [] W0) :
    CallsIn Fence.wide n Try.prog 42 #[.func (.yield l) #[] #[], .pointer (some ⟨Bs, 0, none⟩)] W0 fun e W' => (∃ v, e = .returned v) ∧
      ((∃ ys, ys = opn fs fs.length ∧ J ys W') ∨ (∃ pre, pre <+: opn fs fs.length ∧ Jx pre W')) := by
  obtain ⟨a, cap, rfl, hm, -, hc⟩ := hR
  unfold maxLen at hm
  have HC := Lib.hid hc
  have HJ := Lib.hid hJ
  have G0 := Lib.hid g0
  have HY := Lib.hid hY
  have c0 := hB
  have H0 : Hid (J (opn fs 0) W0) := h0
  have HS := Lib.hid (fun k (h : k < fs.length) => opn_s h)
  have HL := Lib.hid (fun k => opn_len fs k)
  have HP := Lib.hid (fun k (h : k ≤ fs.length) => opn_pre fs h)
  clear hc hJ g0 hY hB h0
  refine callsIn_of_wp Try.func42 rfl trivial ?_ rfl
  simp only [Try.ntmps42, List.size_toArray, List.length_cons, List.length_nil, Nat.reduceAdd, Nat.reduceSub, Array.replicate_succ, Array.replicate_zero, List.push_toArray, List.append_toArray, List.nil_append, List.cons_append]
  gi_wp2
  clear c0
  gi_loopw [9] (fun i wr => ∃ k : Nat, k ≤ fs.length ∧ i = .int .i64 (k : Int) ∧ Hid (J (opn fs k) wr) ∧ Hid (Kpt w0 wr)) (fun i _ => fs.length - (intOf i).toNat)
  case atStart => exact ⟨0, Nat.zero_le _, rfl, H0.out, G0.out⟩
  case round =>
    obtain ⟨k, hk, rfl, HJs, HK⟩ := hrel
    by_cases hlt : k < fs.length
    · obtain ⟨g, off, rfl, hfl⟩ := HC.out k hlt
      have hf := hfl.kpt HK.out
      have hs := HS.out k hlt
      have hlen : (opn fs k).length < fs.length := Nat.lt_of_le_of_lt (HL.out k) hlt
      have HQ := Lib.hid (HP.out (k + 1) hlt)
      have hyk := fun W1 (h : J (opn fs k) W1) => HY.out (opn fs k) ⟨k, hlt⟩ W1 h hlen
      unfold openL at hs
      unfold openL flC at hyk
      dsimp only at hyk
      have c0 : wr.cell? ⟨g, off + k * 10, none⟩ = _ := hf 0 (by omega)
      have c1 : wr.cell? ⟨g, off + k * 10 + 1, none⟩ = _ := hf 1 (by omega)
      have c2 : wr.cell? ⟨g, off + k * 10 + 2, none⟩ = _ := hf 2 (by omega)
      have c3 : wr.cell? ⟨g, off + k * 10 + 3, none⟩ = _ := hf 3 (by omega)
      have c4 : wr.cell? ⟨g, off + k * 10 + 4, none⟩ = _ := hf 4 (by omega)
      have c5 : wr.cell? ⟨g, off + k * 10 + 5, none⟩ = _ := hf 5 (by omega)
      have c6 : wr.cell? ⟨g, off + k * 10 + 6, none⟩ = _ := hf 6 (by omega)
      have c7 : wr.cell? ⟨g, off + k * 10 + 7, none⟩ = _ := hf 7 (by omega)
      have c8 : wr.cell? ⟨g, off + k * 10 + 8, none⟩ = _ := hf 8 (by omega)
      have c9 : wr.cell? ⟨g, off + k * 10 + 9, none⟩ = _ := hf 9 (by omega)
      clear hf hfl
      generalize (fs.getD k []).getD 0 0 = i at *
      generalize (fs.getD k []).getD 1 0 = f at *
      generalize (fs.getD k []).getD 2 0 = t at *
      generalize (fs.getD k []).getD 3 0 = c at *
      generalize (fs.getD k []).getD 4 0 = p at *
      generalize (fs.getD k []).getD 5 0 = d at *
      generalize (fs.getD k []).getD 6 0 = u at *
      generalize (fs.getD k []).getD 7 0 = x at *
      generalize (fs.getD k []).getD 8 0 = b at *
      generalize (fs.getD k []).getD 9 0 = y at *
      have OX := Lib.hid (fun w => fopenX_run i f t c p d u x b y w)
      generalize openV i f t c p d u x b y = U at *
      generalize failE i f t c p d u x b y = E at *
      have HYK := Lib.hid hyk
      have y1 : decide ((k : Int) < (fs.length : Int)) = true := decide_eq_true (by omega)
      have ZB : Hid (Blk (wr.alloc (.cells #[.int .i64 0, .int .i64 0, .int .i64 0, .int .i64 0, .int .i64 0, .int .i64 0, .int .i64 0, .int .i64 0, .int .i64 0, .int .i64 0] 38)) wr.heap.size #[.int .i64 0, .int .i64 0, .int .i64 0, .int .i64 0, .int .i64 0, .int .i64 0, .int .i64 0, .int .i64 0, .int .i64 0, .int .i64 0] 38) := Blk.made _ _ _
      have KZ : Hid (Kpt wr (wr.alloc (.cells #[.int .i64 0, .int .i64 0, .int .i64 0, .int .i64 0, .int .i64 0, .int .i64 0, .int .i64 0, .int .i64 0, .int .i64 0, .int .i64 0] 38))) := (Kpt.refl wr).alloc _
      clear hyk
      by_cases hu : 0 < U
      · have hd0 : decide ((0 : Int) < U) = true := decide_eq_true hu
        have HV : Hid (opn fs (k + 1) = opn fs k ++ [⟨k, hlt⟩]) := by unfold Hid; rw [hs]; simp [hu]
        clear hs hu
        gi_wp2_with (first
          | (refine wpIn_storeF rfl (.tmp 4) (.tmp 12) rfl wr.heap.size _ _ rfl rfl ZB.out rfl rfl (by simp [Value.oneCell']) ?_; intro w9 r9 k9 o9; have R9 := Lib.hid r9; have K9 : Hid (Kpt wr w9) := Lib.hid (k9 _ _ KZ.out (Nat.le_refl _)); clear r9 k9 o9)
          | (refine wpIn_loadF rfl (.tmp 4) rfl wr.heap.size _ rfl R9.out rfl ?_)
          | (refine ⟨trivial, ?_⟩; gi_at_call 43; refine (callsIn_wide.2 (OX.out _)).mono ?_; rintro e w2 ⟨rfl, k2⟩; have K2 := Lib.hid (ktr K9.out k2); have X2 := R9.out.kpt k2; have e0 : World.cell? w2 ⟨wr.heap.size, 0, none⟩ = some (.int .i64 i) := X2.cell 0; have e1 : World.cell? w2 ⟨wr.heap.size, 1, none⟩ = some (.int .i64 f) := X2.cell 1; have e2 : World.cell? w2 ⟨wr.heap.size, 2, none⟩ = some (.int .i64 t) := X2.cell 2; have e3 : World.cell? w2 ⟨wr.heap.size, 3, none⟩ = some (.int .i64 c) := X2.cell 3; have e4 : World.cell? w2 ⟨wr.heap.size, 4, none⟩ = some (.int .i64 p) := X2.cell 4; have e5 : World.cell? w2 ⟨wr.heap.size, 5, none⟩ = some (.int .i64 d) := X2.cell 5; have e6 : World.cell? w2 ⟨wr.heap.size, 6, none⟩ = some (.int .i64 u) := X2.cell 6; have e7 : World.cell? w2 ⟨wr.heap.size, 7, none⟩ = some (.int .i64 x) := X2.cell 7; have e8 : World.cell? w2 ⟨wr.heap.size, 8, none⟩ = some (.int .i64 b) := X2.cell 8; have e9 : World.cell? w2 ⟨wr.heap.size, 9, none⟩ = some (.int .i64 y) := X2.cell 9; clear X2 k2; obtain ⟨fn, tmps, assign, body, hy, hR⟩ := HYK.out w2 (HJ.out _ wr w2 none HJs.out (kgrown K2.out) (fun r e => by cases e)); have HR := Lib.hid hR; clear hR))
        refine HR.out.mono ?_
        rintro e W3 (⟨rfl, hJ3, hk3⟩ | ⟨rfl, hJx3⟩)
        · gi_wp2
          go_roundw
          case rel => exact ⟨k + 1, hlt, by go_num, by unfold Hid; rw [HV.out]; exact hJ3, (HK.out.trans (K2.out.mono HK.out.size)).trans hk3⟩
          case measure => simp [intOf]; omega
        · gi_wp2
          refine bodyPost_ret (results_none rfl _ _ _) rfl ?_
          exact ⟨⟨_, rfl⟩, .inr ⟨_, by rw [← HV.out]; exact HQ.out, hJx3⟩⟩
      · have hd0 : decide ((0 : Int) < U) = false := decide_eq_false hu
        have HV : Hid (opn fs (k + 1) = opn fs k) := by unfold Hid; rw [hs]; simp [hu]
        clear hs hu
        gi_wp2_with (first
          | (refine wpIn_storeF rfl (.tmp 4) (.tmp 12) rfl wr.heap.size _ _ rfl rfl ZB.out rfl rfl (by simp [Value.oneCell']) ?_; intro w9 r9 k9 o9; have R9 := Lib.hid r9; have K9 : Hid (Kpt wr w9) := Lib.hid (k9 _ _ KZ.out (Nat.le_refl _)); clear r9 k9 o9)
          | (refine wpIn_loadF rfl (.tmp 4) rfl wr.heap.size _ rfl R9.out rfl ?_)
          | (refine ⟨trivial, ?_⟩; gi_at_call 43; refine (callsIn_wide.2 (OX.out _)).mono ?_; rintro e w2 ⟨rfl, k2⟩; have K2 := Lib.hid (ktr K9.out k2); clear k2))
        refine ⟨fun _ h => (by cases h), ?_⟩
        gi_wp2
        go_roundw
        case rel => exact ⟨k + 1, hlt, by go_num, by unfold Hid; rw [HV.out]; exact HJ.out _ wr w2 none HJs.out (kgrown K2.out) (fun r e => by cases e), HK.out.trans (K2.out.mono HK.out.size)⟩
        case measure => simp [intOf]; omega
    · have hkl : k = fs.length := by omega
      have y1 : decide ((k : Int) < (fs.length : Int)) = false := decide_eq_false (by omega)
      have HF : Hid (J (opn fs fs.length) wr) := by have := HJs.out; rwa [hkl] at this
      clear HJs
      gi_wp2
      go_end0
      exact ⟨⟨_, rfl⟩, .inl ⟨_, rfl, HF.out⟩⟩

theorem open_stops (n : Nat) (hn : 1 ≤ n) (n₀ : Nat) (w w0 : World) (hw : w.heap.size = n₀) (v : Value) (fs : List (List Int)) (Bs : Nat) (hR : ReadsF w v fs) (hk : Kpt w w0) (hB : w0.cell? ⟨Bs, 0, none⟩ = some v) :
    SeqStopsK Fence.wide n Try.prog 42 #[.pointer (some ⟨Bs, 0, none⟩)] (fun x : Fin fs.length => #[.agg (flC (fs.getD x.1 [])), .int .i64 (openL (fs.getD x.1 []))]) (Below n₀) (fun ys => ys = opn fs fs.length) (fun pre => pre <+: opn fs fs.length) fs.length w0 := by
  intro l J Jx W0 hW hJ hJx hY h0
  subst hw
  exact openIter_in n hn l w v fs Bs hR J Jx W0 hJ (ktr hk hW) (Kpt.cell hW hB) hY h0
theorem openV_bd (i f t c p d u x b y : Int) : 0 ≤ openV i f t c p d u x b y ∧ openV i f t c p d u x b y ≤ 1073741824 := by
  unfold openV
  split
  · next h =>
    obtain ⟨g1, g2, g3, g4⟩ := fail_0 h
    obtain ⟨-, -, -, -, -, hu⟩ := fdue_t g1
    obtain ⟨hx, hb, hy⟩ := ftk_t g3
    omega
  · omega
theorem openL_bd (l : List Int) : 0 ≤ openL l ∧ openL l ≤ 1073741824 := openV_bd _ _ _ _ _ _ _ _ _ _
theorem checks_60 {fs : List (List Int)} (h : checksE fs = 0) : fs.length ≤ 60 := by
  unfold checksE at h
  split at h
  · cases h
  · omega

end Go.Proofs.Ytagmgpdgiphhbaa

-- RepM
namespace Go.Proofs.Ytagmgpdgiphhbaa
set_option linter.unusedVariables false

/-- sums by a key -/
def tal {α : Type} (key : α → Nat) (val : α → Int) (m : Nat) (xs : List α) : List Int := (List.range m).map fun j => ((xs.filter fun x => decide (key x = j)).map val).sum
theorem tal_len {α : Type} (key : α → Nat) (val : α → Int) (m : Nat) (xs : List α) : (tal key val m xs).length = m := by simp [tal]
theorem tal_at {α : Type} (key : α → Nat) (val : α → Int) {m j : Nat} (xs : List α) (h : j < m) : (tal key val m xs).getD j 0 = ((xs.filter fun x => decide (key x = j)).map val).sum := by
  simp [tal, List.getD_eq_getElem?_getD, h]
theorem tal_s {α : Type} (key : α → Nat) (val : α → Int) {m : Nat} (xs : List α) (x : α) (h : key x < m) : tal key val m (xs ++ [x]) = (tal key val m xs).set (key x) ((tal key val m xs).getD (key x) 0 + val x) := by
  rw [tal_at key val xs h]
  apply List.ext_getElem
  · simp [tal]
  · intro j h1 h2
    rw [tal_len] at h1
    rw [List.getElem_set]
    by_cases e : key x = j
    · rw [if_pos e]; subst e; simp [tal, List.filter_append, List.filter_cons]
    · rw [if_neg e]; simp [tal, List.filter_append, List.filter_cons, e]
theorem tal_0 {α : Type} (key : α → Nat) (val : α → Int) {m : Nat} (xs : List α) (x : α) (h : val x = 0) : tal key val m (xs ++ [x]) = tal key val m xs := by
  unfold tal
  refine List.map_congr_left fun j _ => ?_
  rw [List.filter_append, List.map_append, List.sum_append]
  by_cases e : key x = j <;> simp [e, h]
theorem tal_nil {α : Type} (key : α → Nat) (val : α → Int) (m : Nat) : tal key val m [] = List.replicate m 0 := by
  apply List.ext_getElem <;> simp [tal]
theorem sum_repl (m : Nat) : (List.replicate m (0 : Int)).sum = 0 := by induction m with
  | zero => rfl
  | succ m ih => rw [List.replicate_succ, List.sum_cons, ih]; rfl
theorem sum_set {l : List Int} {p : Nat} (h : p < l.length) (d : Int) : (l.set p (l.getD p 0 + d)).sum = l.sum + d := by
  induction l generalizing p with
  | nil => simp at h
  | cons a l ih =>
    cases p with
    | zero => simp; omega
    | succ p => simp only [List.set_cons_succ, List.sum_cons, List.getD_cons_succ]; rw [ih (by simpa using h)]; omega
/-- all together are as much -/
theorem tal_sum {α : Type} (key : α → Nat) (val : α → Int) {m : Nat} (xs : List α) (h : ∀ x ∈ xs, key x < m) : (tal key val m xs).sum = (xs.map val).sum := by
  suffices ∀ ys : List α, (∀ x ∈ ys, key x < m) → (tal key val m ys.reverse).sum = (ys.reverse.map val).sum by
    have := this xs.reverse (by simpa using h); simpa using this
  intro ys hy
  induction ys with
  | nil => rw [List.reverse_nil, tal_nil, sum_repl]; rfl
  | cons y ys ih =>
    rw [List.reverse_cons, tal_s key val _ y (hy y (by simp)), sum_set (by rw [tal_len]; exact hy y (by simp)), ih (fun x hx => hy x (by simp [hx]))]
    simp
theorem tal_bd {α : Type} (key : α → Nat) (val : α → Int) {m : Nat} {c : Int} (hc : 0 ≤ c) (hv : ∀ x, 0 ≤ val x ∧ val x ≤ c) (xs : List α) (j : Nat) : 0 ≤ (tal key val m xs).getD j 0 ∧ (tal key val m xs).getD j 0 ≤ xs.length * c := by
  by_cases h : j < m
  · rw [tal_at key val xs h]
    induction xs with
    | nil => simp
    | cons x xs ih =>
      have := hv x
      have e : ((x :: xs).length : Int) * c = xs.length * c + c := by simp [Int.add_mul]
      rw [e]
      by_cases e : key x = j
      · rw [List.filter_cons_of_pos (by simpa using e), List.map_cons, List.sum_cons]; omega
      · rw [List.filter_cons_of_neg (by simpa using e)]; omega
  · have e : (tal key val m xs).getD j 0 = 0 := by rw [List.getD_eq_getElem?_getD, List.getElem?_eq_none (by rw [tal_len]; omega)]; rfl
    rw [e]; exact ⟨Int.le_refl _, Int.mul_nonneg (by omega) hc⟩

end Go.Proofs.Ytagmgpdgiphhbaa
