/-
  Merged: ClmE, ClmG, ClmH, ClmI.
-/
import Derived.RangeFuncBox
import Derived.RangeFuncWrites
import Derived.Shelf.RegionOpen
import Derived.Test.YtgccipmeiceonaaMk14
import Derived.Test.YtgccipmeiceonaaMk18
import Derived.Laws.ResultCell
-- ClmE
namespace Go.Proofs.Ytgccipmeiceonaa
open Go.RowKit Go.Shelf
set_option linter.unusedVariables false
attribute [local go_sem] Oper.semAt_some

theorem hold_stops (n : Nat) (hn : 1 ≤ n) (n₀ : Nat) (w w0 : World) (hw : w.heap.size = n₀) (P C G O : Int) (v : Value) (fs : List (List Int)) (Bs Be : Nat) (hR : ReadsF w v fs) (hk : Kpt w w0) (hB : w0.cell? ⟨Bs, 0, none⟩ = some v) (hE : Blk w0 Be #[.int .i64 P, .int .i64 C, .int .i64 G, .int .i64 O] 53) :
    SeqStopsK Fence.wide n Try.prog 125 #[.pointer (some ⟨Bs, 0, none⟩), .pointer (some ⟨Be, 0, none⟩)] (fun x : Fin fs.length => #[.int .i64 ((x.1 : Nat) : Int), .agg #[.int .i64 P, .int .i64 C, .int .i64 G, .int .i64 O, .int .i64 (openL (fs.getD x.1 []))]]) (KpC n₀ Be) (fun ys => ys = hit P fs fs.length) (fun pre => pre <+: hit P fs fs.length) fs.length w0 := by
  intro l J Jx W0 hW hJ hJx hY h0
  subst hw
  exact holdIter_in n hn l w P C G O v fs Bs Be hR J Jx W0 hJ (ktr hk hW) (Kpt.cell hW hB) (Blk.kpt hE hW) hY h0
theorem openV_bd (i f t c p d u x b y : Int) : 0 ≤ openV i f t c p d u x b y ∧ openV i f t c p d u x b y ≤ 1073741824 := by
  unfold openV
  split
  · next h =>
    obtain ⟨g1, g2, g3, g4⟩ := fail_0 h
    obtain ⟨-, -, -, -, -, hu⟩ := fdue_t g1
    obtain ⟨hx, hb, hy⟩ := ftk_t g3
    omega
  · omega
theorem checks_60 {fs : List (List Int)} (h : checksE fs = 0) : fs.length ≤ 60 := by
  unfold checksE at h
  split at h
  · cases h
  · omega
theorem cwE_0 {P C G O : Int} {fs : List (List Int)} (h : cwE P C G O fs = 0) : evE P C G O = 0 ∧ checksE fs = 0 := by
  unfold cwE at h
  split at h
  · next a => exact ⟨a, h⟩
  · next a => exact absurd h a

/-- what one that owes has to pass on of money -/
def dueL (C : Int) (l : List Int) : List (Int × Int × Int) := if 0 < hoC C (openL l) then [(l.getD 1 0, l.getD 2 0, hoC C (openL l))] else []
/-- .. and of new papers -/
def pstL (P G O : Int) (l : List Int) : List (Int × Int × Int) := if 0 < hoN G O (openL l) then [(l.getD 1 0, P, -hoN G O (openL l)), (l.getD 2 0, P, hoN G O (openL l))] else []
def duesOf (C : Int) (fs : List (List Int)) (xs : List (Fin fs.length)) : List (Int × Int × Int) := xs.flatMap fun x => dueL C (fs.getD x.1 [])
def pstsOf (P G O : Int) (fs : List (List Int)) (xs : List (Fin fs.length)) : List (Int × Int × Int) := xs.flatMap fun x => pstL P G O (fs.getD x.1 [])
theorem duesOf_s (C : Int) (fs : List (List Int)) (xs : List (Fin fs.length)) (x : Fin fs.length) : duesOf C fs (xs ++ [x]) = duesOf C fs xs ++ dueL C (fs.getD x.1 []) := by simp [duesOf]
theorem pstsOf_s (P G O : Int) (fs : List (List Int)) (xs : List (Fin fs.length)) (x : Fin fs.length) : pstsOf P G O fs (xs ++ [x]) = pstsOf P G O fs xs ++ pstL P G O (fs.getD x.1 []) := by simp [pstsOf]
theorem duesOf_len (C : Int) (fs : List (List Int)) (xs : List (Fin fs.length)) : (duesOf C fs xs).length ≤ xs.length := by
  induction xs with
  | nil => exact Nat.le_refl _
  | cons x xs ih =>
    have : (dueL C (fs.getD x.1 [])).length ≤ 1 := by unfold dueL; split <;> simp
    unfold duesOf at ih ⊢
    rw [List.flatMap_cons, List.length_append, List.length_cons]
    omega
theorem pstsOf_len (P G O : Int) (fs : List (List Int)) (xs : List (Fin fs.length)) : (pstsOf P G O fs xs).length ≤ 2 * xs.length := by
  induction xs with
  | nil => exact Nat.le_refl _
  | cons x xs ih =>
    have : (pstL P G O (fs.getD x.1 [])).length ≤ 2 := by unfold pstL; split <;> simp
    unfold pstsOf at ih ⊢
    rw [List.flatMap_cons, List.length_append, List.length_cons]
    omega

set_option maxRecDepth 100000 in
set_option maxHeartbeats 4000000 in
theorem claims_bad (P C G O : Int) (v : Value) (fs : List (List Int)) (w : World) (hr : ReadsF w v fs) (h : cwE P C G O fs ≠ 0) : Calls Try.prog 37 #[.agg #[.int .i64 P, .int .i64 C, .int .i64 G, .int .i64 O], v] w fun e w' => e = .returned (.tuple #[.slice none 0 0, .slice none 0 0, .int .i64 (cwE P C G O fs)]) ∧ Kpt w w' := by
  obtain ⟨ad, cap, hv, -⟩ := id hr
  have KA : Hid (Kpt w ((w.alloc (.cells #[.int .i64 P, .int .i64 C, .int .i64 G, .int .i64 O] 53)).alloc (.cells #[v] 26))) := ((Kpt.refl w).alloc _).alloc _
  have CW := Lib.hid (fun w' (k : Kpt w w') => checkWith_any P C G O v fs w' (hr.kpt k))
  have z : (cwE P C G O fs != 0) = true := bne_iff_ne.2 h
  subst hv
  clear h hr
  generalize cwE P C G O fs = E at *
  generalize fs.length = n at *
  go_enter Try.func37, Try.ntmps37
  go_wp2_with (go_at_call 93; (with_reducible refine (CW.out _ KA.out).mono ?_); rintro e w1 ⟨rfl, k1⟩; have K1 := Lib.hid (ktr KA.out k1); clear k1)
  go_ret3
  exact ⟨rfl, K1.out⟩

theorem Try.infoDueC : (Try.prog.info? 80).map (fun i => (i.zero, i.size, i.bytes)) = some (some (.agg #[.int .i64 0, .int .i64 0, .int .i64 0]), 3, 24) := by kernel_rfl
theorem Try.infoPstC : (Try.prog.info? 94).map (fun i => (i.zero, i.size, i.bytes)) = some (some (.agg #[.int .i64 0, .int .i64 0, .int .i64 0]), 3, 24) := by kernel_rfl
theorem Try.sizeHold : (Try.prog.info? 116).map (·.size) = some 5 := by kernel_rfl
theorem wpIn_storeH {F : Fence} {n : Nat} {ops : Array Oper} {rest : List Oper} {o : Oper} {a : Act} {w : World} {Q : Exit → Act → World → Prop} (hgd : o.guard = none) (x y : Operand) (ho : o.op = .store 116 x y)
    (g : Nat) (cs old : Array Value) (hx : a.eval x = .pointer (some ⟨g, 0, none⟩)) (hy : a.eval y = .agg cs) (hg : Blk w g old 116) (hs : old.size = 5) (hc : cs.size = 5) (h1 : cs.all (·.oneCell') = true)
    (h : ∀ w', Blk w' g cs 116 → (∀ B w0, Below B w0 w → B ≤ g → Below B w0 w') → (∀ k, k ≠ g → w'.heap[k]? = w.heap[k]?) → wpListIn F n Try.prog ops Q rest (a.put o.dst undef) w') : wpListIn F n Try.prog ops Q (o :: rest) a w :=
  wpListIn_plain hgd fun K hK => by
    have hq := h _ (setRow_heap w g old cs _ _ hg) (fun B w0 hb hB => below_setRow hb hB cs) (fun k hk => setRow_other w g k cs hk)
    unfold Oper.wpIn
    refine ⟨by simp [Oper.about, ho], ?_⟩
    rw [Oper.semAt_plain F _ _ (by rw [ho]; intro c hc'; cases hc')]
    simp only [execOp, ho, hx, hy, Instr.storeAt, Instr.sureAddr, Sem.run_bind, Sem.run_pure, Result.andThen_ok, run_storeVar_row (P := Try.prog) w g 116 116 old cs hg (by rw [hc]; exact Try.sizeHold) (by omega) h1]
    exact hK _ _ hq
theorem wpIn_loadH {F : Fence} {n : Nat} {ops : Array Oper} {rest : List Oper} {o : Oper} {a : Act} {w : World} {Q : Exit → Act → World → Prop} (hgd : o.guard = none) (x : Operand) (ho : o.op = .load 116 x)
    (g : Nat) (cs : Array Value) (hx : a.eval x = .pointer (some ⟨g, 0, none⟩)) (hg : Blk w g cs 116) (hc : cs.size = 5)
    (h : wpListIn F n Try.prog ops Q rest (a.put o.dst (.agg cs)) w) : wpListIn F n Try.prog ops Q (o :: rest) a w :=
  wpListIn_plain hgd fun K hK => by
    unfold Oper.wpIn
    refine ⟨by simp [Oper.about, ho], ?_⟩
    rw [Oper.semAt_plain F _ _ (by rw [ho]; intro c hc'; cases hc')]
    simp only [execOp, ho, hx, Instr.loadAt, Instr.sureAddr, Sem.run_bind, Sem.run_pure, Result.andThen_ok, run_loadVar_row (P := Try.prog) w g 116 116 cs (0, 0) _ hg Try.underlying116 rfl (by rw [hc]; exact Try.sizeHold)]
    exact hK _ _ h
theorem wpIn_appendDu {F : Fence} {n : Nat} {ops : Array Oper} {rest : List Oper} {o : Oper} {a : Act} {Q : Exit → Act → World → Prop} (hgd : o.guard = none) (s x : Operand)
    (ho : o.op = .call { callee := .builtin .append, args := #[s, x], argTypes := #[30, 30] })
    (base : Nat) (v : Value) (ps qs : List (Int × Int × Int)) (w : World) (g c : Nat) (cs : Array Value) (T' : TypeId) (hs : a.eval s = v) (hown : OwnsT 80 w base v ps) (hx : a.eval x = .slice (some ⟨g, 0, none⟩) qs.length c) (hg : Blk w g cs T') (hcs : cs.toList = flatP qs)
    (hlen : ps.length + qs.length ≤ 100000) (hbase : base ≤ w.heap.size)
    (h : ∀ v' w', OwnsT 80 w' base v' (ps ++ qs) → w.grownBy w' v.ownBlock → wpListIn F n Try.prog ops Q rest (a.put o.dst v') w') : wpListIn F n Try.prog ops Q (o :: rest) a w := by
  obtain ⟨i0, hi, hz0, hz1, hz2⟩ := info_parts Try.infoDueC
  refine wpListIn_append_own _ hgd s x 30 ho base 80 i0 _ 3 24 Try.underlying30 hi hz0 hz1 hz2 rfl (by decide) v _ _ hs hown ⟨g, 0, none⟩ qs.length c (flatP qs) hx (flatP_len qs) ?_ (flatP_one qs) ?_ ?_ hbase ?_
  · intro j u hu
    exact World.news_of_block hg j u (by rw [hcs]; exact hu)
  · unfold maxLen; omega
  · omega
  · intro v' w' h1 h2 _
    refine h v' w' ?_ h2
    unfold OwnsT
    rw [List.length_append, flatP_append]
    exact h1
theorem wpIn_appendPs {F : Fence} {n : Nat} {ops : Array Oper} {rest : List Oper} {o : Oper} {a : Act} {Q : Exit → Act → World → Prop} (hgd : o.guard = none) (s x : Operand)
    (ho : o.op = .call { callee := .builtin .append, args := #[s, x], argTypes := #[39, 39] })
    (base : Nat) (v : Value) (ps qs : List (Int × Int × Int)) (w : World) (g c : Nat) (cs : Array Value) (T' : TypeId) (hs : a.eval s = v) (hown : OwnsT 94 w base v ps) (hx : a.eval x = .slice (some ⟨g, 0, none⟩) qs.length c) (hg : Blk w g cs T') (hcs : cs.toList = flatP qs)
    (hlen : ps.length + qs.length ≤ 100000) (hbase : base ≤ w.heap.size)
    (h : ∀ v' w', OwnsT 94 w' base v' (ps ++ qs) → w.grownBy w' v.ownBlock → wpListIn F n Try.prog ops Q rest (a.put o.dst v') w') : wpListIn F n Try.prog ops Q (o :: rest) a w := by
  obtain ⟨i0, hi, hz0, hz1, hz2⟩ := info_parts Try.infoPstC
  refine wpListIn_append_own _ hgd s x 39 ho base 94 i0 _ 3 24 Try.underlying39 hi hz0 hz1 hz2 rfl (by decide) v _ _ hs hown ⟨g, 0, none⟩ qs.length c (flatP qs) hx (flatP_len qs) ?_ (flatP_one qs) ?_ ?_ hbase ?_
  · intro j u hu
    exact World.news_of_block hg j u (by rw [hcs]; exact hu)
  · unfold maxLen; omega
  · omega
  · intro v' w' h1 h2 _
    refine h v' w' ?_ h2
    unfold OwnsT
    rw [List.length_append, flatP_append]
    exact h1
theorem OwnsT.own {T : TypeId} {w w' : World} {base : Nat} {u : Value} {ps : List (Int × Int × Int)} {row : Option Nat} (h : OwnsT T w base u ps) (g : w.grownBy w' row) (hr : ∀ r, row = some r → ∃ o : Obj, w.heap[r]? = some o ∧ o.isCells = false) : OwnsT T w' base u ps := by
  obtain ⟨h1, h2⟩ := h
  refine ⟨h1, ?_⟩
  rcases h2 with h2 | ⟨k, cap, cur, rfl, hk, hh, r⟩
  · exact .inl h2
  · exact .inr ⟨k, cap, cur, rfl, hk, (g.block k (heap_lt hh) (fun e => by obtain ⟨o, ho, hc⟩ := hr k e.symm; rw [hh] at ho; cases ho; cases hc)).trans hh, r⟩
theorem Blk.own {w w' : World} {g : Nat} {cs : Array Value} {T : TypeId} {row : Option Nat} (h : Blk w g cs T) (k : w.grownBy w' row) (hr : ∀ r, row = some r → ∃ o : Obj, w.heap[r]? = some o ∧ o.isCells = false) : Blk w' g cs T :=
  (k.block g h.lt (fun e => by obtain ⟨o, ho, hc⟩ := hr g e.symm; rw [show w.heap[g]? = _ from h] at ho; cases ho; cases hc)).trans h
theorem Blk.norow {w : World} {g : Nat} {cs : Array Value} {T e : TypeId} (h : Blk w g cs T) (hT : T ≠ e) {base : Nat} {v : Value} {ps : List (Int × Int × Int)} (hr : OwnsT e w base v ps) : some g ≠ v.ownBlock := by
  rcases hr.2 with ⟨rfl, _⟩ | ⟨k, cap, cur, rfl, _, hh, _⟩
  · simp [Value.ownBlock]
  · intro e'
    have e'' : g = k := by simpa [Value.ownBlock] using e'
    subst e''
    rw [show w.heap[g]? = _ from h] at hh
    cases hh
    exact hT rfl
theorem Blk.grown {w w' : World} {g : Nat} {cs : Array Value} {T : TypeId} {row : Option Nat} (h : Blk w g cs T) (k : w.grownBy w' row) (hr : some g ≠ row) : Blk w' g cs T := (k.block g h.lt hr).trans h
theorem OwnsT.grown {T e : TypeId} {w w' : World} {base : Nat} {u v : Value} {ps qs : List (Int × Int × Int)} (h : OwnsT T w base u ps) (hT : T ≠ e) (hv : OwnsT e w base v qs) (g : w.grownBy w' v.ownBlock) : OwnsT T w' base u ps := by
  obtain ⟨h1, h2⟩ := h
  refine ⟨h1, ?_⟩
  rcases h2 with h2 | ⟨k, cap, cur, rfl, hk, hh, r⟩
  · exact .inl h2
  · exact .inr ⟨k, cap, cur, rfl, hk, (g.block k (heap_lt hh) (Blk.norow (show Blk w k cur T from hh) hT hv)).trans hh, r⟩
theorem kothers {w w' : World} (k : Kpt w w') : KeepsOthers w w' := ⟨Below.size k, fun i o h _ => (Below.block k i (heap_lt h)).trans h⟩

/-- what lies in a round of Claims -/
structure CS (n0 b q : Nat) (ev hc : Array Value) (sl : Value) (W : World) (dv : Value) (ds : List (Int × Int × Int)) (pv : Value) (qs : List (Int × Int × Int)) : Prop where
  bd : Blk W b #[dv] 30
  bp : Blk W (b + 1) #[pv] 39
  be : Blk W (b + 2) ev 53
  bf : Blk W (n0 + 1) #[sl] 26
  bh : Blk W q hc 116
  od : OwnsT 80 W n0 dv ds
  op : OwnsT 94 W n0 pv qs
theorem CS.kpt {n0 b q : Nat} {ev hc : Array Value} {sl : Value} {W W' : World} {dv pv : Value} {ds qs : List (Int × Int × Int)} (h : CS n0 b q ev hc sl W dv ds pv qs) (k : Kpt W W') : CS n0 b q ev hc sl W' dv ds pv qs :=
  ⟨h.bd.kpt k, h.bp.kpt k, h.be.kpt k, h.bf.kpt k, h.bh.kpt k, h.od.kpt k, h.op.kpt k⟩
/-- what a step of a round keeps -/
def Stp (n0 b : Nat) (W W' : World) : Prop := KeepsOthers W W' ∧ Below n0 W W'
theorem Stp.t {n0 b : Nat} {A B C : World} (h : Stp n0 b A B) (k : Stp n0 b B C) : Stp n0 b A C := ⟨h.1.trans k.1, h.2.trans k.2⟩
theorem Stp.of {n0 b : Nat} {W W' : World} (k : Kpt W W') (h : n0 ≤ W.heap.size) : Stp n0 b W W' := ⟨kothers k, Below.mono k h⟩
theorem CS.addD {n0 b q : Nat} {ev hc : Array Value} {sl : Value} {W w1 : World} {dv pv v' : Value} {ds qs ds' : List (Int × Int × Int)} {tmp : Obj} (h : CS n0 b q ev hc sl W dv ds pv qs) (hn : n0 + 1 < b) (hq : b + 2 < q) (own' : OwnsT 80 w1 n0 v' ds') (hg : (W.alloc tmp).grownBy w1 dv.ownBlock) :
    Boxed w1 b 30 dv ∧ CS n0 b q ev hc sl (w1.setCell ⟨b, 0, none⟩ v') v' ds' pv qs ∧ Stp n0 b W (w1.setCell ⟨b, 0, none⟩ v') := by
  have hs : n0 ≤ W.heap.size := by have := h.bd.lt; omega
  obtain ⟨a1, a2, a3, a4, a5⟩ := Boxed.appended (show Boxed W b 30 dv from h.bd) (by decide) h.od hs (by omega) own' hg
  have od := h.od.alloc tmp
  refine ⟨a1, ⟨a2, ?_, ?_, ?_, ?_, a3, ?_⟩, a4, a5⟩
  · exact ((h.bp.alloc tmp).grown hg ((h.bp.alloc tmp).norow (by decide) od)).away (p := ⟨b, 0, none⟩) (by show b + 1 ≠ b; omega) _
  · exact ((h.be.alloc tmp).grown hg ((h.be.alloc tmp).norow (by decide) od)).away (p := ⟨b, 0, none⟩) (by show b + 2 ≠ b; omega) _
  · exact ((h.bf.alloc tmp).grown hg ((h.bf.alloc tmp).norow (by decide) od)).away (p := ⟨b, 0, none⟩) (by show n0 + 1 ≠ b; omega) _
  · exact ((h.bh.alloc tmp).grown hg ((h.bh.alloc tmp).norow (by decide) od)).away (p := ⟨b, 0, none⟩) (by show q ≠ b; omega) _
  · have o := (h.op.alloc tmp).grown (by decide) od hg
    exact o.away (Blk.norow a1 (by decide) o) _
theorem CS.addP {n0 b q : Nat} {ev hc : Array Value} {sl : Value} {W w1 : World} {dv pv v' : Value} {ds qs qs' : List (Int × Int × Int)} {tmp : Obj} (h : CS n0 b q ev hc sl W dv ds pv qs) (hn : n0 + 1 < b) (hq : b + 2 < q) (own' : OwnsT 94 w1 n0 v' qs') (hg : (W.alloc tmp).grownBy w1 pv.ownBlock) :
    Boxed w1 (b + 1) 39 pv ∧ CS n0 b q ev hc sl (w1.setCell ⟨b + 1, 0, none⟩ v') dv ds v' qs' ∧ Stp n0 b W (w1.setCell ⟨b + 1, 0, none⟩ v') := by
  have hs : n0 ≤ W.heap.size := by have := h.bd.lt; omega
  obtain ⟨a1, a2, a3, a4, a5⟩ := Boxed.appended (show Boxed W (b + 1) 39 pv from h.bp) (by decide) h.op hs (by omega) own' hg
  have op := h.op.alloc tmp
  refine ⟨a1, ⟨?_, a2, ?_, ?_, ?_, ?_, a3⟩, a4, a5⟩
  · exact ((h.bd.alloc tmp).grown hg ((h.bd.alloc tmp).norow (by decide) op)).away (p := ⟨b + 1, 0, none⟩) (by show b ≠ b + 1; omega) _
  · exact ((h.be.alloc tmp).grown hg ((h.be.alloc tmp).norow (by decide) op)).away (p := ⟨b + 1, 0, none⟩) (by show b + 2 ≠ b + 1; omega) _
  · exact ((h.bf.alloc tmp).grown hg ((h.bf.alloc tmp).norow (by decide) op)).away (p := ⟨b + 1, 0, none⟩) (by show n0 + 1 ≠ b + 1; omega) _
  · exact ((h.bh.alloc tmp).grown hg ((h.bh.alloc tmp).norow (by decide) op)).away (p := ⟨b + 1, 0, none⟩) (by show q ≠ b + 1; omega) _
  · have o := (h.od.alloc tmp).grown (by decide) op hg
    exact o.away (Blk.norow a1 (by decide) o) _

end Go.Proofs.Ytgccipmeiceonaa

-- ClmG
namespace Go.Proofs.Ytgccipmeiceonaa
end Go.Proofs.Ytgccipmeiceonaa

-- ClmH
namespace Go.Proofs.Ytgccipmeiceonaa
open Go.RowKit
set_option linter.unusedVariables false
set_option maxRecDepth 100000

theorem results_cc {fn : Func} {p q : Tmp} (h : fn.results = #[.cell p 26, .cell q 27]) (tmps : Array Value) (w : World) (g k : Nat) (v : Value) (E : Int)
    (hp : tmps.getD p undef = .pointer (some ⟨g, 0, none⟩)) (hq : tmps.getD q undef = .pointer (some ⟨k, 0, none⟩)) (hg : w.cell? ⟨g, 0, none⟩ = some v) (hk : w.cell? ⟨k, 0, none⟩ = some (.int .i64 E)) : (results fn tmps).run Try.prog w = .ok (.tuple #[v, .int .i64 E]) w := by
  have hp' : tmps[p]?.getD undef = .pointer (some ⟨g, 0, none⟩) := by simpa using hp
  have hq' : tmps[q]?.getD undef = .pointer (some ⟨k, 0, none⟩) := by simpa using hq
  simp [results, h, hp', hq', asAddr, go_sem, hg, hk]
theorem grow_bad (P C G O : Int) (v : Value) (fs : List (List Int)) (w : World) (hr : ReadsF w v fs) (h : cwE P C G O fs ≠ 0) : Calls Try.prog 38 #[.agg #[.int .i64 P, .int .i64 C, .int .i64 G, .int .i64 O], v] w fun e w' => e = .returned (.tuple #[.slice none 0 0, .int .i64 (cwE P C G O fs)]) ∧ Kpt w w' := by
  obtain ⟨ad, cap, hv, -⟩ := id hr
  have k3 : Kpt w (((w.alloc (.cells #[.int .i64 P, .int .i64 C, .int .i64 G, .int .i64 O] 53)).alloc (.cells #[.slice none 0 0] 26)).alloc (.cells #[.int .i64 0] 27)) := (((Kpt.refl w).alloc _).alloc _).alloc _
  have KA := Lib.hid k3
  have B4 : Hid (Blk (((w.alloc (.cells #[.int .i64 P, .int .i64 C, .int .i64 G, .int .i64 O] 53)).alloc (.cells #[.slice none 0 0] 26)).alloc (.cells #[.int .i64 0] 27)) (w.heap.size + 1) #[.slice none 0 0] 26) := by
    have := Blk.made (w.alloc (.cells #[.int .i64 P, .int .i64 C, .int .i64 G, .int .i64 O] 53)) #[.slice none 0 0] 26
    rw [World.size_alloc] at this
    exact this.alloc _
  have B5 : Hid (Blk (((w.alloc (.cells #[.int .i64 P, .int .i64 C, .int .i64 G, .int .i64 O] 53)).alloc (.cells #[.slice none 0 0] 26)).alloc (.cells #[.int .i64 0] 27)) (w.heap.size + 2) #[.int .i64 0] 27) := by
    have := Blk.made ((w.alloc (.cells #[.int .i64 P, .int .i64 C, .int .i64 G, .int .i64 O] 53)).alloc (.cells #[.slice none 0 0] 26)) #[.int .i64 0] 27
    rwa [World.size_alloc, World.size_alloc] at this
  have CW := Lib.hid (fun w' (k : Kpt w w') => checkWith_any P C G O v fs w' (hr.kpt k))
  have z : (cwE P C G O fs != 0) = true := bne_iff_ne.2 h
  subst hv
  clear h hr k3
  generalize cwE P C G O fs = E at *
  generalize fs.length = n at *
  go_enter Try.func38, Try.ntmps38
  go_wp2_with (go_at_call 93; (with_reducible refine (CW.out _ KA.out).mono ?_); rintro e w1 ⟨rfl, k1⟩; have K1 := Lib.hid (ktr KA.out k1); have R4 := B4.out.kpt k1; have R5 := B5.out.kpt k1; have c4 := R4.cell 0; have f4 := R4.frozen 0; have c5 := R5.cell 0; have f5 := R5.frozen 0; have H4 := Lib.hid R4; have H5 := Lib.hid R5; clear k1 R4 R5)
  have X4 := (H4.out.put 0 (.slice none 0 0)).away (p := ⟨w.heap.size + 2, 0, none⟩) (by show w.heap.size + 1 ≠ w.heap.size + 2; omega) (.int .i64 E)
  have X5 := (H5.out.away (p := ⟨w.heap.size + 1, 0, none⟩) (by show w.heap.size + 2 ≠ w.heap.size + 1; omega) (.slice none 0 0)).put 0 (.int .i64 E)
  refine bodyPost_ret (results_cc rfl _ _ _ _ _ _ rfl rfl (X4.cell 0) (X5.cell 0)) rfl ?_
  exact ⟨rfl, (K1.out.setCell (p := ⟨w.heap.size + 1, 0, none⟩) (by show w.heap.size ≤ w.heap.size + 1; omega) _).setCell (p := ⟨w.heap.size + 2, 0, none⟩) (by show w.heap.size ≤ w.heap.size + 2; omega) _⟩

end Go.Proofs.Ytgccipmeiceonaa

-- ClmI
namespace Go.Proofs.Ytgccipmeiceonaa
open Go.RowKit
set_option linter.unusedVariables false

/-- a fail with other units -/
def upd (l : List Int) (z : Int) : List Int := (List.range 10).map fun j => if j = 6 then z else l.getD j 0
theorem upd_at (l : List Int) (z : Int) {j : Nat} (h : j < 10) : (upd l z).getD j 0 = if j = 6 then z else l.getD j 0 := by
  unfold upd
  rw [List.getD_eq_getElem?_getD, List.getElem?_map, List.getElem?_range h]
  rfl
theorem flatN_put (c : List (List Int)) (k : Nat) (hk : k < c.length) (z : Int) : (flatN 10 c).set (k * 10 + 6) (.int .i64 z) = flatN 10 (c.set k (upd (c.getD k []) z)) := by
  apply List.ext_getElem?
  intro i
  by_cases hi : i < c.length * 10
  · obtain ⟨q, r, hr, rfl⟩ : ∃ q r, r < 10 ∧ i = q * 10 + r := ⟨i / 10, i % 10, by omega, by omega⟩
    have hq : q < c.length := by omega
    rw [flatN_at _ q r (by rw [List.length_set]; exact hq) hr, List.getElem?_set, flatN_len]
    by_cases e : q = k
    · subst e
      have e2 : (c.set q (upd (c.getD q []) z)).getD q [] = upd (c.getD q []) z := by
        rw [List.getD_eq_getElem?_getD, List.getElem?_set, if_pos rfl, if_pos hq]; rfl
      rw [e2, upd_at _ _ hr]
      by_cases e3 : r = 6
      · subst e3; rw [if_pos rfl, if_pos rfl, if_pos (by omega)]
      · rw [if_neg (by omega), if_neg e3, flatN_at c q r hq hr]
    · have e2 : (c.set k (upd (c.getD k []) z)).getD q [] = c.getD q [] := by
        rw [List.getD_eq_getElem?_getD, List.getElem?_set, if_neg (fun h => e h.symm), ← List.getD_eq_getElem?_getD]
      rw [e2, if_neg (by omega), flatN_at c q r hq hr]
  · rw [List.getElem?_eq_none (by rw [List.length_set, flatN_len]; omega), List.getElem?_eq_none (by rw [flatN_len, List.length_set]; omega)]
theorem OwnsN.opened {T : TypeId} {w : World} {B : Nat} {v : Value} {c : List (List Int)} (h : OwnsN 10 T w B v c) (h0 : 0 < c.length) : ∃ g cap cur, v = .slice (some ⟨g, 0, none⟩) c.length cap ∧ B ≤ g ∧ Blk w g cur T ∧ (∀ k j, k < c.length → j < 10 → w.cell? ⟨g, k * 10 + j, none⟩ = some (.int .i64 ((c.getD k []).getD j 0))) ∧
    ∀ k z, k < c.length → OwnsN 10 T (w.setCell ⟨g, k * 10 + 6, none⟩ (.int .i64 z)) B v (c.set k (upd (c.getD k []) z)) := by
  have hcs := h.cells
  rcases h.2 with ⟨rfl, hn⟩ | ⟨g, cap, cur, rfl, hg, hh, hn, hm, hs, ht⟩
  · omega
  · refine ⟨g, cap, cur, rfl, hg, hh, fun k j hk hj => ?_, fun k z hk => ?_⟩
    · obtain ⟨a, cap', e, -, hc⟩ := hcs
      obtain ⟨g', e', h'⟩ := hc k hk
      injection e with e1 _ _
      rw [← e1] at e'
      injection e' with e'
      injection e' with e' _ _
      subst e'
      exact h' j hj
    · have hb := Blk.put (show Blk w g cur T from hh) (k * 10 + 6) (.int .i64 z)
      refine ⟨by rw [flatN_len], ?_⟩
      rw [List.length_set]
      refine .inr ⟨g, cap, _, rfl, hg, hb, hn, hm, by rw [Array.size_setIfInBounds]; exact hs, ?_⟩
      rw [Array.toList_setIfInBounds, List.take_set, ht]
      exact flatN_put c k hk z
theorem OwnsN.own {T : TypeId} {w w' : World} {base : Nat} {u : Value} {fs : List (List Int)} {row : Option Nat} (h : OwnsN 10 T w base u fs) (g : w.grownBy w' row) (hr : ∀ r, row = some r → ∃ o : Obj, w.heap[r]? = some o ∧ o.isCells = false) : OwnsN 10 T w' base u fs := by
  obtain ⟨h1, h2⟩ := h
  refine ⟨h1, ?_⟩
  rcases h2 with h2 | ⟨k, cap, cur, rfl, hk, hh, r⟩
  · exact .inl h2
  · exact .inr ⟨k, cap, cur, rfl, hk, (g.block k (heap_lt hh) (fun e => by obtain ⟨o, ho, hc⟩ := hr k e.symm; rw [hh] at ho; cases ho; cases hc)).trans hh, r⟩
theorem OwnsN.away {T e : TypeId} {w : World} {B b : Nat} {v : Value} {c : List (List Int)} {cs : Array Value} (h : OwnsN 10 T w B v c) (hb : Blk w b cs e) (hT : T ≠ e) (o : Nat) (u : Value) : OwnsN 10 T (w.setCell ⟨b, o, none⟩ u) B v c := by
  obtain ⟨h1, h2⟩ := h
  refine ⟨h1, ?_⟩
  rcases h2 with h2 | ⟨k, cap, cur, rfl, hk, hh, r⟩
  · exact .inl h2
  · refine .inr ⟨k, cap, cur, rfl, hk, ?_, r⟩
    exact Blk.away (show Blk w k cur T from hh) (p := ⟨b, o, none⟩) (fun e' => hT (by
      have e'' : k = b := e'
      subst e''
      rw [show w.heap[k]? = _ from hb] at hh
      cases hh; rfl)) u
theorem Blk.apart {w : World} {g b : Nat} {cs ds : Array Value} {T e : TypeId} (h : Blk w g cs T) (k : Blk w b ds e) (hT : T ≠ e) : g ≠ b := fun q => hT (by
  subst q
  have k' : w.heap[g]? = some (.cells ds e (0, 0)) := k
  rw [show w.heap[g]? = _ from h] at k'
  cases k'; rfl)

theorem OwnsN.put {T : TypeId} {w : World} {B g n cp k : Nat} {c : List (List Int)} (h : OwnsN 10 T w B (.slice (some ⟨g, 0, none⟩) n cp) c) (hk : k < c.length) (z : Int) : OwnsN 10 T (w.setCell ⟨g, k * 10 + 6, none⟩ (.int .i64 z)) B (.slice (some ⟨g, 0, none⟩) n cp) (c.set k (upd (c.getD k []) z)) := by
  obtain ⟨g', cp', cur, e, -, -, -, hp⟩ := h.opened (by omega)
  injection e with e1 _ _
  injection e1 with e1
  injection e1 with e1 _ _
  subst e1
  exact hp k z hk
def unL (c : List (List Int)) (k : Nat) : Int := (c.getD k []).getD 6 0
/-- what stands behind one more place -/
def gst (G O : Int) (fs c : List (List Int)) (x : Fin fs.length) : List (List Int) := c.set x.1 (upd (c.getD x.1 []) (IntKind.i64.wrap (unL c x.1 + hoN G O (openL (fs.getD x.1 [])))))
def gro (G O : Int) (fs : List (List Int)) (xs : List (Fin fs.length)) : List (List Int) := xs.foldl (gst G O fs) fs
theorem gro_s (G O : Int) (fs : List (List Int)) (xs : List (Fin fs.length)) (x : Fin fs.length) : gro G O fs (xs ++ [x]) = gst G O fs (gro G O fs xs) x := by simp [gro]
theorem gro_len (G O : Int) (fs : List (List Int)) (xs : List (Fin fs.length)) : (gro G O fs xs).length = fs.length := by
  unfold gro
  suffices h : ∀ c : List (List Int), (xs.foldl (gst G O fs) c).length = c.length from h fs
  induction xs with
  | nil => intro c; rfl
  | cons x xs ih => intro c; rw [List.foldl_cons, ih]; unfold gst; rw [List.length_set]
theorem gro_un (G O : Int) (fs : List (List Int)) (xs : List (Fin fs.length)) (x : Fin fs.length) : unL (gro G O fs (xs ++ [x])) x.1 = IntKind.i64.wrap (unL (gro G O fs xs) x.1 + hoN G O (openL (fs.getD x.1 []))) := by
  have hx : x.1 < (gro G O fs xs).length := by rw [gro_len]; exact x.2
  have e : (gst G O fs (gro G O fs xs) x).getD x.1 [] = upd ((gro G O fs xs).getD x.1 []) (IntKind.i64.wrap (unL (gro G O fs xs) x.1 + hoN G O (openL (fs.getD x.1 [])))) := by
    unfold gst
    rw [List.getD_eq_getElem?_getD, List.getElem?_set, if_pos rfl, if_pos hx]; rfl
  rw [gro_s]
  unfold unL at e ⊢
  rw [e, upd_at _ _ (by omega), if_pos rfl]
/-- nothing has grown too large -/
def GOk (G O : Int) (fs : List (List Int)) (xs : List (Fin fs.length)) : Prop := ∀ pre x, pre ++ [x] <+: xs → unL (gro G O fs (pre ++ [x])) x.1 ≤ 1073741824
theorem gok_0 (G O : Int) (fs : List (List Int)) : GOk G O fs [] := fun pre x h => by
  have := List.prefix_nil.1 h
  simp at this
theorem gok_s {G O : Int} {fs : List (List Int)} {xs : List (Fin fs.length)} (h : GOk G O fs xs) (x : Fin fs.length) (hx : unL (gro G O fs (xs ++ [x])) x.1 ≤ 1073741824) : GOk G O fs (xs ++ [x]) := fun pre y hp => by
  rcases List.prefix_concat_iff.1 hp with e | e
  · have := List.append_inj' e rfl
    obtain ⟨rfl, e2⟩ := this
    simp at e2
    subst e2
    exact hx
  · exact h pre y e

end Go.Proofs.Ytgccipmeiceonaa
