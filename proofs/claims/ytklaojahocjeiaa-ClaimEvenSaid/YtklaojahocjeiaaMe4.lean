/-
  Merged: RowN, FlOwn, ClmG, ClmH, ClmI, ClmJ.
-/
import Derived.Test.YtklaojahocjeiaaTrip
import Derived.Test.YtklaojahocjeiaaOwn
import Derived.Test.YtklaojahocjeiaaMe1
import Derived.Test.YtklaojahocjeiaaMe3
import Derived.Laws.ResultCell
-- RowN
namespace Go.Proofs.Ytklaojahocjeiaa
open Go.RowKit
set_option linter.unusedVariables false

/-- the cells of one element, and of a list of them; an element is told as a list of ints -/
def rowN (N : Nat) (l : List Int) : List Value := (List.range N).map fun j => Value.int .i64 (l.getD j 0)
def flatN (N : Nat) (fs : List (List Int)) : List Value := fs.flatMap (rowN N)
theorem rowN_len (N : Nat) (l : List Int) : (rowN N l).length = N := by simp [rowN]
theorem rowN_at {N j : Nat} (l : List Int) (h : j < N) : (rowN N l)[j]? = some (.int .i64 (l.getD j 0)) := by
  unfold rowN; rw [List.getElem?_map, List.getElem?_range h]; rfl
theorem flatN_len (N : Nat) (fs : List (List Int)) : (flatN N fs).length = fs.length * N := by
  induction fs with
  | nil => simp [flatN]
  | cons p l ih => unfold flatN at *; rw [List.flatMap_cons, List.length_append, ih, rowN_len, List.length_cons, Nat.succ_mul]; omega
theorem flatN_append (N : Nat) (fs gs : List (List Int)) : flatN N (fs ++ gs) = flatN N fs ++ flatN N gs := List.flatMap_append
theorem flatN_one (N : Nat) (fs : List (List Int)) : ∀ u ∈ flatN N fs, u.oneCell' = true := by
  intro u hu
  obtain ⟨p, _, hp⟩ := List.mem_flatMap.1 hu
  obtain ⟨j, _, rfl⟩ := List.mem_map.1 hp
  rfl
theorem flatN_at {N : Nat} (fs : List (List Int)) (k j : Nat) (hk : k < fs.length) (hj : j < N) : (flatN N fs)[k * N + j]? = some (.int .i64 ((fs.getD k []).getD j 0)) := by
  induction fs generalizing k with
  | nil => simp at hk
  | cons p l ih =>
    have e : flatN N (p :: l) = rowN N p ++ flatN N l := by unfold flatN; rw [List.flatMap_cons]
    rw [e]
    cases k with
    | zero =>
      rw [List.getElem?_append_left (by rw [rowN_len]; omega), Nat.zero_mul, Nat.zero_add, rowN_at p hj]; rfl
    | succ k =>
      have hk' : k < l.length := by simpa using hk
      rw [List.getElem?_append_right (by rw [rowN_len, Nat.succ_mul]; omega), rowN_len, Nat.succ_mul, show k * N + N + j - N = k * N + j by omega, ih k hk']
      rfl

/-- the slice v is the call's own, from block 'base' on, and holds these elements; T is their type -/
def OwnsN (N : Nat) (T : TypeId) (w : World) (base : Nat) (v : Value) (fs : List (List Int)) : Prop := w.ownsRow base T N v fs.length (flatN N fs)
theorem OwnsN.nil (N : Nat) (T : TypeId) (w : World) (base : Nat) : OwnsN N T w base (.slice none 0 0) [] := ⟨by simp [flatN], .inl ⟨rfl, rfl⟩⟩
theorem OwnsN.ge {N : Nat} {T : TypeId} {w : World} {base : Nat} {v : Value} {fs : List (List Int)} (h : OwnsN N T w base v fs) : ∀ k, v.ownBlock = some k → base ≤ k := by
  intro k hk
  rcases h.2 with ⟨rfl, _⟩ | ⟨g, cap, cur, rfl, hg, _⟩
  · simp [Value.ownBlock] at hk
  · simp [Value.ownBlock] at hk; omega
theorem OwnsN.block_lt {N : Nat} {T : TypeId} {w : World} {base : Nat} {v : Value} {fs : List (List Int)} (h : OwnsN N T w base v fs) : ∀ k, v.ownBlock = some k → k < w.heap.size := by
  intro k hk
  rcases h.2 with ⟨rfl, _⟩ | ⟨g, cap, cur, rfl, hg, hh, _⟩
  · simp [Value.ownBlock] at hk
  · simp [Value.ownBlock] at hk; subst hk; exact heap_lt hh
theorem OwnsN.kpt {N : Nat} {T : TypeId} {w w' : World} {base : Nat} {v : Value} {fs : List (List Int)} (h : OwnsN N T w base v fs) (g : Kpt w w') : OwnsN N T w' base v fs := by
  obtain ⟨h1, h2⟩ := h
  refine ⟨h1, ?_⟩
  rcases h2 with h2 | ⟨k, cap, cur, e, hk, hh, r⟩
  · exact .inl h2
  · exact .inr ⟨k, cap, cur, e, hk, (Below.block g k (Array.getElem?_eq_some_iff.1 hh).1).trans hh, r⟩
theorem OwnsN.alloc {N : Nat} {T : TypeId} {w : World} {base : Nat} {v : Value} {fs : List (List Int)} (h : OwnsN N T w base v fs) (o : Obj) : OwnsN N T (w.alloc o) base v fs := h.kpt ((Kpt.refl w).alloc o)
theorem OwnsN.form {N : Nat} {T : TypeId} {w : World} {B : Nat} {v : Value} {fs : List (List Int)} (h : OwnsN N T w B v fs) : ∃ a n cap, v = .slice a n cap ∧ Hid (n = fs.length) := by
  rcases h.2 with ⟨rfl, hn⟩ | ⟨g, cap, cur, rfl, _⟩
  · exact ⟨_, _, _, rfl, hn.symm⟩
  · exact ⟨_, _, _, rfl, rfl⟩
/-- its cells -/
theorem OwnsN.cells {N : Nat} {T : TypeId} {w : World} {B : Nat} {v : Value} {fs : List (List Int)} (h : OwnsN N T w B v fs) : ∃ a cap, v = .slice a fs.length cap ∧ fs.length ≤ maxLen ∧ ∀ k, k < fs.length → ∃ g, a = some ⟨g, 0, none⟩ ∧ ∀ j, j < N → w.cell? ⟨g, k * N + j, none⟩ = some (.int .i64 ((fs.getD k []).getD j 0)) := by
  rcases h.2 with ⟨rfl, hn⟩ | ⟨g, cap, cur, rfl, hg, hh, hn, hm, hs, ht⟩
  · refine ⟨none, 0, by rw [hn], by rw [hn]; exact Nat.zero_le _, fun k hk => by omega⟩
  · refine ⟨_, cap, rfl, Nat.le_trans hn hm, fun k hk => ⟨g, rfl, fun j hj => ?_⟩⟩
    have hlt : k * N + j < fs.length * N := by
      have : (k + 1) * N ≤ fs.length * N := Nat.mul_le_mul_right N hk
      rw [Nat.succ_mul] at this; omega
    rw [cell_of_row w g (k * N + j) cur _ (0, 0) hh, ← flatN_at fs k j hk hj, ← ht, List.getElem?_take_of_lt hlt, ← Array.getElem?_toList]

theorem OwnsN.other {N : Nat} {T : TypeId} {w w' : World} {base : Nat} {u : Value} {fs : List (List Int)} {row : Option Nat} (h : OwnsN N T w base u fs) (g : w.grownBy w' row) (hr : u.ownBlock = none ∨ u.ownBlock ≠ row) : OwnsN N T w' base u fs := by
  obtain ⟨h1, h2⟩ := h
  refine ⟨h1, ?_⟩
  rcases h2 with h2 | ⟨k, cap, cur, rfl, hk, hh, r⟩
  · exact .inl h2
  · refine .inr ⟨k, cap, cur, rfl, hk, (g.block k (heap_lt hh) ?_).trans hh, r⟩
    rcases hr with hr | hr
    · simp [Value.ownBlock] at hr
    · simpa [Value.ownBlock] using hr

end Go.Proofs.Ytklaojahocjeiaa

-- FlOwn
namespace Go.Proofs.Ytklaojahocjeiaa
open Go.RowKit
set_option linter.unusedVariables false

theorem Try.infoFail : (Try.prog.info? 49).map (fun i => (i.zero, i.size, i.bytes)) = some (some (.agg #[.int .i64 0, .int .i64 0, .int .i64 0, .int .i64 0, .int .i64 0, .int .i64 0, .int .i64 0, .int .i64 0, .int .i64 0, .int .i64 0]), 10, 80) := by kernel_rfl
theorem OwnsN.readsF {T : TypeId} {w : World} {base : Nat} {v : Value} {fs : List (List Int)} (h : OwnsN 10 T w base v fs) (hb : ∀ l ∈ fs, FlB l) : ReadsF w v fs := by
  obtain ⟨a, cap, rfl, hm, hc⟩ := h.cells
  refine ⟨a, cap, rfl, hm, hb, fun k hk => ?_⟩
  obtain ⟨g, rfl, h'⟩ := hc k hk
  exact ⟨g, 0, rfl, fun j hj => by rw [Nat.zero_add]; exact h' j hj⟩
theorem wp_appendFl {ops : Array Oper} {rest : List Oper} {o : Oper} {a : Act} {Q : Exit → Act → World → Prop} (hgd : o.guard = none) (s x : Operand)
    (ho : o.op = .call { callee := .builtin .append, args := #[s, x], argTypes := #[24, 24] })
    (base : Nat) (v : Value) (fs : List (List Int)) (l : List Int) (z0 z1 z2 z3 z4 z5 z6 z7 z8 z9 : Int) (w : World) (hs : a.eval s = v) (hown : OwnsN 10 49 w base v fs) (hx : a.eval x = .slice (some ⟨w.heap.size, 0, none⟩) 1 1)
    (hl : rowN 10 l = [.int .i64 z0, .int .i64 z1, .int .i64 z2, .int .i64 z3, .int .i64 z4, .int .i64 z5, .int .i64 z6, .int .i64 z7, .int .i64 z8, .int .i64 z9])
    (hlen : fs.length + 1 ≤ 100000) (hbase : base ≤ w.heap.size)
    (h : ∀ v' w', OwnsN 10 49 w' base v' (fs ++ [l]) → Below base w w' → wpList Try.prog ops Q rest (a.put o.dst v') w') : wpList Try.prog ops Q (o :: rest) a (w.alloc (.cells #[.int .i64 z0, .int .i64 z1, .int .i64 z2, .int .i64 z3, .int .i64 z4, .int .i64 z5, .int .i64 z6, .int .i64 z7, .int .i64 z8, .int .i64 z9] 49)) := by
  obtain ⟨i0, hi, hz0, hz1, hz2⟩ := info_parts Try.infoFail
  refine wpList_append_lies _ hgd s x 24 ho base 49 i0 _ 10 80 Try.underlying24 hi hz0 hz1 hz2 rfl (by decide) v _ _ hs (hown.alloc _) ⟨w.heap.size, 0, none⟩ 1 1 (rowN 10 l) hx (rowN_len 10 l) (by rw [hl]; exact World.news_of_block (heap_alloc_new w _)) ?_ (by decide) ?_ ?_ ?_ (w.heap.size + 1) (by simp) ?_
  · intro u hu
    obtain ⟨j, _, rfl⟩ := List.mem_map.1 hu
    rfl
  · unfold maxLen; omega
  · omega
  · rw [World.size_alloc]; omega
  · intro g cap w' h1 h2 h3 h4
    refine h _ w' ?_ ?_
    · unfold OwnsN
      rw [List.length_append, flatN_append]
      have : flatN 10 [l] = rowN 10 l := by simp [flatN]
      rw [this]
      exact h1
    · exact ((Below.refl base w).alloc hbase _).grown h2 (by rw [World.size_alloc]; omega) hown.ge

end Go.Proofs.Ytklaojahocjeiaa

-- ClmG
namespace Go.Proofs.Ytklaojahocjeiaa
open Go.RowKit
set_option linter.unusedVariables false
set_option maxRecDepth 100000

theorem OwnsN.empty (N : Nat) (T : TypeId) (w : World) (B : Nat) (h : B ≤ w.heap.size) : OwnsN N T (w.alloc (.cells #[] T)) B (.slice (some ⟨w.heap.size, 0, none⟩) 0 0) [] :=
  ⟨by simp [flatN], .inr ⟨w.heap.size, 0, #[], rfl, h, heap_alloc_new w _, Nat.le_refl _, Nat.zero_le _, by simp, by simp [flatN]⟩⟩
theorem wp_appendFs {ops : Array Oper} {rest : List Oper} {o : Oper} {a : Act} {Q : Exit → Act → World → Prop} (hgd : o.guard = none) (s x : Operand)
    (ho : o.op = .call { callee := .builtin .append, args := #[s, x], argTypes := #[24, 24] })
    (base : Nat) (v : Value) (fs gs : List (List Int)) (g off cap : Nat) (w : World) (hs : a.eval s = v) (hown : OwnsN 10 49 w base v fs) (hx : a.eval x = .slice (some ⟨g, off, none⟩) gs.length cap) (hr : ReadsF w (.slice (some ⟨g, off, none⟩) gs.length cap) gs)
    (hlen : fs.length + gs.length ≤ 100000) (hbase : base ≤ w.heap.size)
    (h : ∀ v' w', OwnsN 10 49 w' base v' (fs ++ gs) → Below base w w' → wpList Try.prog ops Q rest (a.put o.dst v') w') : wpList Try.prog ops Q (o :: rest) a w := by
  obtain ⟨i0, hi, hz0, hz1, hz2⟩ := info_parts Try.infoFail
  obtain ⟨ad, cap', e, hm, hb, hc⟩ := hr
  injection e with e1 _ e3
  subst e1 e3
  refine wpList_append_own _ hgd s x 24 ho base 49 i0 _ 10 80 Try.underlying24 hi hz0 hz1 hz2 rfl (by decide) v _ _ hs hown ⟨g, off, none⟩ gs.length cap (flatN 10 gs) hx (flatN_len 10 gs) ?_ (flatN_one 10 gs) ?_ ?_ hbase ?_
  · intro j u hu
    have hj : j < gs.length * 10 := by
      have := (List.getElem?_eq_some_iff.1 hu).1
      rwa [flatN_len] at this
    obtain ⟨q, r, hr, rfl⟩ : ∃ q r, r < 10 ∧ j = q * 10 + r := ⟨j / 10, j % 10, by omega, by omega⟩
    have hq : q < gs.length := by omega
    obtain ⟨g', off', e, h1⟩ := hc q hq
    have e' := Option.some.inj e
    injection e' with e1 e2 _
    subst e1 e2
    have ea : (⟨g, off, none⟩ : Addr).add (q * 10 + r) = ⟨g, off + q * 10 + r, none⟩ := by simp [Addr.add, Nat.add_assoc]
    rw [ea]
    rw [flatN_at gs q r hq hr] at hu
    rw [← hu]
    exact h1 r hr
  · unfold maxLen; omega
  · omega
  · intro v' w' h1 h2 _
    refine h v' w' ?_ ((Below.refl base w).grown h2 hbase hown.ge)
    unfold OwnsN
    rw [List.length_append, flatN_append]
    exact h1
theorem eqF_nil (w : World) : (binOp .eql 24 (.slice none 0 0) (.slice none 0 0)).run Try.prog w = .ok (.bool true) w := by kernel_rfl
theorem eqF_some (x : Addr) (n cap : Nat) (w : World) : (binOp .eql 24 (.slice (some x) n cap) (.slice none 0 0)).run Try.prog w = .ok (.bool false) w := by kernel_rfl
theorem cloneF_nil (w : World) : Calls Try.prog 33 #[.slice none 0 0] w fun e w' => e = .returned (.slice none 0 0) ∧ w' = w := by
  have q := eqF_nil
  go_enter Try.func33, Try.ntmps33
  go_wp2
  go_ret
  exact ⟨rfl, rfl⟩
theorem cloneF_some (g off cap : Nat) (fs : List (List Int)) (w : World) (hr : ReadsF w (.slice (some ⟨g, off, none⟩) fs.length cap) fs) (hm : fs.length ≤ 60) :
    Calls Try.prog 33 #[.slice (some ⟨g, off, none⟩) fs.length cap] w fun e w' => ∃ v, e = .returned v ∧ OwnsN 10 49 w' w.heap.size v fs ∧ Kpt w w' := by
  have k1 : Hid (Kpt w (w.alloc (.cells #[] 49))) := (Kpt.refl w).alloc _
  have HR := Lib.hid (hr.kpt k1.out)
  have O0 := Lib.hid (OwnsN.empty 10 49 w w.heap.size (Nat.le_refl _))
  have LN : Hid (([] : List (List Int)).length + fs.length ≤ 100000) := by unfold Hid; rw [List.length_nil]; omega
  have BN : Hid (w.heap.size ≤ (w.alloc (.cells #[] 49)).heap.size) := by unfold Hid; rw [World.size_alloc]; omega
  clear hr
  have q := fun w => eqF_some ⟨g, off, none⟩ fs.length cap w
  go_enter Try.func33, Try.ntmps33
  go_wp2_with (at_builtin; refine wp_appendFs rfl (.tmp 5) (.tmp 6) rfl w.heap.size _ [] fs g off cap _ rfl O0.out rfl HR.out LN.out BN.out ?_; intro v' w' h1 h2; have H1 := Lib.hid h1; have H2 := Lib.hid h2; clear h1 h2)
  go_ret
  exact ⟨_, rfl, H1.out, k1.out.trans H2.out⟩
theorem cloneF_zero (x : Addr) (cap : Nat) (w : World) : Calls Try.prog 33 #[.slice (some x) 0 cap] w fun e w' => ∃ v, e = .returned v ∧ OwnsN 10 49 w' w.heap.size v [] ∧ Kpt w w' := by
  have O0 := Lib.hid (OwnsN.empty 10 49 w w.heap.size (Nat.le_refl _))
  have k1 : Hid (Kpt w (w.alloc (.cells #[] 49))) := (Kpt.refl w).alloc _
  have q := fun w => eqF_some x 0 cap w
  have L0 : ∀ w : World, (loadCellsFrom x 0 0 #[]).run Try.prog w = .ok #[] w := fun w => rfl
  have S0 : ∀ w : World, (storeCells ⟨w.heap.size, 0, none⟩ []).run Try.prog w = .ok () w := fun w => rfl
  have S1 : (storeCells ⟨w.heap.size, 0, none⟩ []).run Try.prog (w.alloc (.cells #[] 49)) = .ok () (w.alloc (.cells #[] 49)) := rfl
  go_enter Try.func33, Try.ntmps33
  go_wp2
  go_ret
  exact ⟨_, rfl, O0.out, k1.out⟩

end Go.Proofs.Ytklaojahocjeiaa

-- ClmH
namespace Go.Proofs.Ytklaojahocjeiaa
open Go.RowKit
set_option linter.unusedVariables false
set_option maxRecDepth 100000

theorem results_cc {fn : Func} {p q : Tmp} (h : fn.results = #[.cell p 24, .cell q 25]) (tmps : Array Value) (w : World) (g k : Nat) (v : Value) (E : Int)
    (hp : tmps.getD p undef = .pointer (some ⟨g, 0, none⟩)) (hq : tmps.getD q undef = .pointer (some ⟨k, 0, none⟩)) (hg : w.cell? ⟨g, 0, none⟩ = some v) (hk : w.cell? ⟨k, 0, none⟩ = some (.int .i64 E)) : (results fn tmps).run Try.prog w = .ok (.tuple #[v, .int .i64 E]) w := by
  have hp' : tmps[p]?.getD undef = .pointer (some ⟨g, 0, none⟩) := by simpa using hp
  have hq' : tmps[q]?.getD undef = .pointer (some ⟨k, 0, none⟩) := by simpa using hq
  simp [results, h, hp', hq', asAddr, go_sem, hg, hk]
theorem grow_bad (P C G O : Int) (v : Value) (fs : List (List Int)) (w : World) (hr : ReadsF w v fs) (h : cwE P C G O fs ≠ 0) : Calls Try.prog 11 #[.agg #[.int .i64 P, .int .i64 C, .int .i64 G, .int .i64 O], v] w fun e w' => e = .returned (.tuple #[.slice none 0 0, .int .i64 (cwE P C G O fs)]) ∧ Kpt w w' := by
  obtain ⟨ad, cap, hv, -⟩ := id hr
  have k3 : Kpt w (((w.alloc (.cells #[.int .i64 P, .int .i64 C, .int .i64 G, .int .i64 O] 23)).alloc (.cells #[.slice none 0 0] 24)).alloc (.cells #[.int .i64 0] 25)) := (((Kpt.refl w).alloc _).alloc _).alloc _
  have KA := Lib.hid k3
  have B4 : Hid (Blk (((w.alloc (.cells #[.int .i64 P, .int .i64 C, .int .i64 G, .int .i64 O] 23)).alloc (.cells #[.slice none 0 0] 24)).alloc (.cells #[.int .i64 0] 25)) (w.heap.size + 1) #[.slice none 0 0] 24) := by
    have := Blk.made (w.alloc (.cells #[.int .i64 P, .int .i64 C, .int .i64 G, .int .i64 O] 23)) #[.slice none 0 0] 24
    rw [World.size_alloc] at this
    exact this.alloc _
  have B5 : Hid (Blk (((w.alloc (.cells #[.int .i64 P, .int .i64 C, .int .i64 G, .int .i64 O] 23)).alloc (.cells #[.slice none 0 0] 24)).alloc (.cells #[.int .i64 0] 25)) (w.heap.size + 2) #[.int .i64 0] 25) := by
    have := Blk.made ((w.alloc (.cells #[.int .i64 P, .int .i64 C, .int .i64 G, .int .i64 O] 23)).alloc (.cells #[.slice none 0 0] 24)) #[.int .i64 0] 25
    rwa [World.size_alloc, World.size_alloc] at this
  have CW := Lib.hid (fun w' (k : Kpt w w') => checkWith_any P C G O v fs w' (hr.kpt k))
  have z : (cwE P C G O fs != 0) = true := bne_iff_ne.2 h
  subst hv
  clear h hr k3
  generalize cwE P C G O fs = E at *
  generalize fs.length = n at *
  go_enter Try.func11, Try.ntmps11
  go_wp2_with (go_at_call 31; (with_reducible refine (CW.out _ KA.out).mono ?_); rintro e w1 ⟨rfl, k1⟩; have K1 := Lib.hid (ktr KA.out k1); have R4 := B4.out.kpt k1; have R5 := B5.out.kpt k1; have c4 := R4.cell 0; have f4 := R4.frozen 0; have c5 := R5.cell 0; have f5 := R5.frozen 0; have H4 := Lib.hid R4; have H5 := Lib.hid R5; clear k1 R4 R5)
  have X4 := (H4.out.put 0 (.slice none 0 0)).away (p := ⟨w.heap.size + 2, 0, none⟩) (by show w.heap.size + 1 ≠ w.heap.size + 2; omega) (.int .i64 E)
  have X5 := (H5.out.away (p := ⟨w.heap.size + 1, 0, none⟩) (by show w.heap.size + 2 ≠ w.heap.size + 1; omega) (.slice none 0 0)).put 0 (.int .i64 E)
  refine bodyPost_ret (results_cc rfl _ _ _ _ _ _ rfl rfl (X4.cell 0) (X5.cell 0)) rfl ?_
  exact ⟨rfl, (K1.out.setCell (p := ⟨w.heap.size + 1, 0, none⟩) (by show w.heap.size ≤ w.heap.size + 1; omega) _).setCell (p := ⟨w.heap.size + 2, 0, none⟩) (by show w.heap.size ≤ w.heap.size + 2; omega) _⟩

end Go.Proofs.Ytklaojahocjeiaa

-- ClmI
namespace Go.Proofs.Ytklaojahocjeiaa
open Go.RowKit
set_option linter.unusedVariables false

/-- a fail with other units -/
def upd (l : List Int) (z : Int) : List Int := (List.range 10).map fun j => if j = 6 then z else l.getD j 0
theorem upd_at (l : List Int) (z : Int) {j : Nat} (h : j < 10) : (upd l z).getD j 0 = if j = 6 then z else l.getD j 0 := by
  unfold upd
  rw [List.getD_eq_getElem?_getD, List.getElem?_map, List.getElem?_range h]
  rfl
theorem flatN_put (c : List (List Int)) (k : Nat) (hk : k < c.length) (z : Int) : (flatN 10 c).set (k * 10 + 6) (.int .i64 z) = flatN 10 (c.set k (upd (c.getD k []) z)) := by
  apply List.ext_getElem?
  intro i
  by_cases hi : i < c.length * 10
  · obtain ⟨q, r, hr, rfl⟩ : ∃ q r, r < 10 ∧ i = q * 10 + r := ⟨i / 10, i % 10, by omega, by omega⟩
    have hq : q < c.length := by omega
    rw [flatN_at _ q r (by rw [List.length_set]; exact hq) hr, List.getElem?_set, flatN_len]
    by_cases e : q = k
    · subst e
      have e2 : (c.set q (upd (c.getD q []) z)).getD q [] = upd (c.getD q []) z := by
        rw [List.getD_eq_getElem?_getD, List.getElem?_set, if_pos rfl, if_pos hq]; rfl
      rw [e2, upd_at _ _ hr]
      by_cases e3 : r = 6
      · subst e3; rw [if_pos rfl, if_pos rfl, if_pos (by omega)]
      · rw [if_neg (by omega), if_neg e3, flatN_at c q r hq hr]
    · have e2 : (c.set k (upd (c.getD k []) z)).getD q [] = c.getD q [] := by
        rw [List.getD_eq_getElem?_getD, List.getElem?_set, if_neg (fun h => e h.symm), ← List.getD_eq_getElem?_getD]
      rw [e2, if_neg (by omega), flatN_at c q r hq hr]
  · rw [List.getElem?_eq_none (by rw [List.length_set, flatN_len]; omega), List.getElem?_eq_none (by rw [flatN_len, List.length_set]; omega)]
theorem OwnsN.opened {T : TypeId} {w : World} {B : Nat} {v : Value} {c : List (List Int)} (h : OwnsN 10 T w B v c) (h0 : 0 < c.length) : ∃ g cap cur, v = .slice (some ⟨g, 0, none⟩) c.length cap ∧ B ≤ g ∧ Blk w g cur T ∧ (∀ k j, k < c.length → j < 10 → w.cell? ⟨g, k * 10 + j, none⟩ = some (.int .i64 ((c.getD k []).getD j 0))) ∧
    ∀ k z, k < c.length → OwnsN 10 T (w.setCell ⟨g, k * 10 + 6, none⟩ (.int .i64 z)) B v (c.set k (upd (c.getD k []) z)) := by
  have hcs := h.cells
  rcases h.2 with ⟨rfl, hn⟩ | ⟨g, cap, cur, rfl, hg, hh, hn, hm, hs, ht⟩
  · omega
  · refine ⟨g, cap, cur, rfl, hg, hh, fun k j hk hj => ?_, fun k z hk => ?_⟩
    · obtain ⟨a, cap', e, -, hc⟩ := hcs
      obtain ⟨g', e', h'⟩ := hc k hk
      injection e with e1 _ _
      rw [← e1] at e'
      injection e' with e'
      injection e' with e' _ _
      subst e'
      exact h' j hj
    · have hb := Blk.put (show Blk w g cur T from hh) (k * 10 + 6) (.int .i64 z)
      refine ⟨by rw [flatN_len], ?_⟩
      rw [List.length_set]
      refine .inr ⟨g, cap, _, rfl, hg, hb, hn, hm, by rw [Array.size_setIfInBounds]; exact hs, ?_⟩
      rw [Array.toList_setIfInBounds, List.take_set, ht]
      exact flatN_put c k hk z
theorem OwnsN.own {T : TypeId} {w w' : World} {base : Nat} {u : Value} {fs : List (List Int)} {row : Option Nat} (h : OwnsN 10 T w base u fs) (g : w.grownBy w' row) (hr : ∀ r, row = some r → ∃ o : Obj, w.heap[r]? = some o ∧ o.isCells = false) : OwnsN 10 T w' base u fs := by
  obtain ⟨h1, h2⟩ := h
  refine ⟨h1, ?_⟩
  rcases h2 with h2 | ⟨k, cap, cur, rfl, hk, hh, r⟩
  · exact .inl h2
  · exact .inr ⟨k, cap, cur, rfl, hk, (g.block k (heap_lt hh) (fun e => by obtain ⟨o, ho, hc⟩ := hr k e.symm; rw [hh] at ho; cases ho; cases hc)).trans hh, r⟩
theorem OwnsN.away {T e : TypeId} {w : World} {B b : Nat} {v : Value} {c : List (List Int)} {cs : Array Value} (h : OwnsN 10 T w B v c) (hb : Blk w b cs e) (hT : T ≠ e) (o : Nat) (u : Value) : OwnsN 10 T (w.setCell ⟨b, o, none⟩ u) B v c := by
  obtain ⟨h1, h2⟩ := h
  refine ⟨h1, ?_⟩
  rcases h2 with h2 | ⟨k, cap, cur, rfl, hk, hh, r⟩
  · exact .inl h2
  · refine .inr ⟨k, cap, cur, rfl, hk, ?_, r⟩
    exact Blk.away (show Blk w k cur T from hh) (p := ⟨b, o, none⟩) (fun e' => hT (by
      have e'' : k = b := e'
      subst e''
      rw [show w.heap[k]? = _ from hb] at hh
      cases hh; rfl)) u
theorem Blk.apart {w : World} {g b : Nat} {cs ds : Array Value} {T e : TypeId} (h : Blk w g cs T) (k : Blk w b ds e) (hT : T ≠ e) : g ≠ b := fun q => hT (by
  subst q
  have k' : w.heap[g]? = some (.cells ds e (0, 0)) := k
  rw [show w.heap[g]? = _ from h] at k'
  cases k'; rfl)

theorem OwnsN.put {T : TypeId} {w : World} {B g n cp k : Nat} {c : List (List Int)} (h : OwnsN 10 T w B (.slice (some ⟨g, 0, none⟩) n cp) c) (hk : k < c.length) (z : Int) : OwnsN 10 T (w.setCell ⟨g, k * 10 + 6, none⟩ (.int .i64 z)) B (.slice (some ⟨g, 0, none⟩) n cp) (c.set k (upd (c.getD k []) z)) := by
  obtain ⟨g', cp', cur, e, -, -, -, hp⟩ := h.opened (by omega)
  injection e with e1 _ _
  injection e1 with e1
  injection e1 with e1 _ _
  subst e1
  exact hp k z hk
def unL (c : List (List Int)) (k : Nat) : Int := (c.getD k []).getD 6 0
/-- what stands behind one more place -/
def gst (G O : Int) (fs c : List (List Int)) (x : Fin fs.length) : List (List Int) := c.set x.1 (upd (c.getD x.1 []) (IntKind.i64.wrap (unL c x.1 + hoN G O (openL (fs.getD x.1 [])))))
def gro (G O : Int) (fs : List (List Int)) (xs : List (Fin fs.length)) : List (List Int) := xs.foldl (gst G O fs) fs
theorem gro_s (G O : Int) (fs : List (List Int)) (xs : List (Fin fs.length)) (x : Fin fs.length) : gro G O fs (xs ++ [x]) = gst G O fs (gro G O fs xs) x := by simp [gro]
theorem gro_len (G O : Int) (fs : List (List Int)) (xs : List (Fin fs.length)) : (gro G O fs xs).length = fs.length := by
  unfold gro
  suffices h : ∀ c : List (List Int), (xs.foldl (gst G O fs) c).length = c.length from h fs
  induction xs with
  | nil => intro c; rfl
  | cons x xs ih => intro c; rw [List.foldl_cons, ih]; unfold gst; rw [List.length_set]
theorem gro_un (G O : Int) (fs : List (List Int)) (xs : List (Fin fs.length)) (x : Fin fs.length) : unL (gro G O fs (xs ++ [x])) x.1 = IntKind.i64.wrap (unL (gro G O fs xs) x.1 + hoN G O (openL (fs.getD x.1 []))) := by
  have hx : x.1 < (gro G O fs xs).length := by rw [gro_len]; exact x.2
  have e : (gst G O fs (gro G O fs xs) x).getD x.1 [] = upd ((gro G O fs xs).getD x.1 []) (IntKind.i64.wrap (unL (gro G O fs xs) x.1 + hoN G O (openL (fs.getD x.1 [])))) := by
    unfold gst
    rw [List.getD_eq_getElem?_getD, List.getElem?_set, if_pos rfl, if_pos hx]; rfl
  rw [gro_s]
  unfold unL at e ⊢
  rw [e, upd_at _ _ (by omega), if_pos rfl]
/-- nothing has grown too large -/
def GOk (G O : Int) (fs : List (List Int)) (xs : List (Fin fs.length)) : Prop := ∀ pre x, pre ++ [x] <+: xs → unL (gro G O fs (pre ++ [x])) x.1 ≤ 1073741824
theorem gok_0 (G O : Int) (fs : List (List Int)) : GOk G O fs [] := fun pre x h => by
  have := List.prefix_nil.1 h
  simp at this
theorem gok_s {G O : Int} {fs : List (List Int)} {xs : List (Fin fs.length)} (h : GOk G O fs xs) (x : Fin fs.length) (hx : unL (gro G O fs (xs ++ [x])) x.1 ≤ 1073741824) : GOk G O fs (xs ++ [x]) := fun pre y hp => by
  rcases List.prefix_concat_iff.1 hp with e | e
  · have := List.append_inj' e rfl
    obtain ⟨rfl, e2⟩ := this
    simp at e2
    subst e2
    exact hx
  · exact h pre y e

end Go.Proofs.Ytklaojahocjeiaa

-- ClmJ
namespace Go.Proofs.Ytklaojahocjeiaa
open Go.RowKit Go.Shelf
set_option linter.unusedVariables false
attribute [local go_sem] Oper.semAt_some

theorem cloneF_any (a : Option Addr) (cap : Nat) (fs : List (List Int)) (w : World) (hr : ReadsF w (.slice a fs.length cap) fs) (hm : fs.length ≤ 60) (hn : a = none → cap = 0) :
    Calls Try.prog 33 #[.slice a fs.length cap] w fun e w' => ∃ v, e = .returned v ∧ OwnsN 10 49 w' w.heap.size v fs ∧ Kpt w w' := by
  rcases a with _ | x
  · obtain rfl := hn rfl
    have h0 : fs = [] := by
      obtain ⟨a', cap', e, _, _, hc⟩ := hr
      injection e with e1 _ _
      cases fs with
      | nil => rfl
      | cons l t => obtain ⟨g, off, e', _⟩ := hc 0 (by simp); rw [← e1] at e'; cases e'
    subst h0
    refine (cloneF_nil w).mono ?_
    rintro e w' ⟨rfl, rfl⟩
    exact ⟨_, rfl, OwnsN.nil _ _ _ _, Kpt.refl _⟩
  · cases fs with
    | nil => exact cloneF_zero x cap w
    | cons l t =>
      have hr2 := hr
      obtain ⟨a', cap', e, _, _, hc⟩ := hr
      injection e with e1 _ _
      obtain ⟨g, off, e', _⟩ := hc 0 (by simp)
      rw [← e1] at e'
      injection e' with e'
      subst e'
      exact cloneF_some g off cap _ w hr2 hm

set_option maxRecDepth 100000 in
set_option maxHeartbeats 4000000 in
theorem grow_ok (P C G O : Int) (a : Option Addr) (cap : Nat) (fs : List (List Int)) (w : World) (hr : ReadsF w (.slice a fs.length cap) fs) (hn : a = none → cap = 0) (h : cwE P C G O fs = 0) : Calls Try.prog 11 #[.agg #[.int .i64 P, .int .i64 C, .int .i64 G, .int .i64 O], .slice a fs.length cap] w fun e w' => Kpt w w' ∧ ((∃ gv, e = .returned (.tuple #[gv, .int .i64 0]) ∧ OwnsN 10 49 w' w.heap.size gv (gro G O fs (hit P fs fs.length)) ∧ GOk G O fs (hit P fs fs.length)) ∨ (e = .returned (.tuple #[.slice none 0 0, .int .i64 8]) ∧ ∃ pre x, pre ++ [x] <+: hit P fs fs.length ∧ 1073741824 < unL (gro G O fs (pre ++ [x])) x.1)) := by
  obtain ⟨h1', h2⟩ := cwE_0 h
  have h60 := checks_60 h2
  have KA : Hid (Kpt w (((w.alloc (.cells #[.int .i64 P, .int .i64 C, .int .i64 G, .int .i64 O] 23)).alloc (.cells #[.slice none 0 0] 24)).alloc (.cells #[.int .i64 0] 25))) := (((Kpt.refl w).alloc _).alloc _).alloc _
  have B2 : Hid (Blk (((w.alloc (.cells #[.int .i64 P, .int .i64 C, .int .i64 G, .int .i64 O] 23)).alloc (.cells #[.slice none 0 0] 24)).alloc (.cells #[.int .i64 0] 25)) w.heap.size #[.int .i64 P, .int .i64 C, .int .i64 G, .int .i64 O] 23) := ((Blk.made w _ _).alloc _).alloc _
  have B4 : Hid (Blk (((w.alloc (.cells #[.int .i64 P, .int .i64 C, .int .i64 G, .int .i64 O] 23)).alloc (.cells #[.slice none 0 0] 24)).alloc (.cells #[.int .i64 0] 25)) (w.heap.size + 1) #[.slice none 0 0] 24) := by
    have := Blk.made (w.alloc (.cells #[.int .i64 P, .int .i64 C, .int .i64 G, .int .i64 O] 23)) #[.slice none 0 0] 24
    rw [World.size_alloc] at this
    exact this.alloc _
  have B5 : Hid (Blk (((w.alloc (.cells #[.int .i64 P, .int .i64 C, .int .i64 G, .int .i64 O] 23)).alloc (.cells #[.slice none 0 0] 24)).alloc (.cells #[.int .i64 0] 25)) (w.heap.size + 2) #[.int .i64 0] 25) := by
    have := Blk.made ((w.alloc (.cells #[.int .i64 P, .int .i64 C, .int .i64 G, .int .i64 O] 23)).alloc (.cells #[.slice none 0 0] 24)) #[.int .i64 0] 25
    rwa [World.size_alloc, World.size_alloc] at this
  have CW := Lib.hid (fun w' (k : Kpt w w') => checkWith_any P C G O _ fs w' (hr.kpt k))
  rw [h] at CW
  have CL := Lib.hid (fun w' (k : Kpt w w') => cloneF_any a cap fs w' (hr.kpt k) h60 hn)
  have HR := Lib.hid hr
  clear hr h h2 hn
  refine (callsIn_wide (n := 3)).1 ?_
  refine callsIn_of_wp_marks Try.func11 rfl trivial ?_ rfl
  simp only [Try.ntmps11, List.size_toArray, List.length_cons, List.length_nil, Nat.reduceAdd, Nat.reduceSub, Array.replicate_succ, Array.replicate_zero, List.push_toArray, List.append_toArray, List.nil_append, List.cons_append]
  gi_wp2_with (first
    | (refine ⟨trivial, ?_⟩; gi_at_call 31; (with_reducible refine (callsIn_wide.2 (CW.out _ KA.out)).mono ?_); rintro e w1 ⟨rfl, k1⟩; have K1 := Lib.hid (ktr KA.out k1); have E2 := Lib.hid (B2.out.kpt k1); have E4 := Lib.hid (B4.out.kpt k1); have E5 := Lib.hid (B5.out.kpt k1); have s1 : w.heap.size + 3 ≤ w1.heap.size := (by have := Below.size k1; simp at this; omega); clear k1)
    | (refine ⟨trivial, ?_⟩; gi_at_call 33; (with_reducible refine (callsIn_wide.2 (CL.out _ K1.out)).mono ?_); rintro e w2 ⟨v0, rfl, o2, k2⟩; obtain ⟨a2, n2, c2, rfl, hn2⟩ := o2.form; have O2 := Lib.hid o2; have K2 := Lib.hid (ktr K1.out k2); have F2 := Lib.hid (E2.out.kpt k2); have F4 := Lib.hid (E4.out.kpt k2); have F5 := Lib.hid (E5.out.kpt k2); have s2 : w1.heap.size ≤ w2.heap.size := Below.size k2; have X2 := Lib.hid (F2.out.alloc (.cells #[.slice a2 n2 c2] 24)); have x0 : World.cell? (w2.alloc (.cells #[.slice a2 n2 c2] 24)) ⟨w.heap.size, 0, none⟩ = some (.int .i64 P) := X2.out.cell 0; have x1 : World.cell? (w2.alloc (.cells #[.slice a2 n2 c2] 24)) ⟨w.heap.size, 1, none⟩ = some (.int .i64 C) := X2.out.cell 1; have x2 : World.cell? (w2.alloc (.cells #[.slice a2 n2 c2] 24)) ⟨w.heap.size, 2, none⟩ = some (.int .i64 G) := X2.out.cell 2; have x3 : World.cell? (w2.alloc (.cells #[.slice a2 n2 c2] 24)) ⟨w.heap.size, 3, none⟩ = some (.int .i64 O) := X2.out.cell 3; clear k2 o2)
    | (refine ⟨trivial, ?_⟩; gi_at_call 32; (with_reducible refine (callsIn_wide.2 (holdings_run _ _ _ _ _ _ _ _)).mono ?_); rintro e w' ⟨rfl, rfl⟩))
  obtain ⟨w3, hw3⟩ : ∃ w3, (((w2.alloc (.cells #[.slice a2 n2 c2] 24)).alloc (.cells #[.int .i64 P, .int .i64 C, .int .i64 G, .int .i64 O] 23)).alloc (.cells #[.slice a fs.length cap] 24)) = w3 := ⟨_, rfl⟩
  have k23 : Kpt w2 w3 := by rw [← hw3]; exact (((Kpt.refl w2).alloc _).alloc _).alloc _
  have sz : w3.heap.size = w2.heap.size + 3 := by rw [← hw3]; simp
  have k3 : Below w.heap.size w w3 := ktr K2.out k23
  have b7 : Blk w3 w2.heap.size #[.slice a2 n2 c2] 24 := by rw [← hw3]; exact ((Blk.made w2 _ _).alloc _).alloc _
  have bE : Blk w3 (w2.heap.size + 1) #[.int .i64 P, .int .i64 C, .int .i64 G, .int .i64 O] 23 := by
    rw [← hw3]
    have := Blk.made (w2.alloc (.cells #[.slice a2 n2 c2] 24)) #[.int .i64 P, .int .i64 C, .int .i64 G, .int .i64 O] 23
    rw [World.size_alloc] at this
    exact this.alloc _
  have bF : Boxed w3 (w2.heap.size + 2) 24 (.slice a fs.length cap) := by
    rw [← hw3]
    have := Boxed.new ((w2.alloc (.cells #[.slice a2 n2 c2] 24)).alloc (.cells #[.int .i64 P, .int .i64 C, .int .i64 G, .int .i64 O] 23)) 24 (.slice a fs.length cap)
    rwa [World.size_alloc, World.size_alloc] at this
  have b4 := F4.out.kpt k23
  have b5 := F5.out.kpt k23
  have bO := O2.out.kpt k23
  have ST := hold_stops 2 (by omega) w.heap.size w w3 rfl P C G O _ fs (w2.heap.size + 2) (w2.heap.size + 1) HR.out k3 bF.cell bE
  rw [hw3]
  clear hw3 KA B2 B4 B5 CW CL E2 E4 E5 F2 F4 F5 X2 x0 x1 x2 x3 K1 K2 k23 O2
  refine wpIn_rangeFunc_ownH rfl (by omega) (gf := 55) (lb := #[.pointer (some ⟨w2.heap.size + 2, 0, none⟩), .pointer (some ⟨w2.heap.size + 1, 0, none⟩)]) rfl trivial (enters_of Try.func55 (by kernel_rfl) rfl)
    ST KpC.t (KpC.b (by omega) (by omega)) (Below.refl _ _) (fun _ => rfl)
    (fun pre W => (Blk W (w.heap.size + 1) #[.slice none 0 0] 24 ∧ Blk W (w.heap.size + 2) #[.int .i64 0] 25 ∧ Blk W w2.heap.size #[.slice a2 n2 c2] 24 ∧ Blk W (w2.heap.size + 1) #[.int .i64 P, .int .i64 C, .int .i64 G, .int .i64 O] 23 ∧ OwnsN 10 49 W w1.heap.size (.slice a2 n2 c2) (gro G O fs pre) ∧ GOk G O fs pre) ∧ Below w.heap.size w W)
    (fun c pre W => (c = .ret ∧ Blk W (w.heap.size + 1) #[.slice none 0 0] 24 ∧ Blk W (w.heap.size + 2) #[.int .i64 8] 25 ∧ ∃ ini x, pre = ini ++ [x] ∧ 1073741824 < unL (gro G O fs (ini ++ [x])) x.1) ∧ Below w.heap.size w W)
    (OwnFrom.and (Own.from (fun s A B row hs hg hr => by obtain ⟨h1, h2, h3, h4, h5, h6⟩ := hs; exact ⟨h1.own hg hr, h2.own hg hr, h3.own hg hr, h4.own hg hr, h5.own hg hr, h6⟩) _) (ownFrom_below (Nat.le_refl _) (by omega)))
    (fun c => OwnFrom.and (Own.from (fun s A B row hs hg hr => by obtain ⟨h0, h1, h2, h3⟩ := hs; exact ⟨h0, h1.own hg hr, h2.own hg hr, h3⟩) _) (ownFrom_below (Nat.le_refl _) (by omega)))
    ⟨⟨b4, b5, b7, bE, bO, gok_0 _ _ _⟩, k3⟩
    (fun x a' W => ∃ q, w2.heap.size + 1 < q ∧ a' = { tmps := #[.agg #[.int .i64 P, .int .i64 C, .int .i64 G, .int .i64 O], .slice a fs.length cap, .pointer (some ⟨w.heap.size, 0, none⟩), undef, .pointer (some ⟨w.heap.size + 1, 0, none⟩), .pointer (some ⟨w.heap.size + 2, 0, none⟩), .int .i64 0, .pointer (some ⟨w2.heap.size, 0, none⟩), .int .i64 ((x.1 : Nat) : Int), .pointer (some ⟨q, 0, none⟩), undef, undef, .agg #[.int .i64 P, .int .i64 C, .int .i64 G, .int .i64 O], .slice a fs.length cap, .int .i64 0, .int .i64 0, .bool false, undef, .slice a fs.length cap, .slice a2 n2 c2, .agg #[.int .i64 P, .int .i64 C, .int .i64 G, .int .i64 O], .slice a fs.length cap, .func (.func 55) #[] #[.pointer (some ⟨w2.heap.size + 2, 0, none⟩), .pointer (some ⟨w2.heap.size + 1, 0, none⟩)], .int .i64 ((x.1 : Nat) : Int), .agg #[.int .i64 P, .int .i64 C, .int .i64 G, .int .i64 O, .int .i64 (openL (fs.getD x.1 []))], undef, undef, undef, undef, undef, undef, undef, undef, undef, undef, undef, undef, undef, undef, undef, undef, undef, undef, undef, undef, undef], defers := [] } ∧ Blk W q #[.int .i64 P, .int .i64 C, .int .i64 G, .int .i64 O, .int .i64 (openL (fs.getD x.1 []))] 58)
    (fun x a' => Own.from (fun s A B row hs hg hr => by obtain ⟨q, h1, h2, h3⟩ := hs; exact ⟨q, h1, h2, h3.own hg hr⟩) _)
    ?assign ?body ?done ?stop
  case assign =>
    clear b4 b5 b7 bE bF bO k3 ST
    rintro l pre x W K ⟨⟨h4, h5, h7, he, hg, hok⟩, hB⟩ hK
    have ZH : Hid (Blk (W.alloc (.cells #[.int .i64 0, .int .i64 0, .int .i64 0, .int .i64 0, .int .i64 0] 58)) W.heap.size #[.int .i64 0, .int .i64 0, .int .i64 0, .int .i64 0, .int .i64 0] 58) := Blk.made _ _ _
    have KZ : Hid (Kpt W (W.alloc (.cells #[.int .i64 0, .int .i64 0, .int .i64 0, .int .i64 0, .int .i64 0] 58))) := (Kpt.refl W).alloc _
    have hq := he.lt
    generalize openL (fs.getD x.1 []) = U at hK ⊢
    gi_wp2_with (refine wpIn_storeH rfl (.tmp 9) (.tmp 24) rfl W.heap.size _ _ rfl rfl ZH.out rfl rfl (by simp [Value.oneCell']) ?_; intro w9 r9 k9 o9; have R9 := Lib.hid r9; have K9 : Hid (Kpt W w9) := Lib.hid (k9 _ _ KZ.out (Nat.le_refl _)); clear r9 k9 o9)
    exact hK _ _ ((kothers K9.out).from _) ⟨Below.mono K9.out hB.size, Below.block K9.out _ hq⟩ ⟨⟨h4.kpt K9.out, h5.kpt K9.out, h7.kpt K9.out, he.kpt K9.out, hg.kpt K9.out, hok⟩, hB.trans (Below.mono K9.out hB.size)⟩ ⟨_, hq, rfl, R9.out⟩
  case body =>
    clear b4 b5 b7 bE bF bO k3 ST
    rintro l pre x a' W hl - ⟨⟨h4, h5, h7, he, hg, hok⟩, hB⟩ ⟨q, hq, rfl, hh⟩ hlen
    have hlc : x.1 < (gro G O fs pre).length := by rw [gro_len]; exact x.2
    obtain ⟨g, cp, cur, hv, hge, hbk, hc6, -⟩ := hg.opened (by omega)
    rw [gro_len] at hv
    injection hv with v1 v2 v3
    subst v1 v2 v3
    have hU : 0 ≤ openL (fs.getD x.1 []) ∧ openL (fs.getD x.1 []) ≤ 1073741824 := openV_bd _ _ _ _ _ _ _ _ _ _
    obtain ⟨-, hC, hG, hO, -⟩ := evE_0 h1'
    have FA := Lib.hid (fun w => hfresh_run P C G O (openL (fs.getD x.1 [])) hG hO hU w)
    have i0 : (0 : Int) ≤ (x.1 : Int) := by omega
    have i1 : (x.1 : Int) < (fs.length : Int) := by have := x.2; omega
    have c6 : Hid (W.cell? ⟨g, x.1 * 10 + 6, none⟩ = some (.int .i64 (unL (gro G O fs pre) x.1))) := hc6 x.1 6 hlc (by omega)
    have GU := Lib.hid (gro_un G O fs pre x)
    have GS : Hid (∀ w4 : World, Kpt W w4 → OwnsN 10 49 (w4.setCell ⟨g, x.1 * 10 + 6, none⟩ (.int .i64 (IntKind.i64.wrap (unL (gro G O fs pre) x.1 + hoN G O (openL (fs.getD x.1 [])))))) w1.heap.size (.slice (some ⟨g, 0, none⟩) fs.length c2) (gro G O fs (pre ++ [x]))) := fun w4 k4 => by
      rw [gro_s]
      exact (hg.kpt k4).put hlc _
    have H4 := Lib.hid h4
    have H5 := Lib.hid h5
    have H7 := Lib.hid h7
    have HE := Lib.hid he
    have HH := Lib.hid hh
    have HBK := Lib.hid hbk
    have HB := Lib.hid hB
    have HOK := Lib.hid (gok_s hok x)
    have HX : Hid (∃ ini y, pre ++ [x] = ini ++ [y] ∧ unL (gro G O fs (pre ++ [x])) x.1 = unL (gro G O fs (ini ++ [y])) y.1) := ⟨pre, x, rfl, rfl⟩
    have n4 : g ≠ w.heap.size + 1 := Blk.apart hbk h4 (by decide)
    have n5 : g ≠ w.heap.size + 2 := Blk.apart hbk h5 (by decide)
    have n7 : g ≠ w2.heap.size := Blk.apart hbk h7 (by decide)
    have nE : g ≠ w2.heap.size + 1 := Blk.apart hbk he (by decide)
    clear h4 h5 h7 he hg hok hh hbk hc6 hU hC hG hO hB
    generalize hgx : gro G O fs (pre ++ [x]) = gx at GU GS HOK HX
    generalize unL (gro G O fs pre) x.1 = u at *
    generalize unL gx x.1 = ux at *
    generalize x.1 = k at *
    generalize openL (fs.getD k []) = U at *
    generalize hoN G O U = N at *
    generalize hoR G O U = R at *
    obtain ⟨z, m1⟩ : ∃ z, IntKind.i64.wrap (u + N) = z := ⟨_, rfl⟩
    rw [m1] at GU GS
    have hux := GU.out
    rw [hux] at HOK HX
    by_cases hz : 1073741824 < z
    · have z0 : decide ((1073741824 : Int) < z) = true := decide_eq_true hz
      gi_wp2_with (first
        | (refine wpIn_loadH rfl (.tmp 9) rfl q _ rfl HH.out rfl ?_)
        | (refine ⟨trivial, ?_⟩; gi_at_call 30; refine (CallsIn.inRound l (callsIn_wide.2 (FA.out _))).mono ?_; rintro e w4 ⟨rfl, k4⟩; have K4 : Hid (Kpt W w4) := Lib.hid k4; have y7 : World.cell? w4 ⟨w2.heap.size, 0, none⟩ = some (.slice (some ⟨g, 0, none⟩) fs.length c2) := Blk.cell (H7.out.kpt k4) 0; have y6 : World.cell? w4 ⟨g, k * 10 + 6, none⟩ = some (.int .i64 u) := Kpt.cell k4 c6.out; have f6 : World.frozen? w4 ⟨g, k * 10 + 6, none⟩ = false := Blk.frozen (HBK.out.kpt k4) _; have A7 := Lib.hid (Blk.away (H7.out.kpt k4) (p := ⟨g, k * 10 + 6, none⟩) (Ne.symm n7) (.int .i64 z)); have A4 := Lib.hid (Blk.away (H4.out.kpt k4) (p := ⟨g, k * 10 + 6, none⟩) (Ne.symm n4) (.int .i64 z)); have A5 := Lib.hid (Blk.away (H5.out.kpt k4) (p := ⟨g, k * 10 + 6, none⟩) (Ne.symm n5) (.int .i64 z)); have AE := Lib.hid (Blk.away (HE.out.kpt k4) (p := ⟨g, k * 10 + 6, none⟩) (Ne.symm nE) (.int .i64 z)); have z7 : World.cell? (w4.setCell ⟨g, k * 10 + 6, none⟩ (.int .i64 z)) ⟨w2.heap.size, 0, none⟩ = some (.slice (some ⟨g, 0, none⟩) fs.length c2) := A7.out.cell 0; have z4 : World.cell? (w4.setCell ⟨g, k * 10 + 6, none⟩ (.int .i64 z)) ⟨w.heap.size + 1, 0, none⟩ = some (.slice none 0 0) := A4.out.cell 0; have z5 : World.cell? (w4.setCell ⟨g, k * 10 + 6, none⟩ (.int .i64 z)) ⟨w.heap.size + 2, 0, none⟩ = some (.int .i64 0) := A5.out.cell 0; have g4 : World.frozen? (w4.setCell ⟨g, k * 10 + 6, none⟩ (.int .i64 z)) ⟨w.heap.size + 1, 0, none⟩ = false := A4.out.frozen 0; have g5 : World.frozen? (w4.setCell ⟨g, k * 10 + 6, none⟩ (.int .i64 z)) ⟨w.heap.size + 2, 0, none⟩ = false := A5.out.frozen 0; have z6 : World.cell? (w4.setCell ⟨g, k * 10 + 6, none⟩ (.int .i64 z)) ⟨g, k * 10 + 6, none⟩ = some (.int .i64 z) := World.cell?_setCell_same' _ _ _ (by rw [y6]; rfl); clear k4))
      have P4 := (A4.out.put 0 (.slice none 0 0)).away (p := ⟨w.heap.size + 2, 0, none⟩) (by show w.heap.size + 1 ≠ w.heap.size + 2; omega) (.int .i64 8)
      have P5 := (A5.out.away (p := ⟨w.heap.size + 1, 0, none⟩) (by show w.heap.size + 2 ≠ w.heap.size + 1; omega) (.slice none 0 0)).put 0 (.int .i64 8)
      obtain ⟨ini, y, e1, e2⟩ := HX.out
      exact ⟨((((kothers K4.out).trans (KeepsOthers.setCell _ _ _)).trans (KeepsOthers.setCell _ _ _)).trans (KeepsOthers.setCell _ _ _)).from _, ⟨rfl, P4, P5, ini, y, e1, by rw [← e2]; exact hz⟩,
        (((HB.out.trans (Below.mono K4.out HB.out.size)).setCell (p := ⟨g, k * 10 + 6, none⟩) (by show w.heap.size ≤ g; omega) _).setCell (p := ⟨w.heap.size + 1, 0, none⟩) (by show w.heap.size ≤ w.heap.size + 1; omega) _).setCell (p := ⟨w.heap.size + 2, 0, none⟩) (by show w.heap.size ≤ w.heap.size + 2; omega) _⟩
    · have z0 : decide ((1073741824 : Int) < z) = false := decide_eq_false hz
      gi_wp2_with (first
        | (refine wpIn_loadH rfl (.tmp 9) rfl q _ rfl HH.out rfl ?_)
        | (refine ⟨trivial, ?_⟩; gi_at_call 30; refine (CallsIn.inRound l (callsIn_wide.2 (FA.out _))).mono ?_; rintro e w4 ⟨rfl, k4⟩; have K4 : Hid (Kpt W w4) := Lib.hid k4; have y7 : World.cell? w4 ⟨w2.heap.size, 0, none⟩ = some (.slice (some ⟨g, 0, none⟩) fs.length c2) := Blk.cell (H7.out.kpt k4) 0; have y6 : World.cell? w4 ⟨g, k * 10 + 6, none⟩ = some (.int .i64 u) := Kpt.cell k4 c6.out; have f6 : World.frozen? w4 ⟨g, k * 10 + 6, none⟩ = false := Blk.frozen (HBK.out.kpt k4) _; have A7 := Lib.hid (Blk.away (H7.out.kpt k4) (p := ⟨g, k * 10 + 6, none⟩) (Ne.symm n7) (.int .i64 z)); have A4 := Lib.hid (Blk.away (H4.out.kpt k4) (p := ⟨g, k * 10 + 6, none⟩) (Ne.symm n4) (.int .i64 z)); have A5 := Lib.hid (Blk.away (H5.out.kpt k4) (p := ⟨g, k * 10 + 6, none⟩) (Ne.symm n5) (.int .i64 z)); have AE := Lib.hid (Blk.away (HE.out.kpt k4) (p := ⟨g, k * 10 + 6, none⟩) (Ne.symm nE) (.int .i64 z)); have z7 : World.cell? (w4.setCell ⟨g, k * 10 + 6, none⟩ (.int .i64 z)) ⟨w2.heap.size, 0, none⟩ = some (.slice (some ⟨g, 0, none⟩) fs.length c2) := A7.out.cell 0; have z4 : World.cell? (w4.setCell ⟨g, k * 10 + 6, none⟩ (.int .i64 z)) ⟨w.heap.size + 1, 0, none⟩ = some (.slice none 0 0) := A4.out.cell 0; have z5 : World.cell? (w4.setCell ⟨g, k * 10 + 6, none⟩ (.int .i64 z)) ⟨w.heap.size + 2, 0, none⟩ = some (.int .i64 0) := A5.out.cell 0; have g4 : World.frozen? (w4.setCell ⟨g, k * 10 + 6, none⟩ (.int .i64 z)) ⟨w.heap.size + 1, 0, none⟩ = false := A4.out.frozen 0; have g5 : World.frozen? (w4.setCell ⟨g, k * 10 + 6, none⟩ (.int .i64 z)) ⟨w.heap.size + 2, 0, none⟩ = false := A5.out.frozen 0; have z6 : World.cell? (w4.setCell ⟨g, k * 10 + 6, none⟩ (.int .i64 z)) ⟨g, k * 10 + 6, none⟩ = some (.int .i64 z) := World.cell?_setCell_same' _ _ _ (by rw [y6]; rfl); clear k4))
      exact ⟨((kothers K4.out).trans (KeepsOthers.setCell _ _ _)).from _, ⟨(Below.mono K4.out HB.out.size).setCell (p := ⟨g, k * 10 + 6, none⟩) (by show w.heap.size ≤ g; omega) _, AE.out.trans HE.out.symm⟩, ⟨A4.out, A5.out, A7.out, AE.out, (by rw [hgx]; exact GS.out _ K4.out), HOK.out (by omega)⟩, (HB.out.trans (Below.mono K4.out HB.out.size)).setCell (p := ⟨g, k * 10 + 6, none⟩) (by show w.heap.size ≤ g; omega) _⟩
  case done =>
    clear b4 b5 b7 bE bF bO k3 ST
    rintro D ys W hD rfl ⟨⟨h4, h5, h7, he, hg, hok⟩, hB⟩ hK
    have c7 : W.cell? ⟨w2.heap.size, 0, none⟩ = some (.slice a2 n2 c2) := h7.cell 0
    have c4 : W.cell? ⟨w.heap.size + 1, 0, none⟩ = some (.slice none 0 0) := h4.cell 0
    have c5 : W.cell? ⟨w.heap.size + 2, 0, none⟩ = some (.int .i64 0) := h5.cell 0
    have f4 := h4.frozen 0
    have f5 := h5.frozen 0
    have H4 := Lib.hid h4
    have H5 := Lib.hid h5
    have HG := Lib.hid hg
    have HO := Lib.hid hok
    have HB := Lib.hid hB
    have HK := Lib.hid hK
    clear h4 h5 h7 he hg hok hB hK
    gi_wp2
    have P4 := (H4.out.put 0 (.slice a2 n2 c2)).away (p := ⟨w.heap.size + 2, 0, none⟩) (by show w.heap.size + 1 ≠ w.heap.size + 2; omega) (.int .i64 0)
    have P5 := (H5.out.away (p := ⟨w.heap.size + 1, 0, none⟩) (by show w.heap.size + 2 ≠ w.heap.size + 1; omega) (.slice a2 n2 c2)).put 0 (.int .i64 0)
    have PG := (HG.out.away H4.out (by decide) 0 (.slice a2 n2 c2)).away (H5.out.away (p := ⟨w.heap.size + 1, 0, none⟩) (by show w.heap.size + 2 ≠ w.heap.size + 1; omega) (.slice a2 n2 c2)) (by decide) 0 (.int .i64 0)
    have PB := (HB.out.setCell (p := ⟨w.heap.size + 1, 0, none⟩) (by show w.heap.size ≤ w.heap.size + 1; omega) (.slice a2 n2 c2)).setCell (p := ⟨w.heap.size + 2, 0, none⟩) (by show w.heap.size ≤ w.heap.size + 2; omega) (.int .i64 0)
    have hK2 : ((W.setCell ⟨w.heap.size + 1, 0, none⟩ (.slice a2 n2 c2)).setCell ⟨w.heap.size + 2, 0, none⟩ (.int .i64 0)).heap[D]? = some (.deferred (some [])) := by
      rw [Below.heap_setCell _ _ _ _ (by show D ≠ w.heap.size + 2; omega), Below.heap_setCell _ _ _ _ (by show D ≠ w.heap.size + 1; omega)]
      exact HK.out
    have Q4 := P4.own (grownBy_putObj' _ D (.deferred none)) (fun r e => by cases e; exact ⟨_, hK2, rfl⟩)
    have Q5 := P5.own (grownBy_putObj' _ D (.deferred none)) (fun r e => by cases e; exact ⟨_, hK2, rfl⟩)
    have QG := PG.own (grownBy_putObj' _ D (.deferred none)) (fun r e => by cases e; exact ⟨_, hK2, rfl⟩)
    refine ⟨by simp, .inl ⟨_, _, rfl, run_takeDeferred hK2, ?_⟩⟩
    refine ⟨_, results_cc rfl _ _ _ _ _ _ rfl rfl (Q4.cell 0) (Q5.cell 0), PB.trans (belowK_b (w := w) (Nat.le_refl _) _ D _ _ (by omega) hK2 rfl rfl), .inl ⟨_, rfl, ⟨QG.1, ?_⟩, HO.out⟩⟩
    rcases QG.2 with h | ⟨k, cap, cur, e, hk, r⟩
    · exact .inl h
    · exact .inr ⟨k, cap, cur, e, by omega, r⟩
  case stop =>
    clear b4 b5 b7 bE bF bO k3 ST
    rintro D c pre W hD hp ⟨⟨rfl, h4, h5, ini, x, rfl, hx⟩, hB⟩ hK
    have H4 := h4.own (grownBy_putObj' W D (.deferred none)) (fun r e => by cases e; exact ⟨_, hK, rfl⟩)
    have H5 := h5.own (grownBy_putObj' W D (.deferred none)) (fun r e => by cases e; exact ⟨_, hK, rfl⟩)
    gi_wp2
    refine ⟨by simp, .inl ⟨_, _, rfl, run_takeDeferred hK, ?_⟩⟩
    refine ⟨_, results_cc rfl _ _ _ _ _ _ rfl rfl (H4.cell 0) (H5.cell 0), hB.trans (belowK_b (w := w) (Nat.le_refl _) W D _ _ (by omega) hK rfl rfl), .inr ⟨rfl, ini, x, hp, hx⟩⟩

end Go.Proofs.Ytklaojahocjeiaa
