/-
  Merged: RowN, FlOwn, CloneF.
-/
import Derived.Test.YthaahebggboliaaGreatTrip
import Derived.Test.YthaahebggboliaaGreatOwn
import Derived.Test.YthaahebggboliaaGreatMf2
-- RowN
namespace Go.Proofs.YthaahebggboliaaGreat
open Go.RowKit
set_option linter.unusedVariables false

/-- the cells of one element, and of a list of them; an element is told as a list of ints -/
def rowN (N : Nat) (l : List Int) : List Value := (List.range N).map fun j => Value.int .i64 (l.getD j 0)
def flatN (N : Nat) (fs : List (List Int)) : List Value := fs.flatMap (rowN N)
theorem rowN_len (N : Nat) (l : List Int) : (rowN N l).length = N := by simp [rowN]
theorem rowN_at {N j : Nat} (l : List Int) (h : j < N) : (rowN N l)[j]? = some (.int .i64 (l.getD j 0)) := by
  unfold rowN; rw [List.getElem?_map, List.getElem?_range h]; rfl
theorem flatN_len (N : Nat) (fs : List (List Int)) : (flatN N fs).length = fs.length * N := by
  induction fs with
  | nil => simp [flatN]
  | cons p l ih => unfold flatN at *; rw [List.flatMap_cons, List.length_append, ih, rowN_len, List.length_cons, Nat.succ_mul]; omega
theorem flatN_append (N : Nat) (fs gs : List (List Int)) : flatN N (fs ++ gs) = flatN N fs ++ flatN N gs := List.flatMap_append
theorem flatN_one (N : Nat) (fs : List (List Int)) : ∀ u ∈ flatN N fs, u.oneCell' = true := by
  intro u hu
  obtain ⟨p, _, hp⟩ := List.mem_flatMap.1 hu
  obtain ⟨j, _, rfl⟩ := List.mem_map.1 hp
  rfl
theorem flatN_at {N : Nat} (fs : List (List Int)) (k j : Nat) (hk : k < fs.length) (hj : j < N) : (flatN N fs)[k * N + j]? = some (.int .i64 ((fs.getD k []).getD j 0)) := by
  induction fs generalizing k with
  | nil => simp at hk
  | cons p l ih =>
    have e : flatN N (p :: l) = rowN N p ++ flatN N l := by unfold flatN; rw [List.flatMap_cons]
    rw [e]
    cases k with
    | zero =>
      rw [List.getElem?_append_left (by rw [rowN_len]; omega), Nat.zero_mul, Nat.zero_add, rowN_at p hj]; rfl
    | succ k =>
      have hk' : k < l.length := by simpa using hk
      rw [List.getElem?_append_right (by rw [rowN_len, Nat.succ_mul]; omega), rowN_len, Nat.succ_mul, show k * N + N + j - N = k * N + j by omega, ih k hk']
      rfl

/-- the slice v is the call's own, from block 'base' on, and holds these elements; T is their type -/
def OwnsN (N : Nat) (T : TypeId) (w : World) (base : Nat) (v : Value) (fs : List (List Int)) : Prop := w.ownsRow base T N v fs.length (flatN N fs)
theorem OwnsN.nil (N : Nat) (T : TypeId) (w : World) (base : Nat) : OwnsN N T w base (.slice none 0 0) [] := ⟨by simp [flatN], .inl ⟨rfl, rfl⟩⟩
theorem OwnsN.ge {N : Nat} {T : TypeId} {w : World} {base : Nat} {v : Value} {fs : List (List Int)} (h : OwnsN N T w base v fs) : ∀ k, v.ownBlock = some k → base ≤ k := by
  intro k hk
  rcases h.2 with ⟨rfl, _⟩ | ⟨g, cap, cur, rfl, hg, _⟩
  · simp [Value.ownBlock] at hk
  · simp [Value.ownBlock] at hk; omega
theorem OwnsN.block_lt {N : Nat} {T : TypeId} {w : World} {base : Nat} {v : Value} {fs : List (List Int)} (h : OwnsN N T w base v fs) : ∀ k, v.ownBlock = some k → k < w.heap.size := by
  intro k hk
  rcases h.2 with ⟨rfl, _⟩ | ⟨g, cap, cur, rfl, hg, hh, _⟩
  · simp [Value.ownBlock] at hk
  · simp [Value.ownBlock] at hk; subst hk; exact heap_lt hh
theorem OwnsN.kpt {N : Nat} {T : TypeId} {w w' : World} {base : Nat} {v : Value} {fs : List (List Int)} (h : OwnsN N T w base v fs) (g : Kpt w w') : OwnsN N T w' base v fs := by
  obtain ⟨h1, h2⟩ := h
  refine ⟨h1, ?_⟩
  rcases h2 with h2 | ⟨k, cap, cur, e, hk, hh, r⟩
  · exact .inl h2
  · exact .inr ⟨k, cap, cur, e, hk, (Below.block g k (Array.getElem?_eq_some_iff.1 hh).1).trans hh, r⟩
theorem OwnsN.alloc {N : Nat} {T : TypeId} {w : World} {base : Nat} {v : Value} {fs : List (List Int)} (h : OwnsN N T w base v fs) (o : Obj) : OwnsN N T (w.alloc o) base v fs := h.kpt ((Kpt.refl w).alloc o)
theorem OwnsN.form {N : Nat} {T : TypeId} {w : World} {B : Nat} {v : Value} {fs : List (List Int)} (h : OwnsN N T w B v fs) : ∃ a n cap, v = .slice a n cap ∧ Hid (n = fs.length) := by
  rcases h.2 with ⟨rfl, hn⟩ | ⟨g, cap, cur, rfl, _⟩
  · exact ⟨_, _, _, rfl, hn.symm⟩
  · exact ⟨_, _, _, rfl, rfl⟩
/-- its cells -/
theorem OwnsN.cells {N : Nat} {T : TypeId} {w : World} {B : Nat} {v : Value} {fs : List (List Int)} (h : OwnsN N T w B v fs) : ∃ a cap, v = .slice a fs.length cap ∧ fs.length ≤ maxLen ∧ ∀ k, k < fs.length → ∃ g, a = some ⟨g, 0, none⟩ ∧ ∀ j, j < N → w.cell? ⟨g, k * N + j, none⟩ = some (.int .i64 ((fs.getD k []).getD j 0)) := by
  rcases h.2 with ⟨rfl, hn⟩ | ⟨g, cap, cur, rfl, hg, hh, hn, hm, hs, ht⟩
  · refine ⟨none, 0, by rw [hn], by rw [hn]; exact Nat.zero_le _, fun k hk => by omega⟩
  · refine ⟨_, cap, rfl, Nat.le_trans hn hm, fun k hk => ⟨g, rfl, fun j hj => ?_⟩⟩
    have hlt : k * N + j < fs.length * N := by
      have : (k + 1) * N ≤ fs.length * N := Nat.mul_le_mul_right N hk
      rw [Nat.succ_mul] at this; omega
    rw [cell_of_row w g (k * N + j) cur _ (0, 0) hh, ← flatN_at fs k j hk hj, ← ht, List.getElem?_take_of_lt hlt, ← Array.getElem?_toList]

theorem OwnsN.other {N : Nat} {T : TypeId} {w w' : World} {base : Nat} {u : Value} {fs : List (List Int)} {row : Option Nat} (h : OwnsN N T w base u fs) (g : w.grownBy w' row) (hr : u.ownBlock = none ∨ u.ownBlock ≠ row) : OwnsN N T w' base u fs := by
  obtain ⟨h1, h2⟩ := h
  refine ⟨h1, ?_⟩
  rcases h2 with h2 | ⟨k, cap, cur, rfl, hk, hh, r⟩
  · exact .inl h2
  · refine .inr ⟨k, cap, cur, rfl, hk, (g.block k (heap_lt hh) ?_).trans hh, r⟩
    rcases hr with hr | hr
    · simp [Value.ownBlock] at hr
    · simpa [Value.ownBlock] using hr

end Go.Proofs.YthaahebggboliaaGreat

-- FlOwn
namespace Go.Proofs.YthaahebggboliaaGreat
open Go.RowKit
set_option linter.unusedVariables false

theorem Tryz.infoFail : (Tryz.prog.info? 42).map (fun i => (i.zero, i.size, i.bytes)) = some (some (.agg #[.int .i64 0, .int .i64 0, .int .i64 0, .int .i64 0, .int .i64 0, .int .i64 0, .int .i64 0, .int .i64 0, .int .i64 0, .int .i64 0]), 10, 80) := by kernel_rfl
theorem OwnsN.readsF {T : TypeId} {w : World} {base : Nat} {v : Value} {fs : List (List Int)} (h : OwnsN 10 T w base v fs) (hb : ∀ l ∈ fs, FlB l) : ReadsF w v fs := by
  obtain ⟨a, cap, rfl, hm, hc⟩ := h.cells
  refine ⟨a, cap, rfl, hm, hb, fun k hk => ?_⟩
  obtain ⟨g, rfl, h'⟩ := hc k hk
  exact ⟨g, 0, rfl, fun j hj => by rw [Nat.zero_add]; exact h' j hj⟩
theorem wp_appendFl {ops : Array Oper} {rest : List Oper} {o : Oper} {a : Act} {Q : Exit → Act → World → Prop} (hgd : o.guard = none) (s x : Operand)
    (ho : o.op = .call { callee := .builtin .append, args := #[s, x], argTypes := #[28, 28] })
    (base : Nat) (v : Value) (fs : List (List Int)) (l : List Int) (z0 z1 z2 z3 z4 z5 z6 z7 z8 z9 : Int) (w : World) (hs : a.eval s = v) (hown : OwnsN 10 42 w base v fs) (hx : a.eval x = .slice (some ⟨w.heap.size, 0, none⟩) 1 1)
    (hl : rowN 10 l = [.int .i64 z0, .int .i64 z1, .int .i64 z2, .int .i64 z3, .int .i64 z4, .int .i64 z5, .int .i64 z6, .int .i64 z7, .int .i64 z8, .int .i64 z9])
    (hlen : fs.length + 1 ≤ 100000) (hbase : base ≤ w.heap.size)
    (h : ∀ v' w', OwnsN 10 42 w' base v' (fs ++ [l]) → Below base w w' → wpList Tryz.prog ops Q rest (a.put o.dst v') w') : wpList Tryz.prog ops Q (o :: rest) a (w.alloc (.cells #[.int .i64 z0, .int .i64 z1, .int .i64 z2, .int .i64 z3, .int .i64 z4, .int .i64 z5, .int .i64 z6, .int .i64 z7, .int .i64 z8, .int .i64 z9] 42)) := by
  obtain ⟨i0, hi, hz0, hz1, hz2⟩ := info_parts Tryz.infoFail
  refine wpList_append_lies _ hgd s x 28 ho base 42 i0 _ 10 80 Tryz.underlying28 hi hz0 hz1 hz2 rfl (by decide) v _ _ hs (hown.alloc _) ⟨w.heap.size, 0, none⟩ 1 1 (rowN 10 l) hx (rowN_len 10 l) (by rw [hl]; exact World.news_of_block (heap_alloc_new w _)) ?_ (by decide) ?_ ?_ ?_ (w.heap.size + 1) (by simp) ?_
  · intro u hu
    obtain ⟨j, _, rfl⟩ := List.mem_map.1 hu
    rfl
  · unfold maxLen; omega
  · omega
  · rw [World.size_alloc]; omega
  · intro g cap w' h1 h2 h3 h4
    refine h _ w' ?_ ?_
    · unfold OwnsN
      rw [List.length_append, flatN_append]
      have : flatN 10 [l] = rowN 10 l := by simp [flatN]
      rw [this]
      exact h1
    · exact ((Below.refl base w).alloc hbase _).grown h2 (by rw [World.size_alloc]; omega) hown.ge

end Go.Proofs.YthaahebggboliaaGreat

-- CloneF
namespace Go.Proofs.YthaahebggboliaaGreat
open Go.RowKit
set_option linter.unusedVariables false
set_option maxRecDepth 100000

theorem OwnsN.empty (N : Nat) (T : TypeId) (w : World) (B : Nat) (h : B ≤ w.heap.size) : OwnsN N T (w.alloc (.cells #[] T)) B (.slice (some ⟨w.heap.size, 0, none⟩) 0 0) [] :=
  ⟨by simp [flatN], .inr ⟨w.heap.size, 0, #[], rfl, h, heap_alloc_new w _, Nat.le_refl _, Nat.zero_le _, by simp, by simp [flatN]⟩⟩
theorem wp_appendFs {ops : Array Oper} {rest : List Oper} {o : Oper} {a : Act} {Q : Exit → Act → World → Prop} (hgd : o.guard = none) (s x : Operand)
    (ho : o.op = .call { callee := .builtin .append, args := #[s, x], argTypes := #[28, 28] })
    (base : Nat) (v : Value) (fs gs : List (List Int)) (g off cap : Nat) (w : World) (hs : a.eval s = v) (hown : OwnsN 10 42 w base v fs) (hx : a.eval x = .slice (some ⟨g, off, none⟩) gs.length cap) (hr : ReadsF w (.slice (some ⟨g, off, none⟩) gs.length cap) gs)
    (hlen : fs.length + gs.length ≤ 100000) (hbase : base ≤ w.heap.size)
    (h : ∀ v' w', OwnsN 10 42 w' base v' (fs ++ gs) → Below base w w' → wpList Tryz.prog ops Q rest (a.put o.dst v') w') : wpList Tryz.prog ops Q (o :: rest) a w := by
  obtain ⟨i0, hi, hz0, hz1, hz2⟩ := info_parts Tryz.infoFail
  obtain ⟨ad, cap', e, hm, hb, hc⟩ := hr
  injection e with e1 _ e3
  subst e1 e3
  refine wpList_append_own _ hgd s x 28 ho base 42 i0 _ 10 80 Tryz.underlying28 hi hz0 hz1 hz2 rfl (by decide) v _ _ hs hown ⟨g, off, none⟩ gs.length cap (flatN 10 gs) hx (flatN_len 10 gs) ?_ (flatN_one 10 gs) ?_ ?_ hbase ?_
  · intro j u hu
    have hj : j < gs.length * 10 := by
      have := (List.getElem?_eq_some_iff.1 hu).1
      rwa [flatN_len] at this
    obtain ⟨q, r, hr, rfl⟩ : ∃ q r, r < 10 ∧ j = q * 10 + r := ⟨j / 10, j % 10, by omega, by omega⟩
    have hq : q < gs.length := by omega
    obtain ⟨g', off', e, h1⟩ := hc q hq
    have e' := Option.some.inj e
    injection e' with e1 e2 _
    subst e1 e2
    have ea : (⟨g, off, none⟩ : Addr).add (q * 10 + r) = ⟨g, off + q * 10 + r, none⟩ := by simp [Addr.add, Nat.add_assoc]
    rw [ea]
    rw [flatN_at gs q r hq hr] at hu
    rw [← hu]
    exact h1 r hr
  · unfold maxLen; omega
  · omega
  · intro v' w' h1 h2 _
    refine h v' w' ?_ ((Below.refl base w).grown h2 hbase hown.ge)
    unfold OwnsN
    rw [List.length_append, flatN_append]
    exact h1
theorem eqF_nil (w : World) : (binOp .eql 28 (.slice none 0 0) (.slice none 0 0)).run Tryz.prog w = .ok (.bool true) w := by kernel_rfl
theorem eqF_some (x : Addr) (n cap : Nat) (w : World) : (binOp .eql 28 (.slice (some x) n cap) (.slice none 0 0)).run Tryz.prog w = .ok (.bool false) w := by kernel_rfl
theorem cloneF_nil (w : World) : Calls Tryz.prog 85 #[.slice none 0 0] w fun e w' => e = .returned (.slice none 0 0) ∧ w' = w := by
  have q := eqF_nil
  go_enter Tryz.func85, Tryz.ntmps85
  go_wp2
  go_ret
  exact ⟨rfl, rfl⟩
theorem cloneF_some (g off cap : Nat) (fs : List (List Int)) (w : World) (hr : ReadsF w (.slice (some ⟨g, off, none⟩) fs.length cap) fs) (hm : fs.length ≤ 60) :
    Calls Tryz.prog 85 #[.slice (some ⟨g, off, none⟩) fs.length cap] w fun e w' => ∃ v, e = .returned v ∧ OwnsN 10 42 w' w.heap.size v fs ∧ Kpt w w' := by
  have k1 : Hid (Kpt w (w.alloc (.cells #[] 42))) := (Kpt.refl w).alloc _
  have HR := Lib.hid (hr.kpt k1.out)
  have O0 := Lib.hid (OwnsN.empty 10 42 w w.heap.size (Nat.le_refl _))
  have LN : Hid (([] : List (List Int)).length + fs.length ≤ 100000) := by unfold Hid; rw [List.length_nil]; omega
  have BN : Hid (w.heap.size ≤ (w.alloc (.cells #[] 42)).heap.size) := by unfold Hid; rw [World.size_alloc]; omega
  clear hr
  have q := fun w => eqF_some ⟨g, off, none⟩ fs.length cap w
  go_enter Tryz.func85, Tryz.ntmps85
  go_wp2_with (at_builtin; refine wp_appendFs rfl (.tmp 5) (.tmp 6) rfl w.heap.size _ [] fs g off cap _ rfl O0.out rfl HR.out LN.out BN.out ?_; intro v' w' h1 h2; have H1 := Lib.hid h1; have H2 := Lib.hid h2; clear h1 h2)
  go_ret
  exact ⟨_, rfl, H1.out, k1.out.trans H2.out⟩
theorem cloneF_zero (x : Addr) (cap : Nat) (w : World) : Calls Tryz.prog 85 #[.slice (some x) 0 cap] w fun e w' => ∃ v, e = .returned v ∧ OwnsN 10 42 w' w.heap.size v [] ∧ Kpt w w' := by
  have O0 := Lib.hid (OwnsN.empty 10 42 w w.heap.size (Nat.le_refl _))
  have k1 : Hid (Kpt w (w.alloc (.cells #[] 42))) := (Kpt.refl w).alloc _
  have q := fun w => eqF_some x 0 cap w
  have L0 : ∀ w : World, (loadCellsFrom x 0 0 #[]).run Tryz.prog w = .ok #[] w := fun w => rfl
  have S0 : ∀ w : World, (storeCells ⟨w.heap.size, 0, none⟩ []).run Tryz.prog w = .ok () w := fun w => rfl
  have S1 : (storeCells ⟨w.heap.size, 0, none⟩ []).run Tryz.prog (w.alloc (.cells #[] 42)) = .ok () (w.alloc (.cells #[] 42)) := rfl
  go_enter Tryz.func85, Tryz.ntmps85
  go_wp2
  go_ret
  exact ⟨_, rfl, O0.out, k1.out⟩

theorem cloneF_any (a : Option Addr) (cap : Nat) (fs : List (List Int)) (w : World) (hr : ReadsF w (.slice a fs.length cap) fs) (hm : fs.length ≤ 60) (hn : a = none → cap = 0) :
    Calls Tryz.prog 85 #[.slice a fs.length cap] w fun e w' => ∃ v, e = .returned v ∧ OwnsN 10 42 w' w.heap.size v fs ∧ Kpt w w' := by
  rcases a with _ | x
  · obtain rfl := hn rfl
    have h0 : fs = [] := by
      obtain ⟨a', cap', e, _, _, hc⟩ := hr
      injection e with e1 _ _
      cases fs with
      | nil => rfl
      | cons l t => obtain ⟨g, off, e', _⟩ := hc 0 (by simp); rw [← e1] at e'; cases e'
    subst h0
    refine (cloneF_nil w).mono ?_
    rintro e w' ⟨rfl, rfl⟩
    exact ⟨_, rfl, OwnsN.nil _ _ _ _, Kpt.refl _⟩
  · cases fs with
    | nil => exact cloneF_zero x cap w
    | cons l t =>
      have hr2 := hr
      obtain ⟨a', cap', e, _, _, hc⟩ := hr
      injection e with e1 _ _
      obtain ⟨g, off, e', _⟩ := hc 0 (by simp)
      rw [← e1] at e'
      injection e' with e'
      subst e'
      exact cloneF_some g off cap _ w hr2 hm

end Go.Proofs.YthaahebggboliaaGreat
