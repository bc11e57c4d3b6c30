/-
  Triples of ints in memory: slices of structs of three ints that read as lists; such slices of the call's own.
-/
import Derived.Test.YtgccipmeiceonaaBlk
import Derived.Test.YtgccipmeiceonaaKept
import Derived.Laws.AppendOwnNone
import Derived.Deep.AppendLies
import Derived.Laws.IdiomCopy
namespace Go.Proofs.Ytgccipmeiceonaa
open Go.RowKit
set_option linter.unusedVariables false

/-- a posting lies at this address -/
def PtAt (w : World) (b off : Nat) (p : Int × Int × Int) : Prop := w.cell? ⟨b, off, none⟩ = some (.int .i64 p.1) ∧ w.cell? ⟨b, off + 1, none⟩ = some (.int .i64 p.2.1) ∧ w.cell? ⟨b, off + 2, none⟩ = some (.int .i64 p.2.2)
/-- the slice value v reads as these postings -/
def ReadsP (w : World) (v : Value) (ps : List (Int × Int × Int)) : Prop :=
  ∃ (a : Option Addr) (cap : Nat), v = .slice a ps.length cap ∧ (a = none → cap = 0) ∧ ps.length ≤ maxLen ∧ (∀ p ∈ ps, (-9223372036854775808 ≤ p.1 ∧ p.1 ≤ 9223372036854775807) ∧ (-9223372036854775808 ≤ p.2.1 ∧ p.2.1 ≤ 9223372036854775807) ∧ -9223372036854775808 ≤ p.2.2 ∧ p.2.2 ≤ 9223372036854775807) ∧ ∀ j, j < ps.length → ∃ b off, a = some ⟨b, off, none⟩ ∧ PtAt w b (off + j * 3) (ps.getD j default)
theorem PtAt.grew {w w' : World} {b off : Nat} {p : Int × Int × Int} (h : PtAt w b off p) (g : Grew w w') : PtAt w' b off p :=
  ⟨g.cell (cell_in h.1) h.1, g.cell (cell_in h.2.1) h.2.1, g.cell (cell_in h.2.2) h.2.2⟩
theorem ReadsP.grew {w w' : World} {v : Value} {ps : List (Int × Int × Int)} (h : ReadsP w v ps) (g : Grew w w') : ReadsP w' v ps := by
  obtain ⟨a, cap, rfl, hn, hm, hb, hc⟩ := h
  refine ⟨a, cap, rfl, hn, hm, hb, fun j hj => ?_⟩
  obtain ⟨b, off, rfl, h'⟩ := hc j hj
  exact ⟨b, off, rfl, h'.grew g⟩
theorem ReadsP.len {w : World} {v : Value} {ps : List (Int × Int × Int)} (h : ReadsP w v ps) : ps.length ≤ maxLen := by
  obtain ⟨a, cap, rfl, hn, hm, hc⟩ := h; exact hm
theorem ReadsP.slice {w : World} {a : Option Addr} {n cap : Nat} {ps : List (Int × Int × Int)} (h : ReadsP w (.slice a n cap) ps) : ps.length = n := by
  obtain ⟨a', cap', e, -⟩ := h
  simp only [Value.slice.injEq] at e
  exact e.2.1.symm
theorem readsP_nil (w : World) (a : Option Addr) (cap : Nat) (h : a = none → cap = 0) : ReadsP w (.slice a 0 cap) [] := ⟨a, cap, rfl, h, Nat.zero_le _, by simp, fun j hj => absurd hj (Nat.not_lt_zero j)⟩
/-- nothing in it, or cells that are known -/
theorem ReadsP.cell {w : World} {v : Value} {ps : List (Int × Int × Int)} (h : ReadsP w v ps) : (ps = [] ∧ ∃ a cap, v = .slice a 0 cap) ∨ (0 < ps.length ∧ ∃ b off cap, v = .slice (some ⟨b, off, none⟩) ps.length cap ∧ ∀ j, j < ps.length → PtAt w b (off + j * 3) (ps.getD j default)) := by
  obtain ⟨a, cap, rfl, hn, hm, hb, hc⟩ := h
  by_cases h0 : ps = []
  · subst h0; exact .inl ⟨rfl, a, cap, rfl⟩
  · have hp : 0 < ps.length := by cases ps <;> simp at h0 ⊢
    obtain ⟨b, off, rfl, -⟩ := hc 0 hp
    refine .inr ⟨hp, b, off, cap, rfl, fun j hj => ?_⟩
    obtain ⟨b', off', e, h'⟩ := hc j hj
    simp only [Option.some.injEq, Addr.mk.injEq] at e
    obtain ⟨rfl, rfl, -⟩ := e
    exact h'
theorem ReadsP.fits {w : World} {v : Value} {ps : List (Int × Int × Int)} (h : ReadsP w v ps) : ∀ p ∈ ps, (-9223372036854775808 ≤ p.1 ∧ p.1 ≤ 9223372036854775807) ∧ (-9223372036854775808 ≤ p.2.1 ∧ p.2.1 ≤ 9223372036854775807) ∧ -9223372036854775808 ≤ p.2.2 ∧ p.2.2 ≤ 9223372036854775807 := by
  obtain ⟨a, cap, rfl, hn, hm, hb, hc⟩ := h; exact hb

theorem ReadsP.kpt {w w' : World} {v : Value} {ps : List (Int × Int × Int)} (h : ReadsP w v ps) (g : Kpt w w') : ReadsP w' v ps := by
  obtain ⟨a, cap, rfl, hn, hm, hb, hc⟩ := h
  refine ⟨a, cap, rfl, hn, hm, hb, fun j hj => ?_⟩
  obtain ⟨b, off, rfl, h1, h2, h3⟩ := hc j hj
  exact ⟨b, off, rfl, g.cell h1, g.cell h2, g.cell h3⟩

theorem PtAt.kpt {w w' : World} {b off : Nat} {p : Int × Int × Int} (h : PtAt w b off p) (g : Kpt w w') : PtAt w' b off p := ⟨g.cell h.1, g.cell h.2.1, g.cell h.2.2⟩
theorem Blk.kpt {w w' : World} {g : Nat} {cs : Array Value} {T : TypeId} (h : Blk w g cs T) (k : Kpt w w') : Blk w' g cs T := h.below k h.lt
theorem Kpt.setCell {w w' : World} (h : Kpt w w') {p : Addr} (hp : w.heap.size ≤ p.block) (v : Value) : Kpt w (w'.setCell p v) := Below.setCell h hp v

theorem getP_mem {ps : List (Int × Int × Int)} {k : Nat} (hk : k < ps.length) : ps.getD k default ∈ ps := by
  rw [List.getD_eq_getElem?_getD, List.getElem?_eq_getElem hk]; simp
/-- the cells of postings -/
def flatP (ps : List (Int × Int × Int)) : List Value := ps.flatMap fun p => [.int .i64 p.1, .int .i64 p.2.1, .int .i64 p.2.2]
theorem flatP_len (ps : List (Int × Int × Int)) : (flatP ps).length = ps.length * 3 := by
  induction ps with
  | nil => rfl
  | cons p l ih => unfold flatP at *; simp only [List.flatMap_cons, List.length_append, ih, List.length_cons, List.length_nil]; omega
theorem flatP_append (ps qs : List (Int × Int × Int)) : flatP (ps ++ qs) = flatP ps ++ flatP qs := List.flatMap_append
theorem flatP_one (ps : List (Int × Int × Int)) : ∀ u ∈ flatP ps, u.oneCell' = true := by
  intro u hu
  obtain ⟨p, _, hp⟩ := List.mem_flatMap.1 hu
  simp only [List.mem_cons, List.not_mem_nil, or_false] at hp
  rcases hp with rfl | rfl | rfl <;> rfl
theorem flatP_at (ps : List (Int × Int × Int)) (j : Nat) (hj : j < ps.length) : (flatP ps)[j * 3]? = some (.int .i64 (ps.getD j default).1) ∧ (flatP ps)[j * 3 + 1]? = some (.int .i64 (ps.getD j default).2.1) ∧ (flatP ps)[j * 3 + 2]? = some (.int .i64 (ps.getD j default).2.2) := by
  induction ps generalizing j with
  | nil => simp at hj
  | cons p l ih =>
    have e : flatP (p :: l) = .int .i64 p.1 :: .int .i64 p.2.1 :: .int .i64 p.2.2 :: flatP l := rfl
    rw [e]
    cases j with
    | zero => exact ⟨rfl, rfl, rfl⟩
    | succ j =>
      have := ih j (by simpa using hj)
      rw [show (j + 1) * 3 = j * 3 + 1 + 1 + 1 by omega]
      simpa [Nat.add_assoc] using this

def InP (ps : List (Int × Int × Int)) : Prop := ∀ p ∈ ps, (-9223372036854775808 ≤ p.1 ∧ p.1 ≤ 9223372036854775807) ∧ (-9223372036854775808 ≤ p.2.1 ∧ p.2.1 ≤ 9223372036854775807) ∧ -9223372036854775808 ≤ p.2.2 ∧ p.2.2 ≤ 9223372036854775807
theorem ReadsP.take {w : World} {a : Option Addr} {n cap : Nat} {ps : List (Int × Int × Int)} (h : ReadsP w (.slice a n cap) ps) (k : Nat) (hk : k ≤ ps.length) : ReadsP w (.slice a k cap) (ps.take k) := by
  obtain ⟨a', cap', e, hn, hm, hb, hc⟩ := h
  injection e with e1 e2 e3
  subst e1; subst e3
  have hl : (ps.take k).length = k := by rw [List.length_take]; omega
  refine ⟨_, cap, by rw [hl], hn, by omega, fun p hp => hb p (List.mem_of_mem_take hp), fun j hj => ?_⟩
  obtain ⟨b, off, e, h⟩ := hc j (by omega)
  refine ⟨b, off, e, ?_⟩
  have : (ps.take k).getD j default = ps.getD j default := by
    rw [List.getD_eq_getElem?_getD, List.getD_eq_getElem?_getD, List.getElem?_take_of_lt (by omega)]
  rw [this]
  exact h

/-- the slice v is the call's own, from block 'base' on, and holds these triples; T is its elements' type -/
def OwnsT (T : TypeId) (w : World) (base : Nat) (v : Value) (ps : List (Int × Int × Int)) : Prop := w.ownsRow base T 3 v ps.length (flatP ps)
theorem OwnsT.nil (T : TypeId) (w : World) (base : Nat) : OwnsT T w base (.slice none 0 0) [] := ⟨rfl, .inl ⟨rfl, rfl⟩⟩
theorem OwnsT.ge {T : TypeId} {w : World} {base : Nat} {v : Value} {ps : List (Int × Int × Int)} (h : OwnsT T w base v ps) : ∀ k, v.ownBlock = some k → base ≤ k := by
  intro k hk
  rcases h.2 with ⟨rfl, _⟩ | ⟨g, cap, cur, rfl, hg, _⟩
  · simp [Value.ownBlock] at hk
  · simp [Value.ownBlock] at hk; omega
theorem OwnsT.reads {T : TypeId} {w : World} {base : Nat} {v : Value} {ps : List (Int × Int × Int)} (h : OwnsT T w base v ps) (hb : InP ps) : ReadsP w v ps := by
  rcases h.2 with ⟨rfl, hn⟩ | ⟨k, cap, cur, rfl, hk, hh, hn, hm, hs, ht⟩
  · obtain rfl : ps = [] := List.eq_nil_of_length_eq_zero hn
    exact readsP_nil w none 0 (fun _ => rfl)
  · refine ⟨_, cap, rfl, (fun e => by cases e), Nat.le_trans hn hm, hb, fun j hj => ⟨k, 0, rfl, ?_⟩⟩
    have hc : ∀ i, w.cell? ⟨k, i, none⟩ = cur[i]? := fun i => cell_of_row w k i cur _ (0, 0) hh
    have hi : ∀ i, i < ps.length * 3 → cur[i]? = (flatP ps)[i]? := fun i hi => by
      rw [← ht, List.getElem?_take_of_lt (by omega), ← Array.getElem?_toList]
    obtain ⟨e0, e1, e2⟩ := flatP_at ps j hj
    rw [Nat.zero_add]
    exact ⟨by rw [hc, hi _ (by omega), e0], by rw [hc, hi _ (by omega), e1], by rw [hc, hi _ (by omega), e2]⟩
theorem OwnsT.kpt {T : TypeId} {w w' : World} {base : Nat} {v : Value} {ps : List (Int × Int × Int)} (h : OwnsT T w base v ps) (g : Kpt w w') : OwnsT T w' base v ps := by
  obtain ⟨h1, h2⟩ := h
  refine ⟨h1, ?_⟩
  rcases h2 with h2 | ⟨k, cap, cur, e, hk, hh, r⟩
  · exact .inl h2
  · exact .inr ⟨k, cap, cur, e, hk, (Below.block g k (Array.getElem?_eq_some_iff.1 hh).1).trans hh, r⟩
theorem OwnsT.alloc {T : TypeId} {w : World} {base : Nat} {v : Value} {ps : List (Int × Int × Int)} (h : OwnsT T w base v ps) (o : Obj) : OwnsT T (w.alloc o) base v ps := h.kpt ((Kpt.refl w).alloc o)
theorem OwnsT.away {T : TypeId} {w : World} {base : Nat} {v : Value} {ps : List (Int × Int × Int)} (h : OwnsT T w base v ps) {p : Addr} (hp : some p.block ≠ v.ownBlock) (u : Value) : OwnsT T (w.setCell p u) base v ps := by
  obtain ⟨h1, h2⟩ := h
  refine ⟨h1, ?_⟩
  rcases h2 with h2 | ⟨g, cap, cur, rfl, hg, hh, r⟩
  · exact .inl h2
  · exact .inr ⟨g, cap, cur, rfl, hg, (Below.heap_setCell w p u g (fun e => hp (by simp [Value.ownBlock, e]))).trans hh, r⟩
theorem OwnsT.lt {T : TypeId} {w : World} {base : Nat} {v : Value} {ps : List (Int × Int × Int)} (h : OwnsT T w base v ps) {k : Nat} (hk : w.heap.size ≤ k) : some k ≠ v.ownBlock := fun e => by
  rcases h.2 with ⟨rfl, _⟩ | ⟨g, cap, cur, rfl, hg, hh, _⟩
  · simp [Value.ownBlock] at e
  · simp [Value.ownBlock] at e
    have := (Array.getElem?_eq_some_iff.1 hh).1
    omega
theorem OwnsT.base {T : TypeId} {w : World} {B B' : Nat} {v : Value} {ps : List (Int × Int × Int)} (h : OwnsT T w B v ps) (hb : B' ≤ B) : OwnsT T w B' v ps := by
  obtain ⟨h1, h2⟩ := h
  refine ⟨h1, ?_⟩
  rcases h2 with h2 | ⟨k, cap, cur, e, hk, r⟩
  · exact .inl h2
  · exact .inr ⟨k, cap, cur, e, Nat.le_trans hb hk, r⟩
theorem OwnsT.form {T : TypeId} {w : World} {B : Nat} {v : Value} {ps : List (Int × Int × Int)} (h : OwnsT T w B v ps) : ∃ a cap, v = .slice a ps.length cap := by
  rcases h.2 with ⟨e, e'⟩ | ⟨k, cap, cur, e, _⟩
  · exact ⟨none, 0, by rw [e, e']⟩
  · exact ⟨_, cap, e⟩
theorem OwnsT.formN {T : TypeId} {w : World} {B : Nat} {v : Value} {ps : List (Int × Int × Int)} (h : OwnsT T w B v ps) : ∃ a n cap, v = .slice a n cap ∧ Hid (n = ps.length) := by
  obtain ⟨a, c, e⟩ := h.form
  exact ⟨a, _, c, e, rfl⟩
theorem OwnsT.filled {T : TypeId} {w : World} {base : Nat} {v : Value} {ps : List (Int × Int × Int)} (h : OwnsT T w base v ps) (h0 : 0 < ps.length) : ∃ blk cap, v = .slice (some ⟨blk, 0, none⟩) ps.length cap ∧ base ≤ blk := by
  rcases h.2 with ⟨_, e⟩ | ⟨k, cap, cur, e, hk, _⟩
  · omega
  · exact ⟨k, cap, e, hk⟩
theorem OwnsT.empty (T : TypeId) (w : World) (B : Nat) (h : B ≤ w.heap.size) : OwnsT T (w.alloc (.cells #[] T)) B (.slice (some ⟨w.heap.size, 0, none⟩) 0 0) [] :=
  ⟨rfl, .inr ⟨w.heap.size, 0, #[], rfl, h, Blk.made w #[] _, Nat.le_refl _, Nat.zero_le _, rfl, rfl⟩⟩
/-- its block, opened -/
theorem OwnsT.opened {T : TypeId} {w : World} {base blk n cap : Nat} {ps : List (Int × Int × Int)} (h : OwnsT T w base (.slice (some ⟨blk, 0, none⟩) n cap) ps) : n = ps.length ∧ base ≤ blk ∧ ∃ cur : Array Value, w.heap[blk]? = some (.cells cur T (0, 0)) ∧ ps.length ≤ cap ∧ cap ≤ maxLen ∧ cur.size = cap * 3 ∧ cur.toList.take (ps.length * 3) = flatP ps := by
  rcases h.2 with ⟨e, _⟩ | ⟨g, cap', cur, e, hg, hh, hc, hm, hs, ht⟩
  · cases e
  · injection e with e1 e2 e3
    injection e1 with e1
    injection e1 with e1 _ _
    subst e1; subst e3; subst e2
    exact ⟨rfl, hg, cur, hh, hc, hm, hs, ht⟩
theorem OwnsT.made {T : TypeId} {w : World} {base blk n cap : Nat} {ps : List (Int × Int × Int)} {cur : Array Value} (hn : n = ps.length) (hg : base ≤ blk) (hh : w.heap[blk]? = some (.cells cur T (0, 0))) (hc : ps.length ≤ cap) (hm : cap ≤ maxLen) (hs : cur.size = cap * 3) (ht : cur.toList.take (ps.length * 3) = flatP ps) : OwnsT T w base (.slice (some ⟨blk, 0, none⟩) n cap) ps :=
  ⟨by rw [flatP_len], .inr ⟨blk, cap, cur, by rw [hn], hg, hh, hc, hm, hs, ht⟩⟩
theorem OwnsT.at_ {T : TypeId} {w : World} {base blk n cap : Nat} {ps : List (Int × Int × Int)} (h : OwnsT T w base (.slice (some ⟨blk, 0, none⟩) n cap) ps) (k : Nat) (hk : k < ps.length) :
    PtAt w blk (k * 3) (ps.getD k default) ∧ ∀ r, w.frozen? ⟨blk, r, none⟩ = false := by
  obtain ⟨_, _, cur, hh, hc, hm, hs, ht⟩ := h.opened
  have hcc : ∀ i, w.cell? ⟨blk, i, none⟩ = cur[i]? := fun i => cell_of_row w blk i cur _ (0, 0) hh
  have hi : ∀ i, i < ps.length * 3 → cur[i]? = (flatP ps)[i]? := fun i hi => by
    rw [← ht, List.getElem?_take_of_lt (by omega), ← Array.getElem?_toList]
  obtain ⟨e0, e1, e2⟩ := flatP_at ps k hk
  exact ⟨⟨by rw [hcc, hi _ (by omega), e0], by rw [hcc, hi _ (by omega), e1], by rw [hcc, hi _ (by omega), e2]⟩, fun r => by simp [World.frozen?, hh]⟩
theorem flatP_cons (q : Int × Int × Int) (m : List (Int × Int × Int)) : flatP (q :: m) = .int .i64 q.1 :: .int .i64 q.2.1 :: .int .i64 q.2.2 :: flatP m := rfl
theorem flatP_put0 (ps : List (Int × Int × Int)) (k : Nat) (hk : k < ps.length) (x : Int) : (flatP ps).set (k * 3) (.int .i64 x) = flatP (ps.set k (x, (ps.getD k default).2.1, (ps.getD k default).2.2)) := by
  induction ps generalizing k with
  | nil => simp at hk
  | cons p l ih =>
    cases k with
    | zero => rw [flatP_cons]; rfl
    | succ k =>
      have := ih k (by simpa using hk)
      rw [flatP_cons, show (k + 1) * 3 = k * 3 + 1 + 1 + 1 by omega]
      simp only [List.set_cons_succ, this, List.getD_cons_succ]
      rw [flatP_cons]
theorem flatP_put1 (ps : List (Int × Int × Int)) (k : Nat) (hk : k < ps.length) (x : Int) : (flatP ps).set (k * 3 + 1) (.int .i64 x) = flatP (ps.set k ((ps.getD k default).1, x, (ps.getD k default).2.2)) := by
  induction ps generalizing k with
  | nil => simp at hk
  | cons p l ih =>
    cases k with
    | zero => rw [flatP_cons]; rfl
    | succ k =>
      have := ih k (by simpa using hk)
      rw [flatP_cons, show (k + 1) * 3 + 1 = (k * 3 + 1) + 1 + 1 + 1 by omega]
      simp only [List.set_cons_succ, this, List.getD_cons_succ]
      rw [flatP_cons]
theorem flatP_put2 (ps : List (Int × Int × Int)) (k : Nat) (hk : k < ps.length) (x : Int) : (flatP ps).set (k * 3 + 2) (.int .i64 x) = flatP (ps.set k ((ps.getD k default).1, (ps.getD k default).2.1, x)) := by
  induction ps generalizing k with
  | nil => simp at hk
  | cons p l ih =>
    cases k with
    | zero => rw [flatP_cons]; rfl
    | succ k =>
      have := ih k (by simpa using hk)
      rw [flatP_cons, show (k + 1) * 3 + 2 = (k * 3 + 2) + 1 + 1 + 1 by omega]
      simp only [List.set_cons_succ, this, List.getD_cons_succ]
      rw [flatP_cons]
theorem OwnsT.putC {T : TypeId} {w : World} {base blk n cap : Nat} {ps qs : List (Int × Int × Int)} (h : OwnsT T w base (.slice (some ⟨blk, 0, none⟩) n cap) ps) (j : Nat) (v : Value) (hl : qs.length = ps.length) (hf : (flatP ps).set j v = flatP qs) :
    OwnsT T (w.setCell ⟨blk, j, none⟩ v) base (.slice (some ⟨blk, 0, none⟩) n cap) qs := by
  obtain ⟨hn, hg, cur, hh, hc, hm, hs, ht⟩ := h.opened
  refine OwnsT.made (cur := cur.setIfInBounds j v) (by omega) hg ?_ (by omega) hm (by simpa using hs) ?_
  · simp [World.setCell, Array.getElem?_modify, hh]
  · rw [hl, Array.toList_setIfInBounds, List.take_set, ht, hf]
theorem OwnsT.put1 {T : TypeId} {w : World} {base blk n cap : Nat} {ps : List (Int × Int × Int)} (h : OwnsT T w base (.slice (some ⟨blk, 0, none⟩) n cap) ps) (k : Nat) (hk : k < ps.length) (x : Int) :
    OwnsT T (w.setCell ⟨blk, k * 3 + 1, none⟩ (.int .i64 x)) base (.slice (some ⟨blk, 0, none⟩) n cap) (ps.set k ((ps.getD k default).1, x, (ps.getD k default).2.2)) := h.putC _ _ (by simp) (flatP_put1 ps k hk x)
theorem OwnsT.put2 {T : TypeId} {w : World} {base blk n cap : Nat} {ps : List (Int × Int × Int)} (h : OwnsT T w base (.slice (some ⟨blk, 0, none⟩) n cap) ps) (k : Nat) (hk : k < ps.length) (x : Int) :
    OwnsT T (w.setCell ⟨blk, k * 3 + 2, none⟩ (.int .i64 x)) base (.slice (some ⟨blk, 0, none⟩) n cap) (ps.set k ((ps.getD k default).1, (ps.getD k default).2.1, x)) := h.putC _ _ (by simp) (flatP_put2 ps k hk x)

/-- cells put into an array one behind the other -/
def putL : Array Value → Nat → List Value → Array Value
  | c, _, [] => c
  | c, o, v :: vs => putL (c.setIfInBounds o v) (o + 1) vs
theorem putL_size (vs : List Value) (c : Array Value) (o : Nat) : (putL c o vs).size = c.size := by
  induction vs generalizing c o with
  | nil => rfl
  | cons v vs ih => rw [putL, ih]; simp
theorem putL_at (vs : List Value) (c : Array Value) (o j : Nat) : (putL c o vs)[j]? = if o ≤ j ∧ j < o + vs.length ∧ j < c.size then vs[j - o]? else c[j]? := by
  induction vs generalizing c o with
  | nil => rw [putL, if_neg (by simp; omega)]
  | cons v vs ih =>
    rw [putL, ih]
    simp only [Array.size_setIfInBounds, List.length_cons]
    by_cases h1 : o + 1 ≤ j ∧ j < o + 1 + vs.length ∧ j < c.size
    · rw [if_pos h1, if_pos (by omega), show j - o = (j - (o + 1)) + 1 by omega, List.getElem?_cons_succ]
    · rw [if_neg h1]
      by_cases h2 : j = o
      · subst h2
        by_cases h3 : j < c.size
        · rw [if_pos (by omega), Nat.sub_self, Array.getElem?_setIfInBounds, if_pos rfl, if_pos h3]; rfl
        · rw [if_neg (by omega), Array.getElem?_setIfInBounds, if_pos rfl, if_neg h3, Array.getElem?_eq_none (by omega)]
      · rw [if_neg (by omega), Array.getElem?_setIfInBounds, if_neg (by omega)]
theorem heap_setCells {w : World} {g : Nat} {cur : Array Value} {e : TypeId} {fr : Nat × Nat} (vs : List Value) (o : Nat) (h : w.heap[g]? = some (.cells cur e fr)) : (w.setCells g o vs).heap[g]? = some (.cells (putL cur o vs) e fr) := by
  induction vs generalizing w cur o with
  | nil => exact h
  | cons v vs ih =>
    rw [World.setCells, putL]
    refine ih (o + 1) ?_
    simp [World.setCell, Array.getElem?_modify, h]
theorem heap_setCells_other (w : World) (g o : Nat) (vs : List Value) (k : Nat) (hk : k ≠ g) : (w.setCells g o vs).heap[k]? = w.heap[k]? := by
  induction vs generalizing w o with
  | nil => rfl
  | cons v vs ih =>
    rw [World.setCells, ih]
    exact Below.heap_setCell w _ v k (fun e => hk e)
theorem meta_setCells (w : World) (g o : Nat) (vs : List Value) : (w.setCells g o vs).os = w.os ∧ (w.setCells g o vs).tape = w.tape ∧ (w.setCells g o vs).output = w.output ∧ (w.setCells g o vs).heap.size = w.heap.size := by
  induction vs generalizing w o with
  | nil => exact ⟨rfl, rfl, rfl, rfl⟩
  | cons v vs ih =>
    obtain ⟨h1, h2, h3, h4⟩ := ih (w.setCell ⟨g, o, none⟩ v) (o + 1)
    rw [World.setCells]
    exact ⟨h1.trans rfl, h2.trans rfl, h3.trans rfl, h4.trans (by simp)⟩
theorem Kpt.setCells {w w' : World} (h : Kpt w w') {g : Nat} (hg : w.heap.size ≤ g) (o : Nat) (vs : List Value) : Kpt w (w'.setCells g o vs) := by
  obtain ⟨h1, h2, h3, h4⟩ := meta_setCells w' g o vs
  exact ⟨h1.trans h.os, h2.trans h.tape, h3.trans h.output, by rw [h4]; exact h.size, fun k hk => (heap_setCells_other w' g o vs k (by omega)).trans (h.block k hk)⟩
theorem flatP_erase (ps : List (Int × Int × Int)) (i j : Nat) (hi : i < ps.length) (hj : j < (ps.length - 1) * 3) : (flatP (ps.eraseIdx i))[j]? = if j < i * 3 then (flatP ps)[j]? else (flatP ps)[j + 3]? := by
  have e : ps = ps.take i ++ ps[i] :: ps.drop (i + 1) := by rw [← List.drop_eq_getElem_cons hi, List.take_append_drop]
  have l1 : (ps.take i).length = i := by rw [List.length_take]; omega
  have e1 : flatP ps = flatP (ps.take i) ++ flatP (ps[i] :: ps.drop (i + 1)) := by rw [← flatP_append, ← e]
  rw [List.eraseIdx_eq_take_drop_succ, flatP_append, e1, flatP_cons]
  have l2 : (flatP (ps.take i)).length = i * 3 := by rw [flatP_len, l1]
  by_cases h : j < i * 3
  · rw [if_pos h, List.getElem?_append_left (by omega), List.getElem?_append_left (by omega)]
  · rw [if_neg h, List.getElem?_append_right (by omega), List.getElem?_append_right (by omega), l2, show j + 3 - i * 3 = j - i * 3 + 1 + 1 + 1 by omega, List.getElem?_cons_succ, List.getElem?_cons_succ, List.getElem?_cons_succ]

end Go.Proofs.Ytgccipmeiceonaa
