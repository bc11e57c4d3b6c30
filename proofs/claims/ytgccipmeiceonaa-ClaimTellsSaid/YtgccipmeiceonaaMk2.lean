/-
  Merged: Row, RowN.
-/
import Derived.Test.YtgccipmeiceonaaOwn
import Derived.Laws.MakeOwn
import Derived.Test.YtgccipmeiceonaaTrip
-- Row
namespace Go.Proofs.Ytgccipmeiceonaa
open Go.RowKit
set_option linter.unusedVariables false

/-- block g is a row of ints, just these, none of them frozen -/
def Row (w : World) (g : Nat) (zs : List Int) : Prop := w.heap[g]? = some (.cells (zs.map (Value.int .i64)).toArray 3 (0, 0))
theorem Row.lt {w : World} {g : Nat} {zs : List Int} (h : Row w g zs) : g < w.heap.size := heap_lt h
theorem Row.cell {w : World} {g : Nat} {zs : List Int} (h : Row w g zs) {j : Nat} (hj : j < zs.length) : w.cell? ⟨g, j, none⟩ = some (.int .i64 (zs.getD j 0)) := by
  have := cell_of_row w g j _ _ (0, 0) h
  rw [this, List.getElem?_toArray]
  exact getD_map zs j hj
theorem Row.frozen {w : World} {g : Nat} {zs : List Int} (h : Row w g zs) (j : Nat) : w.frozen? ⟨g, j, none⟩ = false := by
  unfold Row at h
  simp [World.frozen?, h]
theorem Row.block {w w' : World} {g : Nat} {zs : List Int} (h : Row w g zs) (e : w'.heap[g]? = w.heap[g]?) : Row w' g zs := e.trans h
theorem Row.below {w w' : World} {B g : Nat} {zs : List Int} (h : Row w g zs) (b : Below B w w') (hg : g < B) : Row w' g zs := h.block (b.block g hg)
theorem Row.grew {w w' : World} {g : Nat} {zs : List Int} (h : Row w g zs) (b : Grew w w') : Row w' g zs := h.below b.below h.lt
theorem Row.put {w : World} {g : Nat} {zs : List Int} (h : Row w g zs) (j : Nat) (z : Int) : Row (w.setCell ⟨g, j, none⟩ (.int .i64 z)) g (zs.set j z) := by
  unfold Row at h ⊢
  simp [World.setCell, Array.getElem?_modify, h, List.map_set]
theorem Row.away {w : World} {g : Nat} {zs : List Int} (h : Row w g zs) {p : Addr} (hp : g ≠ p.block) (u : Value) : Row (w.setCell p u) g zs := h.block (Below.heap_setCell w p u g hp)
theorem Row.reads {w : World} {g : Nat} {zs : List Int} (h : Row w g zs) (hm : zs.length ≤ maxLen) (cap : Nat) : Reads w (.slice (some ⟨g, 0, none⟩) zs.length cap) zs :=
  reads_mk rfl hm fun j hj => by rw [Nat.zero_add]; exact h.cell hj
theorem made_zero (n : Nat) : madeCells (Value.int .i64 0).cells n = (Array.replicate n (Value.int .i64 0)) := by
  apply Array.ext
  · simp [size_madeCells]
  · intro i h1 h2
    simp [madeCells, Value.cells, Nat.mod_one]
theorem Row.made (w : World) (n : Nat) : Row (w.alloc (.cells (Array.replicate n (Value.int .i64 0)) 3)) w.heap.size (List.replicate n 0) := by
  have := heap_alloc_new w (.cells (Array.replicate n (Value.int .i64 0)) 3)
  unfold Row
  rw [this]
  simp
theorem run_zeros (w : World) (n : Nat) (hn : n ≤ 1000000) :
    (Instr.makeSlice 22 (.int .i64 (n : Int)) (.int .i64 (n : Int))).run Try.prog w = .ok (.slice (some ⟨w.heap.size, 0, none⟩) n n) (w.alloc (.cells (Array.replicate n (Value.int .i64 0)) 3)) := by
  obtain ⟨i0, hi, hz0, hz1, hz2⟩ := info_parts Try.infoInt
  have := run_make (P := Try.prog) w 22 3 i0 (.int .i64 0) Try.underlying22 hi hz0 .i64 .i64 n n (by omega) (by omega) (by rw [hz2]; omega) (by omega)
  rw [hz1, Int.toNat_natCast, Nat.mul_one, made_zero] at this
  exact this

end Go.Proofs.Ytgccipmeiceonaa

-- RowN
namespace Go.Proofs.Ytgccipmeiceonaa
open Go.RowKit
set_option linter.unusedVariables false

/-- the cells of one element, and of a list of them; an element is told as a list of ints -/
def rowN (N : Nat) (l : List Int) : List Value := (List.range N).map fun j => Value.int .i64 (l.getD j 0)
def flatN (N : Nat) (fs : List (List Int)) : List Value := fs.flatMap (rowN N)
theorem rowN_len (N : Nat) (l : List Int) : (rowN N l).length = N := by simp [rowN]
theorem rowN_at {N j : Nat} (l : List Int) (h : j < N) : (rowN N l)[j]? = some (.int .i64 (l.getD j 0)) := by
  unfold rowN; rw [List.getElem?_map, List.getElem?_range h]; rfl
theorem flatN_len (N : Nat) (fs : List (List Int)) : (flatN N fs).length = fs.length * N := by
  induction fs with
  | nil => simp [flatN]
  | cons p l ih => unfold flatN at *; rw [List.flatMap_cons, List.length_append, ih, rowN_len, List.length_cons, Nat.succ_mul]; omega
theorem flatN_append (N : Nat) (fs gs : List (List Int)) : flatN N (fs ++ gs) = flatN N fs ++ flatN N gs := List.flatMap_append
theorem flatN_one (N : Nat) (fs : List (List Int)) : ∀ u ∈ flatN N fs, u.oneCell' = true := by
  intro u hu
  obtain ⟨p, _, hp⟩ := List.mem_flatMap.1 hu
  obtain ⟨j, _, rfl⟩ := List.mem_map.1 hp
  rfl
theorem flatN_at {N : Nat} (fs : List (List Int)) (k j : Nat) (hk : k < fs.length) (hj : j < N) : (flatN N fs)[k * N + j]? = some (.int .i64 ((fs.getD k []).getD j 0)) := by
  induction fs generalizing k with
  | nil => simp at hk
  | cons p l ih =>
    have e : flatN N (p :: l) = rowN N p ++ flatN N l := by unfold flatN; rw [List.flatMap_cons]
    rw [e]
    cases k with
    | zero =>
      rw [List.getElem?_append_left (by rw [rowN_len]; omega), Nat.zero_mul, Nat.zero_add, rowN_at p hj]; rfl
    | succ k =>
      have hk' : k < l.length := by simpa using hk
      rw [List.getElem?_append_right (by rw [rowN_len, Nat.succ_mul]; omega), rowN_len, Nat.succ_mul, show k * N + N + j - N = k * N + j by omega, ih k hk']
      rfl

/-- the slice v is the call's own, from block 'base' on, and holds these elements; T is their type -/
def OwnsN (N : Nat) (T : TypeId) (w : World) (base : Nat) (v : Value) (fs : List (List Int)) : Prop := w.ownsRow base T N v fs.length (flatN N fs)
theorem OwnsN.nil (N : Nat) (T : TypeId) (w : World) (base : Nat) : OwnsN N T w base (.slice none 0 0) [] := ⟨by simp [flatN], .inl ⟨rfl, rfl⟩⟩
theorem OwnsN.ge {N : Nat} {T : TypeId} {w : World} {base : Nat} {v : Value} {fs : List (List Int)} (h : OwnsN N T w base v fs) : ∀ k, v.ownBlock = some k → base ≤ k := by
  intro k hk
  rcases h.2 with ⟨rfl, _⟩ | ⟨g, cap, cur, rfl, hg, _⟩
  · simp [Value.ownBlock] at hk
  · simp [Value.ownBlock] at hk; omega
theorem OwnsN.block_lt {N : Nat} {T : TypeId} {w : World} {base : Nat} {v : Value} {fs : List (List Int)} (h : OwnsN N T w base v fs) : ∀ k, v.ownBlock = some k → k < w.heap.size := by
  intro k hk
  rcases h.2 with ⟨rfl, _⟩ | ⟨g, cap, cur, rfl, hg, hh, _⟩
  · simp [Value.ownBlock] at hk
  · simp [Value.ownBlock] at hk; subst hk; exact heap_lt hh
theorem OwnsN.kpt {N : Nat} {T : TypeId} {w w' : World} {base : Nat} {v : Value} {fs : List (List Int)} (h : OwnsN N T w base v fs) (g : Kpt w w') : OwnsN N T w' base v fs := by
  obtain ⟨h1, h2⟩ := h
  refine ⟨h1, ?_⟩
  rcases h2 with h2 | ⟨k, cap, cur, e, hk, hh, r⟩
  · exact .inl h2
  · exact .inr ⟨k, cap, cur, e, hk, (Below.block g k (Array.getElem?_eq_some_iff.1 hh).1).trans hh, r⟩
theorem OwnsN.alloc {N : Nat} {T : TypeId} {w : World} {base : Nat} {v : Value} {fs : List (List Int)} (h : OwnsN N T w base v fs) (o : Obj) : OwnsN N T (w.alloc o) base v fs := h.kpt ((Kpt.refl w).alloc o)
theorem OwnsN.form {N : Nat} {T : TypeId} {w : World} {B : Nat} {v : Value} {fs : List (List Int)} (h : OwnsN N T w B v fs) : ∃ a n cap, v = .slice a n cap ∧ Hid (n = fs.length) := by
  rcases h.2 with ⟨rfl, hn⟩ | ⟨g, cap, cur, rfl, _⟩
  · exact ⟨_, _, _, rfl, hn.symm⟩
  · exact ⟨_, _, _, rfl, rfl⟩
/-- its cells -/
theorem OwnsN.cells {N : Nat} {T : TypeId} {w : World} {B : Nat} {v : Value} {fs : List (List Int)} (h : OwnsN N T w B v fs) : ∃ a cap, v = .slice a fs.length cap ∧ fs.length ≤ maxLen ∧ ∀ k, k < fs.length → ∃ g, a = some ⟨g, 0, none⟩ ∧ ∀ j, j < N → w.cell? ⟨g, k * N + j, none⟩ = some (.int .i64 ((fs.getD k []).getD j 0)) := by
  rcases h.2 with ⟨rfl, hn⟩ | ⟨g, cap, cur, rfl, hg, hh, hn, hm, hs, ht⟩
  · refine ⟨none, 0, by rw [hn], by rw [hn]; exact Nat.zero_le _, fun k hk => by omega⟩
  · refine ⟨_, cap, rfl, Nat.le_trans hn hm, fun k hk => ⟨g, rfl, fun j hj => ?_⟩⟩
    have hlt : k * N + j < fs.length * N := by
      have : (k + 1) * N ≤ fs.length * N := Nat.mul_le_mul_right N hk
      rw [Nat.succ_mul] at this; omega
    rw [cell_of_row w g (k * N + j) cur _ (0, 0) hh, ← flatN_at fs k j hk hj, ← ht, List.getElem?_take_of_lt hlt, ← Array.getElem?_toList]

theorem OwnsN.other {N : Nat} {T : TypeId} {w w' : World} {base : Nat} {u : Value} {fs : List (List Int)} {row : Option Nat} (h : OwnsN N T w base u fs) (g : w.grownBy w' row) (hr : u.ownBlock = none ∨ u.ownBlock ≠ row) : OwnsN N T w' base u fs := by
  obtain ⟨h1, h2⟩ := h
  refine ⟨h1, ?_⟩
  rcases h2 with h2 | ⟨k, cap, cur, rfl, hk, hh, r⟩
  · exact .inl h2
  · refine .inr ⟨k, cap, cur, rfl, hk, (g.block k (heap_lt hh) ?_).trans hh, r⟩
    rcases hr with hr | hr
    · simp [Value.ownBlock] at hr
    · simpa [Value.ownBlock] using hr

end Go.Proofs.Ytgccipmeiceonaa
