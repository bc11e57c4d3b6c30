/-
  Merged: Bools.
-/
import Derived.Test.YtgccipmeiceonaaMk2
import Derived.Test.YtgccipmeiceonaaKept
import Derived.Test.YtgccipmeiceonaaBlk
-- Bools
namespace Go.Proofs.Ytgccipmeiceonaa
open Go.RowKit
set_option linter.unusedVariables false

theorem Try.infoBool : (Try.prog.info? 4).map (fun i => (i.zero, i.size, i.bytes)) = some (some (.bool false), 1, 1) := by kernel_rfl
theorem info_partsB {o : Option TypeInfo} {z : Value} {a b : Nat} (h : o.map (fun i => (i.zero, i.size, i.bytes)) = some (some z, a, b)) : ∃ i, o = some i ∧ i.zero = some z ∧ i.size = a ∧ i.bytes = b := by
  cases o with
  | none => cases h
  | some i =>
    simp only [Option.map_some, Option.some.injEq, Prod.mk.injEq] at h
    exact ⟨i, rfl, h.1, h.2.1, h.2.2⟩
/-- block g holds n bools, at j what p says -/
def OwnB (w : World) (g n : Nat) (p : Nat → Bool) : Prop := ∃ cur : Array Value, w.heap[g]? = some (.cells cur 4 (0, 0)) ∧ cur.size = n ∧ ∀ j, j < n → cur[j]? = some (.bool (p j))
theorem OwnB.lt {w : World} {g n : Nat} {p : Nat → Bool} (h : OwnB w g n p) : g < w.heap.size := by obtain ⟨cur, h, -⟩ := h; exact heap_lt h
theorem OwnB.cell {w : World} {g n : Nat} {p : Nat → Bool} (h : OwnB w g n p) {j : Nat} (hj : j < n) : w.cell? ⟨g, j, none⟩ = some (.bool (p j)) := by
  obtain ⟨cur, h1, h2, h3⟩ := h
  rw [cell_of_row w g j cur _ (0, 0) h1]; exact h3 j hj
theorem OwnB.block {w w' : World} {g n : Nat} {p : Nat → Bool} (h : OwnB w g n p) (e : w'.heap[g]? = w.heap[g]?) : OwnB w' g n p := by
  obtain ⟨cur, h1, h2⟩ := h; exact ⟨cur, e.trans h1, h2⟩
theorem OwnB.kpt {w w' : World} {g n : Nat} {p : Nat → Bool} (h : OwnB w g n p) (k : Kpt w w') : OwnB w' g n p := h.block (k.block g h.lt)
theorem OwnB.away {w : World} {g n : Nat} {p : Nat → Bool} (h : OwnB w g n p) {a : Addr} (hp : g ≠ a.block) (u : Value) : OwnB (w.setCell a u) g n p := h.block (Below.heap_setCell w a u g hp)
theorem OwnB.frozen {w : World} {g n : Nat} {p : Nat → Bool} (h : OwnB w g n p) (j : Nat) : w.frozen? ⟨g, j, none⟩ = false := by
  obtain ⟨cur, h1, -⟩ := h; exact Blk.frozen h1 j
theorem OwnB.to {w : World} {g n : Nat} {p q : Nat → Bool} (h : OwnB w g n p) (e : ∀ j, j < n → p j = q j) : OwnB w g n q := by
  obtain ⟨cur, h1, h2, h3⟩ := h
  exact ⟨cur, h1, h2, fun j hj => by rw [← e j hj]; exact h3 j hj⟩
theorem OwnB.put {w : World} {g n : Nat} {p q : Nat → Bool} (h : OwnB w g n p) (k : Nat) (b : Bool) (e : ∀ j, j < n → q j = if j = k then b else p j) : OwnB (w.setCell ⟨g, k, none⟩ (.bool b)) g n q := by
  obtain ⟨cur, h1, h2, h3⟩ := h
  refine ⟨_, Blk.put h1 k _, by simpa using h2, fun j hj => ?_⟩
  rw [e j hj, Array.getElem?_setIfInBounds]
  by_cases hk : k = j
  · subst hk
    rw [if_pos rfl, if_pos rfl, if_pos (by omega)]
  · rw [if_neg hk, if_neg (fun e => hk e.symm)]
    exact h3 j hj
theorem made_false (n : Nat) : madeCells (Value.bool false).cells n = (Array.replicate n (Value.bool false)) := by
  apply Array.ext
  · simp [size_madeCells]
  · intro i h1 h2
    simp [madeCells, Value.cells, Nat.mod_one]
theorem OwnB.made (w : World) (n : Nat) : OwnB (w.alloc (.cells (Array.replicate n (Value.bool false)) 4)) w.heap.size n (fun _ => false) :=
  ⟨_, heap_alloc_new w _, by simp, fun j hj => by simp [hj]⟩
end Go.Proofs.Ytgccipmeiceonaa
