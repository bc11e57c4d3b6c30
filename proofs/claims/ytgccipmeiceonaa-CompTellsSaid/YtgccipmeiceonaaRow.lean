/-
  Words for a block of ints of the call's own: known whole, stored into, made.
-/
import Derived.Test.YtgccipmeiceonaaOwn
import Derived.Laws.MakeOwn
namespace Go.Proofs.Ytgccipmeiceonaa
open Go.RowKit
set_option linter.unusedVariables false

/-- block g is a row of ints, just these, none of them frozen -/
def Row (w : World) (g : Nat) (zs : List Int) : Prop := w.heap[g]? = some (.cells (zs.map (Value.int .i64)).toArray 3 (0, 0))
theorem Row.lt {w : World} {g : Nat} {zs : List Int} (h : Row w g zs) : g < w.heap.size := heap_lt h
theorem Row.cell {w : World} {g : Nat} {zs : List Int} (h : Row w g zs) {j : Nat} (hj : j < zs.length) : w.cell? ⟨g, j, none⟩ = some (.int .i64 (zs.getD j 0)) := by
  have := cell_of_row w g j _ _ (0, 0) h
  rw [this, List.getElem?_toArray]
  exact getD_map zs j hj
theorem Row.frozen {w : World} {g : Nat} {zs : List Int} (h : Row w g zs) (j : Nat) : w.frozen? ⟨g, j, none⟩ = false := by
  unfold Row at h
  simp [World.frozen?, h]
theorem Row.block {w w' : World} {g : Nat} {zs : List Int} (h : Row w g zs) (e : w'.heap[g]? = w.heap[g]?) : Row w' g zs := e.trans h
theorem Row.below {w w' : World} {B g : Nat} {zs : List Int} (h : Row w g zs) (b : Below B w w') (hg : g < B) : Row w' g zs := h.block (b.block g hg)
theorem Row.grew {w w' : World} {g : Nat} {zs : List Int} (h : Row w g zs) (b : Grew w w') : Row w' g zs := h.below b.below h.lt
theorem Row.put {w : World} {g : Nat} {zs : List Int} (h : Row w g zs) (j : Nat) (z : Int) : Row (w.setCell ⟨g, j, none⟩ (.int .i64 z)) g (zs.set j z) := by
  unfold Row at h ⊢
  simp [World.setCell, Array.getElem?_modify, h, List.map_set]
theorem Row.away {w : World} {g : Nat} {zs : List Int} (h : Row w g zs) {p : Addr} (hp : g ≠ p.block) (u : Value) : Row (w.setCell p u) g zs := h.block (Below.heap_setCell w p u g hp)
theorem Row.reads {w : World} {g : Nat} {zs : List Int} (h : Row w g zs) (hm : zs.length ≤ maxLen) (cap : Nat) : Reads w (.slice (some ⟨g, 0, none⟩) zs.length cap) zs :=
  reads_mk rfl hm fun j hj => by rw [Nat.zero_add]; exact h.cell hj
theorem made_zero (n : Nat) : madeCells (Value.int .i64 0).cells n = (Array.replicate n (Value.int .i64 0)) := by
  apply Array.ext
  · simp [size_madeCells]
  · intro i h1 h2
    simp [madeCells, Value.cells, Nat.mod_one]
theorem Row.made (w : World) (n : Nat) : Row (w.alloc (.cells (Array.replicate n (Value.int .i64 0)) 3)) w.heap.size (List.replicate n 0) := by
  have := heap_alloc_new w (.cells (Array.replicate n (Value.int .i64 0)) 3)
  unfold Row
  rw [this]
  simp
theorem run_zeros (w : World) (n : Nat) (hn : n ≤ 1000000) :
    (Instr.makeSlice 22 (.int .i64 (n : Int)) (.int .i64 (n : Int))).run Try.prog w = .ok (.slice (some ⟨w.heap.size, 0, none⟩) n n) (w.alloc (.cells (Array.replicate n (Value.int .i64 0)) 3)) := by
  obtain ⟨i0, hi, hz0, hz1, hz2⟩ := info_parts Try.infoInt
  have := run_make (P := Try.prog) w 22 3 i0 (.int .i64 0) Try.underlying22 hi hz0 .i64 .i64 n n (by omega) (by omega) (by rw [hz2]; omega) (by omega)
  rw [hz1, Int.toNat_natCast, Nat.mul_one, made_zero] at this
  exact this

end Go.Proofs.Ytgccipmeiceonaa
