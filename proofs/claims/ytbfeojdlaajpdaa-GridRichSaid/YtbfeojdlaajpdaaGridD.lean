/-
  What settle of package grid does.
-/
import Derived.Test.YtbfeojdlaajpdaaGridM2
import Derived.Test.YtbfeojdlaajpdaaGridC
import Derived.Test.YtbfeojdlaajpdaaShelf
import Derived.BigRegion
namespace Go.Proofs.Ytbfeojdlaajpdaa
open Go.RowKit
set_option linter.unusedVariables false

/-- a block of ints that begins with these -/
def OwnI (w : World) (g : Nat) (zs : List Int) : Prop := ∃ cur : Array Value, w.heap[g]? = some (.cells cur 3 (0, 0)) ∧ zs.length ≤ cur.size ∧ ∀ j, j < zs.length → cur[j]? = some (.int .i64 (zs.getD j 0))
theorem OwnI.lt {w : World} {g : Nat} {zs : List Int} (h : OwnI w g zs) : g < w.heap.size := by obtain ⟨cur, h, -⟩ := h; exact heap_lt h
theorem OwnI.cell {w : World} {g : Nat} {zs : List Int} (h : OwnI w g zs) {j : Nat} (hj : j < zs.length) : w.cell? ⟨g, j, none⟩ = some (.int .i64 (zs.getD j 0)) := by
  obtain ⟨cur, h1, h2, h3⟩ := h
  rw [cell_of_row w g j cur _ (0, 0) h1]; exact h3 j hj
theorem OwnI.block {w w' : World} {g : Nat} {zs : List Int} (h : OwnI w g zs) (e : w'.heap[g]? = w.heap[g]?) : OwnI w' g zs := by
  obtain ⟨cur, h1, h2⟩ := h; exact ⟨cur, e.trans h1, h2⟩
theorem OwnI.kpt {w w' : World} {g : Nat} {zs : List Int} (h : OwnI w g zs) (k : Kpt w w') : OwnI w' g zs := h.block (k.block g h.lt)
theorem OwnI.alloc {w : World} {g : Nat} {zs : List Int} (h : OwnI w g zs) (o : Obj) : OwnI (w.alloc o) g zs := h.kpt ((Kpt.refl w).alloc o)
theorem OwnI.drew {w : World} {g : Nat} {zs : List Int} (h : OwnI w g zs) : OwnI w.drew g zs := h
theorem OwnI.away {w : World} {g : Nat} {zs : List Int} (h : OwnI w g zs) {p : Addr} (hp : g ≠ p.block) (u : Value) : OwnI (w.setCell p u) g zs := h.block (Below.heap_setCell w p u g hp)
theorem OwnI.frozen {w : World} {g : Nat} {zs : List Int} (h : OwnI w g zs) (j : Nat) : w.frozen? ⟨g, j, none⟩ = false := by
  obtain ⟨cur, h1, -⟩ := h; exact Blk.frozen h1 j
theorem OwnI.put {w : World} {g : Nat} {zs : List Int} (h : OwnI w g zs) (j : Nat) (z : Int) : OwnI (w.setCell ⟨g, j, none⟩ (.int .i64 z)) g (zs.set j z) := by
  obtain ⟨cur, h1, h2, h3⟩ := h
  refine ⟨_, Blk.put h1 j _, by simpa using h2, fun i hi => ?_⟩
  rw [List.length_set] at hi
  have := h3 i hi
  rw [Array.getElem?_setIfInBounds, List.getD_eq_getElem?_getD, List.getElem?_set]
  by_cases hj : j = i
  · subst hj
    rw [if_pos rfl, if_pos rfl, if_pos (by omega), if_pos hi]
    rfl
  · rw [if_neg hj, if_neg hj, this, List.getD_eq_getElem?_getD]
theorem OwnI.reads {w : World} {g : Nat} {zs : List Int} (h : OwnI w g zs) (hm : zs.length ≤ maxLen) (cap : Nat) : Reads w (.slice (some ⟨g, 0, none⟩) zs.length cap) zs :=
  reads_mk rfl hm fun j hj => by rw [Nat.zero_add]; exact h.cell hj

theorem cloneI_run (v : Value) (zs : List Int) (w : World) (hr : Reads w v zs) (hn : zs.length = 31) :
    Calls Try.prog 77 #[v] w fun e w' => (∃ g cap, e = .returned (.slice (some ⟨g, 0, none⟩) 31 cap) ∧ 31 ≤ cap ∧ w.heap.size ≤ g ∧ OwnI w' g zs) ∧ Kpt w w' := by
  rcases hr.cell with ⟨rfl, _⟩ | ⟨_, b, off, cap, rfl, hc⟩
  · simp at hn
  · rw [hn]
    refine (Try.slices_Clone_int b off 31 cap zs w (by omega) (by omega) hc).mono ?_
    rintro e w' ⟨v', rfl, ho, hne, hk⟩
    refine ⟨?_, hk⟩
    obtain ⟨h1, h2⟩ := ho
    rcases h2 with ⟨rfl, hz⟩ | ⟨k, cap, cur, rfl, hg, hh, hc1, hm, hs, ht⟩
    · exact absurd rfl (by omega)
    · have hs' : 31 ≤ cur.size := by omega
      refine ⟨k, cap, rfl, hc1, hg, cur, hh, by omega, fun j hj => ?_⟩
      have e : (cur.toList.take (31 * 1))[j]? = some (.int .i64 (zs.getD j 0)) := by
        rw [ht, List.take_of_length_le (by omega)]
        exact getD_map zs j hj
      rw [List.getElem?_take_of_lt (by omega), Array.getElem?_toList] at e
      exact e

end Go.Proofs.Ytbfeojdlaajpdaa
