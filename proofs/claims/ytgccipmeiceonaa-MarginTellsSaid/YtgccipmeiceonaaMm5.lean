/-
  Merged: Blk, IntStep.
-/
import Derived.Test.YtgccipmeiceonaaMm0
import Derived.Laws.Rows
import Derived.Test.YtgccipmeiceonaaMm4
import Derived.Deep.RegionHeld3
import Derived.Deep.AppendLies
-- Blk
namespace Go.Proofs.Ytgccipmeiceonaa
open Go.RowKit
set_option linter.unusedVariables false

/-- block g holds just these cells, none of them frozen -/
def Blk (w : World) (g : Nat) (cs : Array Value) (T : TypeId) : Prop := w.heap[g]? = some (.cells cs T (0, 0))
theorem Blk.lt {w : World} {g : Nat} {cs : Array Value} {T : TypeId} (h : Blk w g cs T) : g < w.heap.size := by
  rcases Nat.lt_or_ge g w.heap.size with k | k
  · exact k
  · unfold Blk at h; rw [Array.getElem?_eq_none k] at h; cases h
theorem Blk.cell {w : World} {g : Nat} {cs : Array Value} {T : TypeId} (h : Blk w g cs T) (j : Nat) : w.cell? ⟨g, j, none⟩ = cs[j]? := cell_of_row w g j cs T (0, 0) h
theorem Blk.frozen {w : World} {g : Nat} {cs : Array Value} {T : TypeId} (h : Blk w g cs T) (j : Nat) : w.frozen? ⟨g, j, none⟩ = false := by
  unfold Blk at h
  simp [World.frozen?, h]
theorem Blk.block {w w' : World} {g : Nat} {cs : Array Value} {T : TypeId} (h : Blk w g cs T) (e : w'.heap[g]? = w.heap[g]?) : Blk w' g cs T := e.trans h
theorem Blk.below {w w' : World} {B g : Nat} {cs : Array Value} {T : TypeId} (h : Blk w g cs T) (b : Below B w w') (hg : g < B) : Blk w' g cs T := h.block (b.block g hg)
theorem Blk.grew {w w' : World} {g : Nat} {cs : Array Value} {T : TypeId} (h : Blk w g cs T) (b : Grew w w') : Blk w' g cs T := h.below b.below h.lt
theorem Blk.put {w : World} {g : Nat} {cs : Array Value} {T : TypeId} (h : Blk w g cs T) (j : Nat) (v : Value) : Blk (w.setCell ⟨g, j, none⟩ v) g (cs.setIfInBounds j v) T := by
  unfold Blk at h ⊢
  simp [World.setCell, Array.getElem?_modify, h]
theorem Blk.away {w : World} {g : Nat} {cs : Array Value} {T : TypeId} (h : Blk w g cs T) {p : Addr} (hp : g ≠ p.block) (u : Value) : Blk (w.setCell p u) g cs T := h.block (Below.heap_setCell w p u g hp)
theorem Blk.made (w : World) (cs : Array Value) (T : TypeId) : Blk (w.alloc (.cells cs T)) w.heap.size cs T := heap_alloc_new w _
theorem Blk.alloc {w : World} {g : Nat} {cs : Array Value} {T : TypeId} (h : Blk w g cs T) (o : Obj) : Blk (w.alloc o) g cs T := h.below (Below.alloc (Below.refl w.heap.size w) (Nat.le_refl _) o) h.lt
theorem Blk.drew {w : World} {g : Nat} {cs : Array Value} {T : TypeId} (h : Blk w g cs T) : Blk w.drew g cs T := h

end Go.Proofs.Ytgccipmeiceonaa

-- IntStep
namespace Go.Proofs.Ytgccipmeiceonaa
open Go.RowKit Go.Lib
set_option linter.unusedVariables false

theorem step_append1 {ops : Array Oper} {o : Oper} {a : Act} {w : World} {K : Act → World → Prop} {Q : Exit → Act → World → Prop} {E : Prop} (hgd : o.guard = none) (s x : Operand)
    (ho : o.op = .call { callee := .builtin .append, args := #[s, x], argTypes := #[22, 22] })
    (base : Nat) (v : Value) (zs : List Int) (z : Int) (hs : a.eval s = v) (hown : Owns w base v zs) (B : Nat) (hx : a.eval x = .slice (some ⟨B, 0, none⟩) 1 1) (hB : Blk w B #[.int .i64 z] 3)
    (hlen : zs.length + 1 ≤ 100000) (hbase : base ≤ w.heap.size)
    (h : ∀ g n cap w', n = zs.length + 1 → Owns w' base (.slice (some ⟨g, 0, none⟩) n cap) (zs ++ [z]) → Below base w w' → K (a.put o.dst (.slice (some ⟨g, 0, none⟩) n cap)) w') :
    if Region.wanted o (yielded ops a.tmps) = true then Oper.wp Try.prog o a w K Q else E := by
  obtain ⟨i0, hi, hz0, hz1, hz2⟩ := info_parts Try.infoInt
  refine step_append_lies _ hgd s x 22 ho base 3 i0 (.int .i64 0) 1 8 Try.underlying22 hi hz0 hz1 hz2 rfl (by decide) v _ _ hs hown ⟨B, 0, none⟩ 1 1 [.int .i64 z] hx rfl (World.news_of_block hB) ?_ (by decide) ?_ ?_ hbase w.heap.size rfl ?_
  · intro u hu
    simp at hu
    subst hu
    rfl
  · unfold maxLen; omega
  · omega
  · intro g cap w' h1 h2 h3 h4
    refine h g _ cap w' rfl ?_ ?_
    · unfold Owns
      rw [List.length_append, List.map_append]
      exact h1
    · exact (Below.refl base w).grown h2 hbase hown.block_ge

end Go.Proofs.Ytgccipmeiceonaa
