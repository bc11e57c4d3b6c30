/-
  What swapRangeCmpFunc and rotateCmpFunc of package slices do with a row of ints of the call's own.
-/
import Derived.Test.YtmoanndonfmihaaStabMath3
import Derived.Test.YtmoanndonfmihaaRow
import Derived.BigRegion
namespace Go.Proofs.Ytmoanndonfmihaa
open Go.RowKit
set_option linter.unusedVariables false

/-- block blk is the row D now; of the blocks ahead of it nothing has turned -/
structure SI (w : World) (blk : Nat) (D : List Int) (w' : World) : Prop where
  row : Row w' blk D
  bel : Below blk w w'
theorem SI.refl {w : World} {blk : Nat} {D : List Int} (h : Row w blk D) : SI w blk D w := ⟨h, Below.refl _ _⟩
theorem SI.tr {w w1 w2 : World} {blk : Nat} {D E : List Int} (h : SI w blk D w1) (g : SI w1 blk E w2) : SI w blk E w2 := ⟨g.row, h.bel.trans g.bel⟩
theorem SI.drewN {w w' : World} {blk : Nat} {D : List Int} (h : SI w blk D w') (n : Nat) : SI w blk D (w'.drewN n) := ⟨h.row.block rfl, h.bel.trans ⟨rfl, rfl, rfl, by simp [World.drewN], fun k hk => rfl⟩⟩
theorem SI.put {w w' : World} {blk : Nat} {D : List Int} (h : SI w blk D w') (j : Nat) (z : Int) : SI w blk (D.set j z) (w'.setCell ⟨blk, j, none⟩ (.int .i64 z)) := ⟨h.row.put j z, h.bel.setCell (Nat.le_refl _) _⟩
theorem SI.swp {w w' : World} {blk : Nat} {D : List Int} (h : SI w blk D w') (i j : Nat) {x y : Int} (hx : D.getD i 0 = x) (hy : D.getD j 0 = y) : SI w blk (swp2 D i j) ((w'.setCell ⟨blk, i, none⟩ (.int .i64 y)).setCell ⟨blk, j, none⟩ (.int .i64 x)) := by
  subst hx hy
  exact (h.put i _).put j _
theorem ne_cell {w : World} {blk p q : Nat} {u v : Value} (h : p ≠ q) (hc : w.cell? ⟨blk, q, none⟩ = some v) : (w.setCell ⟨blk, p, none⟩ u).cell? ⟨blk, q, none⟩ = some v :=
  (World.cell?_setCell_other w _ _ _ (by intro e; injection e; omega)).trans hc

end Go.Proofs.Ytmoanndonfmihaa
