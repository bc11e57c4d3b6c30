/-
  What symMergeCmpFunc of package slices does where the one side has one element alone.
-/
import Derived.Test.YtmoanndonfmihaaStabA
import Derived.Deep.QuietTactic
import Derived.BigQuiet
import Derived.Shelf.Abstract
namespace Go.Proofs.Ytmoanndonfmihaa
open Go.RowKit
set_option linter.unusedVariables false

/-- the comparison, in every world in which nothing ahead of block blk has turned -/
def CmpAt (fn : Nat) (cb : Array Value) (cf : Int → Int → Int) (N blk : Nat) (w : World) : Prop :=
  ∀ W, Below blk w W → ∀ x y : Int, 0 ≤ x → x < N → 0 ≤ y → y < N → Calls Try.prog fn (#[.int .i64 x, .int .i64 y] ++ cb) W fun e w' => e = .returned (.int .i64 (cf x y)) ∧ ∃ q, w' = W.drewN q
theorem CmpAt.on {fn : Nat} {cb : Array Value} {cf : Int → Int → Int} {N blk : Nat} {w w' : World} (h : CmpAt fn cb cf N blk w) (b : Below blk w w') : CmpAt fn cb cf N blk w' := fun W k => h W (b.trans k)
theorem CmpAt.quiet {fn : Nat} {cb : Array Value} {cf : Int → Int → Int} {N blk : Nat} {w w' : World} (h : CmpAt fn cb cf N blk w) (b : Below blk w w') {x y : Int} (hx : 0 ≤ x ∧ x < N) (hy : 0 ≤ y ∧ y < N) (n : Nat) :
    Calls Try.prog fn (#[.int .i64 x, .int .i64 y] ++ cb) (w'.drewN n) fun e w'' => e = .returned (.int .i64 (cf x y)) ∧ ∃ q, w'' = (w'.drewN n).drewN q :=
  h (w'.drewN n) (b.trans ⟨rfl, rfl, rfl, by simp [World.drewN], fun k hk => rfl⟩) x y hx.1 hx.2 hy.1 hy.2
/-- the part between A and B holds what L holds, in order -/
def Mg (lx : Int → Int → Prop) (w : World) (blk : Nat) (A L B : List Int) (w' : World) : Prop := ∃ M, SI w blk (A ++ M ++ B) w' ∧ M.Perm L ∧ M.Pairwise lx
theorem swp2_comm (d : List Int) (i j : Nat) (h : i ≠ j) : swp2 d i j = swp2 d j i := by
  unfold swp2
  rw [List.set_comm _ _ h]

end Go.Proofs.Ytmoanndonfmihaa
