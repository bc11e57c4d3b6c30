/-
  What is asked ahead of symMergeCmpFunc of package slices, and what it then does: words.
-/
import Derived.Test.YtmoanndonfmihaaStabB
namespace Go.Proofs.Ytmoanndonfmihaa
open Go.RowKit
set_option linter.unusedVariables false

/-- two parts in order, one behind the other; each place in the first one is ahead of each in the second one -/
structure SmPre (cf : Int → Int → Int) (lx : Int → Int → Prop) (N blk : Nat) (A U V B : List Int) (a m b : Nat) (w : World) : Prop where
  row : Row w blk (A ++ U ++ V ++ B)
  ha : A.length = a
  hm : a + U.length = m
  hb : m + V.length = b
  hU : U.Pairwise lx
  hV : V.Pairwise lx
  hlt : ∀ u ∈ U, ∀ v ∈ V, u < v
  hub : ∀ x ∈ U, 0 ≤ x ∧ x < N
  hvb : ∀ x ∈ V, 0 ≤ x ∧ x < N
  hl : (A ++ U ++ V ++ B).length ≤ 1000000
end Go.Proofs.Ytmoanndonfmihaa
