/-
  What is asked ahead of symMergeCmpFunc of package slices, and what it then does: words.
-/
import Derived.Test.YtmecggncedhehaaStabB
namespace Go.Proofs.Ytmecggncedhehaa
open Go.RowKit
set_option linter.unusedVariables false

/-- two parts in order, one behind the other; each place in the first one is ahead of each in the second one -/
structure SmPre (cf : Int → Int → Int) (lx : Int → Int → Prop) (N blk : Nat) (A U V B : List Int) (a m b : Nat) (w : World) : Prop where
  row : Row w blk (A ++ U ++ V ++ B)
  ha : A.length = a
  hm : a + U.length = m
  hb : m + V.length = b
  hU : U.Pairwise lx
  hV : V.Pairwise lx
  hlt : ∀ u ∈ U, ∀ v ∈ V, u < v
  hub : ∀ x ∈ U, 0 ≤ x ∧ x < N
  hvb : ∀ x ∈ V, 0 ≤ x ∧ x < N
  hl : (A ++ U ++ V ++ B).length ≤ 1000000
/-- it merges all parts of k elements together, or fewer -/
def SmOk (fn : Nat) (cb : Array Value) (cf : Int → Int → Int) (lx : Int → Int → Prop) (N blk cap k : Nat) : Prop :=
  ∀ (A U V B : List Int) (a m b : Nat) (w : World), SmPre cf lx N blk A U V B a m b w → 0 < U.length → 0 < V.length → U.length + V.length ≤ k → CmpAt fn cb cf N blk w →
    Calls Try.prog 149 #[.slice (some ⟨blk, 0, none⟩) (A ++ U ++ V ++ B).length cap, .int .i64 a, .int .i64 m, .int .i64 b, .func (.func fn) #[] cb] w fun e w' => e = .returned (.tuple #[]) ∧ Mg lx w blk A (U ++ V) B w'

end Go.Proofs.Ytmecggncedhehaa
