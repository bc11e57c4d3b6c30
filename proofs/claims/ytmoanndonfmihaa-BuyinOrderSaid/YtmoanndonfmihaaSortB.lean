/-
  What greatestFirst of package share does at fewer than twenty numbers: contracts.
-/
import Derived.Test.YtmoanndonfmihaaSortA
namespace Go.Proofs.Ytmoanndonfmihaa
open Go.RowKit Go.Lib
set_option linter.unusedVariables false

theorem size_inner {α : Type} [Inhabited α] (lt : α → α → Bool) (a : Nat) : ∀ (j : Nat) (d : Array α), (Sort.insInner lt a j d).size = d.size := by
  intro j
  induction j with
  | zero => intro d; rfl
  | succ j ih =>
    intro d
    unfold Sort.insInner
    split
    · rw [ih]; simp [Sort.swp]
    · rfl
theorem size_outer {α : Type} [Inhabited α] (lt : α → α → Bool) (a b : Nat) : ∀ (n i : Nat) (d : Array α), b - i ≤ n → (Sort.insOuter lt a b i d).size = d.size := by
  intro n
  induction n with
  | zero => intro i d h; unfold Sort.insOuter; rw [if_neg (by omega)]
  | succ n ih =>
    intro i d h
    unfold Sort.insOuter
    split
    · rw [ih _ _ (by omega), size_inner]
    · rfl
theorem plc_size (m : Nat) : (plc m).size = m + 1 := by simp [plc]
theorem ord_size (nums : List Int) (m : Nat) : (ord nums m).size = m + 1 := by
  unfold ord Sort.insertionSort; rw [size_outer _ _ _ _ _ _ (Nat.le_refl _), plc_size]
theorem vals_len {m : Nat} (d : Array (Fin (m + 1))) : (vals d).length = d.size := by simp [vals]

/-- the row of places is sorted, and nothing else turns -/
def Sorted (w : World) (blk : Nat) (zs : List Int) (e : Ending) (w' : World) : Prop := e = .returned (.tuple #[]) ∧ Row w' blk zs ∧ ∀ B, B ≤ blk → Below B w w'

end Go.Proofs.Ytmoanndonfmihaa
