/-
  Merged: SumsEq.
-/
import Derived.Test.YtgccipmeiceonaaGreatMa6
import Derived.Laws.StructEq
import Derived.ChangeKeysEq
import Derived.Laws.Rows
-- SumsEq
namespace Go.Proofs.YtgccipmeiceonaaGreat
open Go.RowKit
set_option linter.unusedVariables false

theorem hi_zero : hiOf 0 = 0 := rfl
theorem lo_zero : loOf 0 = 0 := rfl
theorem words_zero (S : Int) : (hiOf S == 0 && loOf S == 0) = decide (S = 0) := by
  by_cases h : S = 0
  · subst h; rfl
  · rw [decide_eq_false h]
    cases e : (hiOf S == 0 && loOf S == 0) with
    | false => rfl
    | true =>
      exfalso
      rw [Bool.and_eq_true, beq_iff_eq, beq_iff_eq] at e
      unfold hiOf loOf at e
      omega
theorem sum_eql (d : Nat) (a b c e : Int) (w : World) : (Op.equalIn (d + 2) 98 (.agg #[.int .i64 a, .int .u64 b]) (.agg #[.int .i64 c, .int .u64 e])).run Tryz.prog w = .ok (a == c && b == e) w := by
  have u3 := Tryz.underlying3
  have u4 := Tryz.underlying96
  have hS : Tryz.prog.underlying 98 = some (.struct (Tryz.prog.fieldsOf 98)) := by kernel_rfl
  have hp : Tryz.prog.stoodInHeld 98 = false := by kernel_rfl
  have a3 : ∀ w, (isAgg 3).run Tryz.prog w = .ok false w := fun w => by kernel_rfl
  have a4 : ∀ w, (isAgg 96).run Tryz.prog w = .ok false w := fun w => by kernel_rfl
  rw [run_equalIn_agg w (d + 1) 98 _ _ hS hp]
  simp only [Program.fieldsOf, Tryz.underlying98]
  go_simp
  by_cases h1 : a = c <;> by_cases h2 : b = e <;> simp [h1, h2]

/-- the words of so many sums -/
def sumsC (m : Nat) (f : Nat → Int) : Array Value := Array.ofFn (n := m * 2) fun i => if i.val % 2 = 0 then .int .i64 (hiOf (f (i.val / 2))) else .int .u64 (loOf (f (i.val / 2)))
theorem sums_size (m : Nat) (f : Nat → Int) : (sumsC m f).size = m * 2 := Array.size_ofFn
theorem sums_at (m : Nat) (f : Nat → Int) (i : Nat) (h : i < m * 2) : (sumsC m f)[i]? = some (if i % 2 = 0 then .int .i64 (hiOf (f (i / 2))) else .int .u64 (loOf (f (i / 2)))) := by
  unfold sumsC
  rw [Array.getElem?_ofFn, dif_pos h]
theorem sums_hi (m : Nat) (f : Nat → Int) (u : Nat) (hu : u < m) : (sumsC m f)[u * 2]? = some (.int .i64 (hiOf (f u))) := by
  rw [sums_at m f _ (by omega), if_pos (by omega), Nat.mul_div_cancel _ (by omega)]
theorem sums_lo (m : Nat) (f : Nat → Int) (u : Nat) (hu : u < m) : (sumsC m f)[u * 2 + 1]? = some (.int .u64 (loOf (f u))) := by
  rw [sums_at m f _ (by omega), if_neg (by omega), show (u * 2 + 1) / 2 = u by omega]
theorem sums_put (m : Nat) (f g : Nat → Int) (u : Nat) (hu : u < m) (h : ∀ x, x ≠ u → g x = f x) :
    ((sumsC m f).setIfInBounds (u * 2) (.int .i64 (hiOf (g u)))).setIfInBounds (u * 2 + 1) (.int .u64 (loOf (g u))) = sumsC m g := by
  apply Array.ext
  · simp [sums_size]
  · intro i h1 h2
    rw [sums_size] at h2
    have e : (sumsC m g)[i]? = _ := sums_at m g i h2
    apply Option.some.inj
    rw [← Array.getElem?_eq_getElem, ← Array.getElem?_eq_getElem, e, Array.getElem?_setIfInBounds, Array.getElem?_setIfInBounds, Array.size_setIfInBounds, sums_size]
    by_cases e1 : u * 2 + 1 = i
    · subst e1
      rw [if_pos rfl, if_pos (by omega), if_neg (by omega), show (u * 2 + 1) / 2 = u by omega]
    · rw [if_neg e1]
      by_cases e2 : u * 2 = i
      · subst e2
        rw [if_pos rfl, if_pos (by omega), if_pos (by omega), show u * 2 / 2 = u by omega]
      · rw [if_neg e2, sums_at m f i h2, h _ (by omega)]
theorem sums_ext {m : Nat} {f g : Nat → Int} (h : ∀ x, x < m → f x = g x) : sumsC m f = sumsC m g := by
  apply Array.ext
  · simp [sums_size]
  · intro i h1 h2
    rw [sums_size] at h1
    apply Option.some.inj
    rw [← Array.getElem?_eq_getElem, ← Array.getElem?_eq_getElem, sums_at m f i h1, sums_at m g i h1, h _ (by omega)]
theorem sums_part (m : Nat) (f : Nat → Int) (u : Nat) (hu : u < m) : (sumsC m f).extract (u * 2) (u * 2 + 2) = #[.int .i64 (hiOf (f u)), .int .u64 (loOf (f u))] := by
  apply Array.ext
  · simp [sums_size]; omega
  · intro i h1 h2
    have h2' : i < 2 := h2
    apply Option.some.inj
    rw [← Array.getElem?_eq_getElem, ← Array.getElem?_eq_getElem, Array.getElem?_extract, if_pos (by simp [sums_size] at h1 ⊢; omega)]
    rcases (show i = 0 ∨ i = 1 by omega) with rfl | rfl
    · rw [Nat.add_zero, sums_hi m f u hu]; rfl
    · rw [sums_lo m f u hu]; rfl
theorem run_part_sums (m : Nat) (f : Nat → Int) (u : Nat) (hu : u < m) (w : World) : (part 98 (sumsC m f) (u * 2)).run Tryz.prog w = .ok (.agg #[.int .i64 (hiOf (f u)), .int .u64 (loOf (f u))]) w := by
  have a := fun w => (by kernel_rfl : (isAgg 98).run Tryz.prog w = .ok true w)
  have z := fun w => (by kernel_rfl : (sizeOf 98).run Tryz.prog w = .ok 2 w)
  simp [part, a, z, sums_part m f u hu]
theorem run_items (m d : Nat) (f g : Nat → Int) (w : World) : ∀ is : List Nat, (∀ i ∈ is, i < m) → (Op.eqItems (d + 2) 98 2 (sumsC m f) (sumsC m g) is).run Tryz.prog w = .ok (is.all fun i => hiOf (f i) == hiOf (g i) && loOf (f i) == loOf (g i)) w
  | [], _ => by simp [Op.eqItems]
  | i :: is, h => by
    simp only [Op.eqItems, Sem.run_bind, run_part_sums m f i (h i (by simp)), run_part_sums m g i (h i (by simp)), Result.andThen_ok, sum_eql, List.all_cons]
    cases (hiOf (f i) == hiOf (g i) && loOf (f i) == loOf (g i)) with
    | false => simp
    | true => simpa using run_items m d f g w is fun j hj => h j (by simp [hj])

end Go.Proofs.YtgccipmeiceonaaGreat
