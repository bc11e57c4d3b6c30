/-
  Fails: plain words of what they must be; what areWithin and open of package fail do.
-/
import Derived.Test.YtpkhhbplabfeaaaDoorWeek
import Derived.Test.YtpkhhbplabfeaaaDoorSl
namespace Go.Proofs.YtpkhhbplabfeaaaDoor
open Go.RowKit
set_option linter.unusedVariables false

/-- is it from a to b? -/
def btw (a b z : Int) : Bool := decide (a ≤ z ∧ z ≤ b)
theorem btw_t {a b z : Int} (h : btw a b z = true) : a ≤ z ∧ z ≤ b := of_decide_eq_true h
theorem btw_f {a b z : Int} (h : btw a b z = false) : ¬ (a ≤ z ∧ z ≤ b) := of_decide_eq_false h
theorem bt_out {a b z : Int} (h : btw a b z = false) : z < a ∨ b < z := by have := btw_f h; omega
/-- is it a fail, whatever became of it? -/
def fdue (i f t c p d u : Int) : Bool := btw 0 3652058 d && btw 1 1099511627776 i && (btw 0 30 f && btw 0 30 t) && btw 0 5 c && btw 1 20 p && btw 1 1073741824 u
theorem fdue_t {i f t c p d u : Int} (h : fdue i f t c p d u = true) : (0 ≤ d ∧ d ≤ 3652058) ∧ (1 ≤ i ∧ i ≤ 1099511627776) ∧ ((0 ≤ f ∧ f ≤ 30) ∧ (0 ≤ t ∧ t ≤ 30)) ∧ (0 ≤ c ∧ c ≤ 5) ∧ (1 ≤ p ∧ p ≤ 20) ∧ (1 ≤ u ∧ u ≤ 1073741824) := by
  simp only [fdue, Bool.and_eq_true] at h
  obtain ⟨⟨⟨⟨⟨h1, h2⟩, h3, h4⟩, h5⟩, h6⟩, h7⟩ := h
  exact ⟨btw_t h1, btw_t h2, ⟨btw_t h3, btw_t h4⟩, btw_t h5, btw_t h6, btw_t h7⟩
theorem fdue_mk {i f t c p d u : Int} (h : (0 ≤ d ∧ d ≤ 3652058) ∧ (1 ≤ i ∧ i ≤ 1099511627776) ∧ ((0 ≤ f ∧ f ≤ 30) ∧ (0 ≤ t ∧ t ≤ 30)) ∧ (0 ≤ c ∧ c ≤ 5) ∧ (1 ≤ p ∧ p ≤ 20) ∧ (1 ≤ u ∧ u ≤ 1073741824)) : fdue i f t c p d u = true := by
  obtain ⟨h1, h2, ⟨h3, h4⟩, h5, h6, h7⟩ := h
  simp only [fdue, Bool.and_eq_true]
  exact ⟨⟨⟨⟨⟨decide_eq_true h1, decide_eq_true h2⟩, decide_eq_true h3, decide_eq_true h4⟩, decide_eq_true h5⟩, decide_eq_true h6⟩, decide_eq_true h7⟩
/-- may so many be delivered, bought, paid? -/
def ftk (u x b y : Int) : Bool := btw 0 u x && (btw 0 u b && btw 0 u y)
theorem ftk_t {u x b y : Int} (h : ftk u x b y = true) : (0 ≤ x ∧ x ≤ u) ∧ (0 ≤ b ∧ b ≤ u) ∧ (0 ≤ y ∧ y ≤ u) := by
  simp only [ftk, Bool.and_eq_true] at h
  exact ⟨btw_t h.1, btw_t h.2.1, btw_t h.2.2⟩
theorem ftk_mk {u x b y : Int} (h : (0 ≤ x ∧ x ≤ u) ∧ (0 ≤ b ∧ b ≤ u) ∧ (0 ≤ y ∧ y ≤ u)) : ftk u x b y = true := by
  simp only [ftk, Bool.and_eq_true]
  exact ⟨decide_eq_true h.1, decide_eq_true h.2.1, decide_eq_true h.2.2⟩
/-- the error of a fail -/
def failE (i f t c p d u x b y : Int) : Int :=
  if fdue i f t c p d u = true then (if f = t then 1 else if ftk u x b y = true then (if u - x - b - y < 0 then 4 else 0) else 3) else 3
theorem fail_0 {i f t c p d u x b y : Int} (h : failE i f t c p d u x b y = 0) : fdue i f t c p d u = true ∧ f ≠ t ∧ ftk u x b y = true ∧ 0 ≤ u - x - b - y := by
  unfold failE at h
  split at h
  · next h1 =>
    split at h
    · omega
    · next h2 =>
      split at h
      · next h3 =>
        split at h
        · omega
        · exact ⟨h1, h2, h3, by omega⟩
      · omega
  · omega
theorem fail_mk {i f t c p d u x b y : Int} (h1 : fdue i f t c p d u = true) (h2 : f ≠ t) (h3 : ftk u x b y = true) (h4 : 0 ≤ u - x - b - y) : failE i f t c p d u x b y = 0 := by
  unfold failE
  rw [if_pos h1, if_neg h2, if_pos h3, if_neg (by omega)]

theorem all_take {p : Int → Bool} {zs : List Int} {k : Nat} (hk : k < zs.length) : (zs.take (k + 1)).all p = ((zs.take k).all p && p (zs.getD k 0)) := by
  rw [List.take_add_one, List.getElem?_eq_getElem hk, List.all_append, List.getD_eq_getElem?_getD, List.getElem?_eq_getElem hk]
  simp
theorem all_false {p : Int → Bool} {zs : List Int} {k : Nat} (hk : k < zs.length) (h : p (zs.getD k 0) = false) : zs.all p = false := by
  rw [List.all_eq_false]
  refine ⟨zs.getD k 0, ?_, by rw [h]; simp⟩
  rw [List.getD_eq_getElem?_getD, List.getElem?_eq_getElem hk]
  simp

theorem reads_new {w : World} {cs : Array Value} {zs : List Int} (hm : zs.length ≤ maxLen) (h : ∀ j, j < zs.length → cs[j]? = some (.int .i64 (zs.getD j 0))) (cap : Nat) : Reads (w.alloc (.cells cs 3)) (.slice (some ⟨w.heap.size, 0, none⟩) zs.length cap) zs :=
  reads_mk rfl hm fun j hj => by
    rw [Nat.zero_add, cell_of_row _ _ j cs _ (0, 0) (heap_alloc_new w _)]
    exact h j hj
theorem one_at (z : Int) : ∀ j, j < [z].length → (#[Value.int .i64 z] : Array Value)[j]? = some (.int .i64 ([z].getD j 0)) := by
  intro j hj
  have : j = 0 := by simp at hj; exact hj
  subst this; rfl
theorem two_at (z1 z2 : Int) : ∀ j, j < [z1, z2].length → (#[Value.int .i64 z1, Value.int .i64 z2] : Array Value)[j]? = some (.int .i64 ([z1, z2].getD j 0)) := by
  intro j hj
  rcases (show j = 0 ∨ j = 1 by simp at hj; omega) with rfl | rfl <;> rfl
theorem three_at (z1 z2 z3 : Int) : ∀ j, j < [z1, z2, z3].length → (#[Value.int .i64 z1, Value.int .i64 z2, Value.int .i64 z3] : Array Value)[j]? = some (.int .i64 ([z1, z2, z3].getD j 0)) := by
  intro j hj
  rcases (show j = 0 ∨ j = 1 ∨ j = 2 by simp at hj; omega) with rfl | rfl | rfl <;> rfl
end Go.Proofs.YtpkhhbplabfeaaaDoor
