/-
  Merged: CalD.
-/
import Derived.RangeFuncNested
import Derived.RangeFuncBound
import Derived.RangeFuncCalls
import Derived.RangeFuncLeaves
import Derived.RangeFuncFrom
import Derived.Shelf.Abstract
import Derived.Shelf.RegionOpen
import Derived.OwnWalkIn
import Derived.TacticsInMore
import Derived.LoopNIn
import Derived.LoopIn
import Derived.Test.YtagmgpdgiphhbaaMc1
import Derived.Test.YtagmgpdgiphhbaaKept
-- CalD
namespace Go.Proofs.Ytagmgpdgiphhbaa
open Go.RowKit Go.Shelf
set_option linter.unusedVariables false
attribute [local go_sem] Oper.semAt_some

/-- those of the first k days, in a direction, that are business days -/
def vis (β : Int → Bool) (start dir : Int) (k : Nat) : List Int := ((List.range k).map fun j : Nat => start + dir * (j : Int)).filter β
theorem vis_t {β : Int → Bool} {start dir : Int} {k : Nat} (h : β (start + dir * (k : Int)) = true) : vis β start dir (k + 1) = vis β start dir k ++ [start + dir * (k : Int)] := by
  unfold vis; rw [List.range_succ, List.map_append, List.filter_append]; simp [h]
theorem vis_f {β : Int → Bool} {start dir : Int} {k : Nat} (h : β (start + dir * (k : Int)) = false) : vis β start dir (k + 1) = vis β start dir k := by
  unfold vis; rw [List.range_succ, List.map_append, List.filter_append]; simp [h]
theorem vis_len (β : Int → Bool) (start dir : Int) (k : Nat) : (vis β start dir k).length ≤ k := by
  unfold vis; refine Nat.le_trans (List.length_filter_le _ _) ?_; simp
theorem vis_pre (β : Int → Bool) (start dir : Int) {k T : Nat} (h : k ≤ T) : vis β start dir k <+: vis β start dir T := by
  induction T with
  | zero => obtain rfl : k = 0 := by omega
            exact List.prefix_refl _
  | succ T ih =>
    by_cases e : k = T + 1
    · rw [e]; exact List.prefix_refl _
    · refine (ih (by omega)).trans ?_
      cases hb : β (start + dir * (T : Int)) with
      | true => rw [vis_t hb]; exact List.prefix_append _ _
      | false => rw [vis_f hb]; exact List.prefix_refl _

/-- T days lie in a direction -/
structure Far (start dir : Int) (T : Nat) : Prop where
  dirs : dir = 1 ∨ dir = -1
  inn : ∀ k : Nat, k < T → 0 ≤ start + dir * (k : Int) ∧ start + dir * (k : Int) ≤ 3652058
  out : start + dir * (T : Int) < 0 ∨ 3652058 < start + dir * (T : Int)
  low : -1 ≤ start + dir * (T : Int) ∧ start + dir * (T : Int) ≤ 3652059

/-- what the closure of business has captured -/
structure Held (w : World) (W : Int) (v : Value) (hs : List Int) (start dir : Int) (b4 b5 b3 : Nat) : Prop where
  c4 : w.cell? ⟨b4, 0, none⟩ = some (.int .i64 start)
  c5 : w.cell? ⟨b5, 0, none⟩ = some (.int .i64 dir)
  c30 : w.cell? ⟨b3, 0, none⟩ = some (.int .i64 W)
  c31 : w.cell? ⟨b3, 1, none⟩ = some v
  rd : Reads w v hs
theorem Held.kpt {w w' : World} {W : Int} {v : Value} {hs : List Int} {start dir : Int} {b4 b5 b3 : Nat} (h : Held w W v hs start dir b4 b5 b3) (g : Kpt w w') : Held w' W v hs start dir b4 b5 b3 :=
  ⟨g.cell h.c4, g.cell h.c5, g.cell h.c30, g.cell h.c31, h.rd.kpt g⟩

/-- the many-th of those that come -/
def nthR (l : List Int) (many : Nat) : Int := if many ≤ l.length then l.getD (many - 1) 0 else 0
def nthE (l : List Int) (many : Nat) : Int := if many ≤ l.length then 0 else 8
theorem nth_in {l : List Int} {pre : List Int} {x : Int} (h : pre ++ [x] <+: l) : nthR l (pre.length + 1) = x ∧ nthE l (pre.length + 1) = 0 := by
  obtain ⟨t, rfl⟩ := h
  have : pre.length + 1 ≤ (pre ++ [x] ++ t).length := by simp
  unfold nthR nthE
  rw [if_pos this, if_pos this]
  refine ⟨?_, rfl⟩
  rw [List.getD_eq_getElem?_getD, List.append_assoc, List.getElem?_append_right (by omega)]
  simp
theorem nth_out {l : List Int} {many : Nat} (h : l.length < many) : nthR l many = 0 ∧ nthE l many = 8 := by
  unfold nthR nthE
  rw [if_neg (by omega), if_neg (by omega)]
  exact ⟨rfl, rfl⟩

end Go.Proofs.Ytagmgpdgiphhbaa
