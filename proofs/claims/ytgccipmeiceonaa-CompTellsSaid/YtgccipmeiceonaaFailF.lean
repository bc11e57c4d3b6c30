/-
  What Find of package fail does; what must be of fails in any case.
-/
import Derived.Test.YtgccipmeiceonaaFailE
namespace Go.Proofs.Ytgccipmeiceonaa
open Go.RowKit Go.Maps
set_option linter.unusedVariables false

/-- the place of the first fail of this number, or -1 -/
def idxF (id : Int) : List (List Int) → Nat → Int
  | [], _ => -1
  | l :: fs, k => if l.getD 0 0 = id then (k : Int) else idxF id fs (k + 1)
theorem some_run (w : World) : Calls Try.prog 68 #[] w fun e w' => e = .returned (.agg #[.int .i64 7, .int .i64 1, .int .i64 2, .int .i64 0, .int .i64 3, .int .i64 739935, .int .i64 100, .int .i64 0, .int .i64 0, .int .i64 0]) ∧ Kpt w w' := by
  have R1 := Lib.hid (Blk.made w #[.int .i64 0, .int .i64 0, .int .i64 0, .int .i64 0, .int .i64 0, .int .i64 0, .int .i64 0, .int .i64 0, .int .i64 0, .int .i64 0] 38)
  have K1 : Hid (Kpt w (w.alloc (.cells #[.int .i64 0, .int .i64 0, .int .i64 0, .int .i64 0, .int .i64 0, .int .i64 0, .int .i64 0, .int .i64 0, .int .i64 0, .int .i64 0] 38))) := (Kpt.refl w).alloc _
  go_enter Try.func68, Try.ntmps68
  go_wp2_with (refine wp_storeF rfl (.tmp 0) (.tmp 1) rfl w.heap.size _ _ rfl rfl R1.out rfl rfl (by simp [Value.oneCell']) ?_; intro w9 r9 k9 _; have R9 := Lib.hid r9; have K9 := Lib.hid (k9 _ _ K1.out (Nat.le_refl _)); clear r9 k9)
  exact bodyPost_ret (v := .agg #[.int .i64 7, .int .i64 1, .int .i64 2, .int .i64 0, .int .i64 3, .int .i64 739935, .int .i64 100, .int .i64 0, .int .i64 0, .int .i64 0]) (results_cell_row Try.results68 _ _ w.heap.size _ _ _ _ rfl R9.out Try.underlying38 rfl Try.sizeFail) rfl ⟨rfl, K9.out⟩

end Go.Proofs.Ytgccipmeiceonaa
