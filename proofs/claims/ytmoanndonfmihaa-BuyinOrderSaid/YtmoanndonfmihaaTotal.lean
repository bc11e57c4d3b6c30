/-
  What Total of package money does: contracts.
-/
import Derived.Test.YtmoanndonfmihaaPart2
import Derived.Test.YtmoanndonfmihaaExactOf
namespace Go.Proofs.Ytmoanndonfmihaa
open Go.RowKit
set_option linter.unusedVariables false

theorem checkAll2_ok (a b : Int) (T : TypeId) (w : World) (ha : amtB a = true) (hb : amtB b = true) :
    Calls Try.prog 106 #[.slice (some ⟨w.heap.size, 0, none⟩) 2 2] (w.alloc (.cells #[.int .i64 a, .int .i64 b] T)) fun e w' => e = .returned (.int .i64 0) ∧ w.alloc (.cells #[.int .i64 a, .int .i64 b] T) = w' := by
  refine (checkAll2 a b T w).mono ?_
  rintro e w' ⟨rfl, rfl⟩
  exact ⟨ret_int (by rw [allE_cons_t ha, allE_cons_t hb, allE_nil]), rfl⟩
theorem checkAll2_no (a b : Int) (T : TypeId) (w : World) (h : amtB a = false ∨ amtB b = false) :
    Calls Try.prog 106 #[.slice (some ⟨w.heap.size, 0, none⟩) 2 2] (w.alloc (.cells #[.int .i64 a, .int .i64 b] T)) fun e w' => e = .returned (.int .i64 3) ∧ w.alloc (.cells #[.int .i64 a, .int .i64 b] T) = w' := by
  refine (checkAll2 a b T w).mono ?_
  rintro e w' ⟨rfl, rfl⟩
  refine ⟨ret_int ?_, rfl⟩
  rcases h with h | h
  · exact allE_cons_f h
  · exact allE_bad (a := b) (by simp) h

end Go.Proofs.Ytmoanndonfmihaa
