/-
  What Total of package money does: contracts.
-/
import Derived.Test.YtmecggncedhehaaPart2
import Derived.Test.YtmecggncedhehaaExactOf
namespace Go.Proofs.Ytmecggncedhehaa
open Go.RowKit
set_option linter.unusedVariables false

theorem checkAll2_ok (a b : Int) (T : TypeId) (w : World) (ha : amtB a = true) (hb : amtB b = true) :
    Calls Try.prog 89 #[.slice (some ⟨w.heap.size, 0, none⟩) 2 2] (w.alloc (.cells #[.int .i64 a, .int .i64 b] T)) fun e w' => e = .returned (.int .i64 0) ∧ w.alloc (.cells #[.int .i64 a, .int .i64 b] T) = w' := by
  refine (checkAll2 a b T w).mono ?_
  rintro e w' ⟨rfl, rfl⟩
  exact ⟨ret_int (by rw [allE_cons_t ha, allE_cons_t hb, allE_nil]), rfl⟩
theorem checkAll2_no (a b : Int) (T : TypeId) (w : World) (h : amtB a = false ∨ amtB b = false) :
    Calls Try.prog 89 #[.slice (some ⟨w.heap.size, 0, none⟩) 2 2] (w.alloc (.cells #[.int .i64 a, .int .i64 b] T)) fun e w' => e = .returned (.int .i64 3) ∧ w.alloc (.cells #[.int .i64 a, .int .i64 b] T) = w' := by
  refine (checkAll2 a b T w).mono ?_
  rintro e w' ⟨rfl, rfl⟩
  refine ⟨ret_int ?_, rfl⟩
  rcases h with h | h
  · exact allE_cons_f h
  · exact allE_bad (a := b) (by simp) h

theorem total_many (a : Option Addr) (n cap : Nat) (hn : 40 < n) (hb : n ≤ maxLen) (w : World) :
    Calls Try.prog 114 #[.slice a n cap] w fun e w' => e = .returned (.tuple #[.int .i64 0, .int .i64 2]) ∧ w = w' := by
  unfold maxLen at hb
  go_enter Try.func114, Try.ntmps114
  go_wp2
  go_ret2
  exact ⟨rfl, rfl⟩

theorem total_no (a : Option Addr) (n cap : Nat) (zs : List Int) (hn : n ≤ 40) (w : World) (hr : Reads w (.slice a n cap) zs) (h : allE zs = 3) :
    Calls Try.prog 114 #[.slice a n cap] w fun e w' => e = .returned (.tuple #[.int .i64 0, .int .i64 3]) ∧ w = w' := by
  have C := Lib.hid (checkAll_any _ zs w hr)
  rw [h] at C
  clear hr h
  go_enter Try.func114, Try.ntmps114
  go_wp2_with (go_at_call 89; (with_reducible refine C.out.mono ?_); rintro e w' ⟨rfl, rfl⟩)
  go_ret2
  exact ⟨rfl, rfl⟩

set_option maxHeartbeats 400000 in
theorem total_ok (a : Option Addr) (n cap : Nat) (zs : List Int) (hn : n ≤ 40) (w : World) (hr : Reads w (.slice a n cap) zs) (h : allE zs = 0) (hS : amtB zs.sum = true) :
    Calls Try.prog 114 #[.slice a n cap] w fun e w' => e = .returned (.tuple #[.int .i64 zs.sum, .int .i64 0]) ∧ Grew w w' := by
  have hl : zs.length = n := by
    obtain ⟨a', cap', e, -⟩ := hr
    simp only [Value.slice.injEq] at e
    exact e.2.1.symm
  have ha : ∀ z ∈ zs, amtB z = true := by
    rcases allE_cases zs with ⟨_, q⟩ | ⟨q, _⟩
    · exact q
    · omega
  have C := Lib.hid (checkAll_any _ zs w hr)
  have D := Lib.hid (of_any _ zs w hr (by omega) ha)
  rw [h] at C
  clear hr h hl ha
  generalize zs.sum = S at D hS ⊢
  go_enter Try.func114, Try.ntmps114
  go_wp2_with (first
    | (go_at_call 89; (with_reducible refine C.out.mono ?_); rintro e w' ⟨rfl, rfl⟩)
    | (go_at_call 135; (with_reducible refine D.out.mono ?_); rintro e w1 ⟨rfl, g1⟩)
    | (go_at_call 136; (with_reducible refine (amount_ok S _ hS).mono ?_); rintro e w2 ⟨rfl, g2⟩))
  go_ret2
  exact ⟨rfl, gtr g1 g2⟩

set_option maxHeartbeats 400000 in
theorem total_wide (a : Option Addr) (n cap : Nat) (zs : List Int) (hn : n ≤ 40) (w : World) (hr : Reads w (.slice a n cap) zs) (h : allE zs = 0) (hS : amtB zs.sum = false) :
    Calls Try.prog 114 #[.slice a n cap] w fun e w' => e = .returned (.tuple #[.int .i64 0, .int .i64 8]) ∧ Grew w w' := by
  have hl : zs.length = n := by
    obtain ⟨a', cap', e, -⟩ := hr
    simp only [Value.slice.injEq] at e
    exact e.2.1.symm
  have ha : ∀ z ∈ zs, amtB z = true := by
    rcases allE_cases zs with ⟨_, q⟩ | ⟨q, _⟩
    · exact q
    · omega
  have C := Lib.hid (checkAll_any _ zs w hr)
  have D := Lib.hid (of_any _ zs w hr (by omega) ha)
  rw [h] at C
  clear hr h hl ha
  generalize zs.sum = S at D hS ⊢
  go_enter Try.func114, Try.ntmps114
  go_wp2_with (first
    | (go_at_call 89; (with_reducible refine C.out.mono ?_); rintro e w' ⟨rfl, rfl⟩)
    | (go_at_call 135; (with_reducible refine D.out.mono ?_); rintro e w1 ⟨rfl, g1⟩)
    | (go_at_call 136; (with_reducible refine (amount_no S _ hS).mono ?_); rintro e w2 ⟨rfl, g2⟩))
  go_ret2
  exact ⟨rfl, gtr g1 g2⟩

end Go.Proofs.Ytmecggncedhehaa
