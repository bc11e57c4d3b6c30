/-
  Merged: ExactOf.
-/
import Derived.Test.YtgccipmeiceonaaMp7
-- ExactOf
namespace Go.Proofs.Ytgccipmeiceonaa
open Go.RowKit
set_option linter.unusedVariables false

/-- sums of so many amounts keep within their words -/
theorem okS_mk {S : Int} {k : Nat} (hk : k ≤ 4096) (h0 : -(1152921504606846976 * (k : Int)) ≤ S) (h1 : S ≤ 1152921504606846976 * (k : Int)) : okS S := by
  unfold okS hiOf; omega
theorem sum_bd {zs : List Int} (h : ∀ z ∈ zs, amtB z = true) : -(1152921504606846976 * (zs.length : Int)) ≤ zs.sum ∧ zs.sum ≤ 1152921504606846976 * (zs.length : Int) := by
  induction zs with
  | nil => simp
  | cons a l ih =>
    have h1 := ih fun z hz => h z (by simp [hz])
    have h2 := amt_t (h a (by simp))
    rw [List.sum_cons, List.length_cons]
    omega
theorem sum_take_succ {zs : List Int} {k : Nat} (hk : k < zs.length) : (zs.take (k + 1)).sum = (zs.take k).sum + zs.getD k 0 := by
  rw [List.take_succ_eq_append_getElem hk, List.sum_append, List.getD_eq_getElem?_getD, List.getElem?_eq_getElem hk]
  simp
theorem getD_mem {zs : List Int} {k : Nat} (hk : k < zs.length) : zs.getD k 0 ∈ zs := by
  rw [List.getD_eq_getElem?_getD, List.getElem?_eq_getElem hk]; simp
theorem okS_take {zs : List Int} (h : ∀ z ∈ zs, amtB z = true) (hn : zs.length ≤ 4096) (k : Nat) : okS (zs.take k).sum := by
  have h1 := sum_bd (zs := zs.take k) fun z hz => h z (List.mem_of_mem_take hz)
  exact okS_mk (k := (zs.take k).length) (by rw [List.length_take]; omega) h1.1 h1.2

theorem of_second (w : World) (cs ds : Array Value) (T : TypeId) : Blk ((w.alloc (.cells cs T)).alloc (.cells ds T)) (w.heap.size + 1) ds T := by
  have := Blk.made (w.alloc (.cells cs T)) ds T
  rwa [World.size_alloc] at this
theorem plus_at (S n : Int) (w : World) (hS : okS S) (hn0 : -9223372036854775808 ≤ n) (hn1 : n ≤ 9223372036854775807) :
    Calls Try.prog 119 #[.agg #[.int .i64 (hiOf S), .int .u64 (loOf S)], .int .i64 n] w fun e w' => e = .returned (.agg #[.int .i64 (hiOf (S + n)), .int .u64 (loOf (S + n))]) ∧ Grew w w' := plus_run S n w hS hn0 hn1

end Go.Proofs.Ytgccipmeiceonaa
