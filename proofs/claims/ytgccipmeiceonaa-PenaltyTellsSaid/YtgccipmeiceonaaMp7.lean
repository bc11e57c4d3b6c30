/-
  Merged: Blk, Exact.
-/
import Derived.Test.YtgccipmeiceonaaBase
import Derived.Laws.Rows
import Derived.Test.YtgccipmeiceonaaMp6
import Derived.Laws.Externs
-- Blk
namespace Go.Proofs.Ytgccipmeiceonaa
open Go.RowKit
set_option linter.unusedVariables false

/-- block g holds just these cells, none of them frozen -/
def Blk (w : World) (g : Nat) (cs : Array Value) (T : TypeId) : Prop := w.heap[g]? = some (.cells cs T (0, 0))
theorem Blk.lt {w : World} {g : Nat} {cs : Array Value} {T : TypeId} (h : Blk w g cs T) : g < w.heap.size := by
  rcases Nat.lt_or_ge g w.heap.size with k | k
  · exact k
  · unfold Blk at h; rw [Array.getElem?_eq_none k] at h; cases h
theorem Blk.cell {w : World} {g : Nat} {cs : Array Value} {T : TypeId} (h : Blk w g cs T) (j : Nat) : w.cell? ⟨g, j, none⟩ = cs[j]? := cell_of_row w g j cs T (0, 0) h
theorem Blk.frozen {w : World} {g : Nat} {cs : Array Value} {T : TypeId} (h : Blk w g cs T) (j : Nat) : w.frozen? ⟨g, j, none⟩ = false := by
  unfold Blk at h
  simp [World.frozen?, h]
theorem Blk.block {w w' : World} {g : Nat} {cs : Array Value} {T : TypeId} (h : Blk w g cs T) (e : w'.heap[g]? = w.heap[g]?) : Blk w' g cs T := e.trans h
theorem Blk.below {w w' : World} {B g : Nat} {cs : Array Value} {T : TypeId} (h : Blk w g cs T) (b : Below B w w') (hg : g < B) : Blk w' g cs T := h.block (b.block g hg)
theorem Blk.grew {w w' : World} {g : Nat} {cs : Array Value} {T : TypeId} (h : Blk w g cs T) (b : Grew w w') : Blk w' g cs T := h.below b.below h.lt
theorem Blk.put {w : World} {g : Nat} {cs : Array Value} {T : TypeId} (h : Blk w g cs T) (j : Nat) (v : Value) : Blk (w.setCell ⟨g, j, none⟩ v) g (cs.setIfInBounds j v) T := by
  unfold Blk at h ⊢
  simp [World.setCell, Array.getElem?_modify, h]
theorem Blk.away {w : World} {g : Nat} {cs : Array Value} {T : TypeId} (h : Blk w g cs T) {p : Addr} (hp : g ≠ p.block) (u : Value) : Blk (w.setCell p u) g cs T := h.block (Below.heap_setCell w p u g hp)
theorem Blk.made (w : World) (cs : Array Value) (T : TypeId) : Blk (w.alloc (.cells cs T)) w.heap.size cs T := heap_alloc_new w _
theorem Blk.alloc {w : World} {g : Nat} {cs : Array Value} {T : TypeId} (h : Blk w g cs T) (o : Obj) : Blk (w.alloc o) g cs T := h.below (Below.alloc (Below.refl w.heap.size w) (Nat.le_refl _) o) h.lt
theorem Blk.drew {w : World} {g : Nat} {cs : Array Value} {T : TypeId} (h : Blk w g cs T) : Blk w.drew g cs T := h

end Go.Proofs.Ytgccipmeiceonaa

-- Exact
namespace Go.Proofs.Ytgccipmeiceonaa
open Go.RowKit
set_option linter.unusedVariables false

/-- the words of a sum -/
def hiOf (S : Int) : Int := S / 18446744073709551616
def loOf (S : Int) : Int := S % 18446744073709551616
def sumV (S : Int) : Value := .agg #[.int .i64 (hiOf S), .int .u64 (loOf S)]
/-- a sum that keeps well within its words -/
def okS (S : Int) : Prop := -65536 ≤ hiOf S ∧ hiOf S ≤ 65536
theorem lo_bd (S : Int) : 0 ≤ loOf S ∧ loOf S ≤ 18446744073709551615 := by unfold loOf; omega

theorem add64_run (x y : Int) (hx : 0 ≤ x) (hy : 0 ≤ y) (w : World) :
    (callFunc 141 #[.int .u64 x, .int .u64 y, .int .u64 0]).run Try.prog w =
      .ok (.value (.tuple #[.int .u64 ((x + y) % 18446744073709551616), .int .u64 ((x + y) / 18446744073709551616)])) w := by
  rw [run_callFunc_extern Try.func141 (by kernel_rfl) (by kernel_rfl) (by kernel_rfl) (e := add64Entry) (by kernel_rfl), run_add64 x y 0 hx hy (by omega) (by omega)]
  simp only [Result.andThen, Int.add_zero]

theorem plus_words (S n : Int) (hn0 : -9223372036854775808 ≤ n) (hn1 : n ≤ 9223372036854775807) :
    ∃ Z s c t : Int, IntKind.u64.wrap n = Z ∧ (∀ w, (callFunc 141 #[.int .u64 (loOf S), .int .u64 Z, .int .u64 0]).run Try.prog w = .ok (.value (.tuple #[.int .u64 s, .int .u64 c])) w) ∧
      n / 9223372036854775808 = t ∧ 0 ≤ c ∧ c ≤ 1 ∧ -1 ≤ t ∧ t ≤ 0 ∧ hiOf S + t + c = hiOf (S + n) ∧ s = loOf (S + n) := by
  have hl := lo_bd S
  refine ⟨_, _, _, _, rfl, fun w => add64_run _ _ (by omega) (by rw [IntKind.wrap_u64]; omega) w, rfl, ?_⟩
  simp only [IntKind.wrap_u64]
  unfold hiOf loOf
  refine ⟨by omega, by omega, by omega, by omega, by omega, by omega⟩

theorem ret_agg2 {a b c d : Int} (h : a = b) (g : c = d) : Ending.returned (.agg #[.int .i64 a, .int .u64 c]) = .returned (.agg #[.int .i64 b, .int .u64 d]) := by rw [h, g]

set_option maxHeartbeats 400000 in
theorem plus_run (S n : Int) (w : World) (hS : okS S) (hn0 : -9223372036854775808 ≤ n) (hn1 : n ≤ 9223372036854775807) :
    Calls Try.prog 119 #[sumV S, .int .i64 n] w fun e w' => e = .returned (sumV (S + n)) ∧ Grew w w' := by
  obtain ⟨Z, s, c, t, e1, e2, e3, hc0, hc1, ht0, ht1, e4, e5⟩ := plus_words S n hn0 hn1
  obtain ⟨h0, h1⟩ := hS
  have E4 := Lib.hid e4; have E5 := Lib.hid e5
  clear e4 e5
  unfold sumV
  have hl := lo_bd S
  generalize hiOf S = h at h0 h1 E4 ⊢
  generalize loOf S = l at hl e2 ⊢
  go_enter Try.func119, Try.ntmps119
  go_wp2
  refine bodyPost_ret (v := .agg #[.int .i64 (h + t + c), .int .u64 s]) (by simp [results, Try.results119, go_sem]) rfl ⟨ret_agg2 E4.out E5.out, ?_⟩
  exact ((Grew.refl _).alloc _ _).alloc _ _

theorem amount_fit (S : Int) : ∃ L T : Int, wrap64 (loOf S) = L ∧ L / 9223372036854775808 = T ∧ -1 ≤ T ∧ T ≤ 0 ∧ -9223372036854775808 ≤ L ∧ L ≤ 9223372036854775807 ∧ ((hiOf S = T ∧ L = S) ∨ (hiOf S ≠ T ∧ amtB S = false)) := by
  refine ⟨_, _, rfl, rfl, ?_⟩
  have hl := lo_bd S
  unfold wrap64 hiOf loOf at *
  refine ⟨by omega, by omega, by omega, by omega, ?_⟩
  by_cases e : S / 18446744073709551616 = ((S % 18446744073709551616 + 9223372036854775808) % 18446744073709551616 - 9223372036854775808) / 9223372036854775808
  · exact .inl ⟨e, by omega⟩
  · exact .inr ⟨e, amt_no (by omega)⟩

theorem amount_ok (S : Int) (w : World) (hS : amtB S = true) :
    Calls Try.prog 121 #[.agg #[.int .i64 (hiOf S), .int .u64 (loOf S)]] w fun e w' => e = .returned (.tuple #[.int .i64 S, .int .i64 0]) ∧ Grew w w' := by
  obtain ⟨L, T, e1, e2, ht0, ht1, hL0, hL1, hf⟩ := amount_fit S
  obtain ⟨g1, g2⟩ : hiOf S = T ∧ L = S := hf.resolve_right (fun q => by rw [hS] at q; exact absurd q.2 (by decide))
  have a1 := amt_t hS
  have hl := lo_bd S
  clear hf hS
  generalize hiOf S = h at g1 ⊢
  generalize loOf S = l at hl e1 ⊢
  subst g1; subst g2
  go_enter Try.func121, Try.ntmps121
  go_wp2
  go_ret2
  exact ⟨rfl, (Grew.refl _).alloc _ _⟩

theorem amount_no (S : Int) (w : World) (hS : amtB S = false) :
    Calls Try.prog 121 #[.agg #[.int .i64 (hiOf S), .int .u64 (loOf S)]] w fun e w' => e = .returned (.tuple #[.int .i64 0, .int .i64 8]) ∧ Grew w w' := by
  obtain ⟨L, T, e1, e2, ht0, ht1, hL0, hL1, hf⟩ := amount_fit S
  have a1 : S < -1152921504606846976 ∨ 1152921504606846976 < S := by have := amt_f hS; omega
  have hl := lo_bd S
  clear hS
  generalize hiOf S = h at hf ⊢
  generalize loOf S = l at hl e1 ⊢
  rcases hf with ⟨rfl, rfl⟩ | ⟨hq, -⟩
  · rcases a1 with a1 | a1
    all_goals
      go_enter Try.func121, Try.ntmps121
      go_wp2
      go_ret2
      exact ⟨rfl, (Grew.refl _).alloc _ _⟩
  · go_enter Try.func121, Try.ntmps121
    go_wp2
    go_ret2
    exact ⟨rfl, (Grew.refl _).alloc _ _⟩

end Go.Proofs.Ytgccipmeiceonaa
