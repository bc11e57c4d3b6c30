/-
  Merged: ClmStep.
-/
import Derived.Test.YtgccipmeiceonaaMk19
import Derived.Deep.RegionHeld3
import Derived.Deep.AppendLies
-- ClmStep
namespace Go.Proofs.Ytgccipmeiceonaa
open Go.RowKit Go.Lib
set_option linter.unusedVariables false

theorem ct_kpt {T : TypeId} {w w' : World} {base : Nat} {v : Value} {ps : List (Int × Int × Int)} (h : OwnsT T w base v ps) (g : Kpt w w') : OwnsT T w' base v ps := by
  obtain ⟨h1, h2⟩ := h
  refine ⟨h1, ?_⟩
  rcases h2 with h2 | ⟨k, cap, cur, rfl, hk, hh, r⟩
  · exact .inl h2
  · exact .inr ⟨k, cap, cur, rfl, hk, (Below.block g k (heap_lt hh)).trans hh, r⟩
theorem step_cD {ops : Array Oper} {o : Oper} {a : Act} {w : World} {K : Act → World → Prop} {Q : Exit → Act → World → Prop} {E : Prop} (hgd : o.guard = none) (s x : Operand)
    (ho : o.op = .call { callee := .builtin .append, args := #[s, x], argTypes := #[30, 30] })
    (base : Nat) (v : Value) (ps : List (Int × Int × Int)) (f t n : Int) (hs : a.eval s = v) (hown : OwnsT 80 w base v ps) (B : Nat) (hx : a.eval x = .slice (some ⟨B, 0, none⟩) 1 1) (hB : Blk w B #[.int .i64 f, .int .i64 t, .int .i64 n] 80)
    (hlen : ps.length + 1 ≤ 100000) (hbase : base ≤ w.heap.size) (u : Value) (us : List (Int × Int × Int)) (hu : OwnsT 94 w base u us)
    (h : ∀ g m cap w', m = ps.length + 1 → OwnsT 80 w' base (.slice (some ⟨g, 0, none⟩) m cap) (ps ++ [(f, t, n)]) → OwnsT 94 w' base u us → Below base w w' → K (a.put o.dst (.slice (some ⟨g, 0, none⟩) m cap)) w') :
    if Region.wanted o (yielded ops a.tmps) = true then Oper.wp Try.prog o a w K Q else E := by
  obtain ⟨i0, hi, hz0, hz1, hz2⟩ := info_parts Try.infoDueC
  refine step_append_lies _ hgd s x 30 ho base 80 i0 (.agg #[.int .i64 0, .int .i64 0, .int .i64 0]) 3 24 Try.underlying30 hi hz0 hz1 hz2 rfl (by decide) v _ _ hs hown ⟨B, 0, none⟩ 1 1 [.int .i64 f, .int .i64 t, .int .i64 n] hx rfl (World.news_of_block hB) ?_ (by decide) ?_ ?_ hbase w.heap.size rfl ?_
  · intro u hu
    simp at hu
    rcases hu with rfl | rfl | rfl <;> rfl
  · unfold maxLen; omega
  · omega
  · intro g cap w' h1 h2 h3 h4
    refine h g _ cap w' rfl ?_ (hu.grown (by decide) hown h2) ?_
    · unfold OwnsT
      rw [List.length_append, flatP_append]
      exact h1
    · exact (Below.refl base w).grown h2 hbase hown.ge
theorem step_cP {ops : Array Oper} {o : Oper} {a : Act} {w : World} {K : Act → World → Prop} {Q : Exit → Act → World → Prop} {E : Prop} (hgd : o.guard = none) (s x : Operand)
    (ho : o.op = .call { callee := .builtin .append, args := #[s, x], argTypes := #[39, 39] })
    (base : Nat) (v : Value) (ps : List (Int × Int × Int)) (f t n f2 t2 n2 : Int) (hs : a.eval s = v) (hown : OwnsT 94 w base v ps) (B : Nat) (hx : a.eval x = .slice (some ⟨B, 0, none⟩) 2 2) (hB : Blk w B #[.int .i64 f, .int .i64 t, .int .i64 n, .int .i64 f2, .int .i64 t2, .int .i64 n2] 94)
    (hlen : ps.length + 2 ≤ 100000) (hbase : base ≤ w.heap.size) (u : Value) (us : List (Int × Int × Int)) (hu : OwnsT 80 w base u us)
    (h : ∀ g m cap w', m = ps.length + 2 → OwnsT 94 w' base (.slice (some ⟨g, 0, none⟩) m cap) (ps ++ [(f, t, n), (f2, t2, n2)]) → OwnsT 80 w' base u us → Below base w w' → K (a.put o.dst (.slice (some ⟨g, 0, none⟩) m cap)) w') :
    if Region.wanted o (yielded ops a.tmps) = true then Oper.wp Try.prog o a w K Q else E := by
  obtain ⟨i0, hi, hz0, hz1, hz2⟩ := info_parts Try.infoPstC
  refine step_append_lies _ hgd s x 39 ho base 94 i0 (.agg #[.int .i64 0, .int .i64 0, .int .i64 0]) 3 24 Try.underlying39 hi hz0 hz1 hz2 rfl (by decide) v _ _ hs hown ⟨B, 0, none⟩ 2 2 [.int .i64 f, .int .i64 t, .int .i64 n, .int .i64 f2, .int .i64 t2, .int .i64 n2] hx rfl (World.news_of_block hB) ?_ (by decide) ?_ ?_ hbase w.heap.size rfl ?_
  · intro u hu
    simp at hu
    rcases hu with rfl | rfl | rfl | rfl | rfl | rfl <;> rfl
  · unfold maxLen; omega
  · omega
  · intro g cap w' h1 h2 h3 h4
    refine h g _ cap w' rfl ?_ (hu.grown (by decide) hown h2) ?_
    · unfold OwnsT
      rw [List.length_append, flatP_append]
      exact h1
    · exact (Below.refl base w).grown h2 hbase hown.ge

end Go.Proofs.Ytgccipmeiceonaa
