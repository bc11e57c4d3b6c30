/-
  Merged: DueApp, DueStep.
-/
import Derived.Test.YtgccipmeiceonaaMp8
import Derived.Test.YtgccipmeiceonaaOwn
import Derived.Test.YtgccipmeiceonaaMp7
import Derived.Test.YtgccipmeiceonaaMp2
import Derived.Deep.RegionHeld3
import Derived.Deep.AppendLies
-- DueApp
namespace Go.Proofs.Ytgccipmeiceonaa
open Go.RowKit
set_option linter.unusedVariables false

theorem Try.infoDue : (Try.prog.info? 80).map (fun i => (i.zero, i.size, i.bytes)) = some (some (.agg #[.int .i64 0, .int .i64 0, .int .i64 0]), 3, 24) := by kernel_rfl
theorem OwnsT.block_lt {T : TypeId} {w : World} {base : Nat} {v : Value} {ps : List (Int × Int × Int)} (h : OwnsT T w base v ps) : ∀ k, v.ownBlock = some k → k < w.heap.size := by
  intro k hk
  rcases h.2 with ⟨rfl, _⟩ | ⟨g, cap, cur, rfl, hg, hh, _⟩
  · simp [Value.ownBlock] at hk
  · simp [Value.ownBlock] at hk; subst hk; exact heap_lt hh
theorem OwnsT.other {T : TypeId} {w w' : World} {base : Nat} {u : Value} {ps : List (Int × Int × Int)} {row : Option Nat} (h : OwnsT T w base u ps) (g : w.grownBy w' row) (hr : u.ownBlock = none ∨ u.ownBlock ≠ row) : OwnsT T w' base u ps := by
  obtain ⟨h1, h2⟩ := h
  refine ⟨h1, ?_⟩
  rcases h2 with h2 | ⟨k, cap, cur, rfl, hk, hh, r⟩
  · exact .inl h2
  · refine .inr ⟨k, cap, cur, rfl, hk, (g.block k (heap_lt hh) ?_).trans hh, r⟩
    rcases hr with hr | hr
    · simp [Value.ownBlock] at hr
    · simpa [Value.ownBlock] using hr
theorem wp_appendD {ops : Array Oper} {rest : List Oper} {o : Oper} {a : Act} {Q : Exit → Act → World → Prop} (hgd : o.guard = none) (s x : Operand)
    (ho : o.op = .call { callee := .builtin .append, args := #[s, x], argTypes := #[30, 30] })
    (base : Nat) (v : Value) (ps : List (Int × Int × Int)) (f t n : Int) (w : World) (hs : a.eval s = v) (hown : OwnsT 80 w base v ps) (hx : a.eval x = .slice (some ⟨w.heap.size, 0, none⟩) 1 1)
    (hlen : ps.length + 1 ≤ 100000) (hbase : base ≤ w.heap.size) (u : Value) (us : List (Int × Int × Int)) (hu : OwnsT 80 w base u us) (huv : Apart u v)
    (h : ∀ v' w', OwnsT 80 w' base v' (ps ++ [(f, t, n)]) → Below base w w' → OwnsT 80 w' base u us → Apart u v' → Apart v' u → wpList Try.prog ops Q rest (a.put o.dst v') w') : wpList Try.prog ops Q (o :: rest) a (w.alloc (.cells #[.int .i64 f, .int .i64 t, .int .i64 n] 80)) := by
  obtain ⟨i0, hi, hz0, hz1, hz2⟩ := info_parts Try.infoDue
  refine wpList_append_lies _ hgd s x 30 ho base 80 i0 (.agg #[.int .i64 0, .int .i64 0, .int .i64 0]) 3 24 Try.underlying30 hi hz0 hz1 hz2 rfl (by decide) v _ _ hs (hown.alloc _) ⟨w.heap.size, 0, none⟩ 1 1 [.int .i64 f, .int .i64 t, .int .i64 n] hx rfl (World.news_of_block (heap_alloc_new w _)) ?_ (by decide) ?_ ?_ ?_ (w.heap.size + 1) (by simp) ?_
  · intro u hu
    simp at hu
    rcases hu with rfl | rfl | rfl <;> rfl
  · unfold maxLen; omega
  · omega
  · rw [World.size_alloc]; omega
  · intro g cap w' h1 h2 h3 h4
    have hlt := hu.block_lt
    have ap : u.ownBlock = none ∨ u.ownBlock ≠ some g := by
      rcases huv with e | e
      · exact .inl e
      · rcases h3 with e' | e'
        · rw [e'] at e; exact .inr e
        · refine .inr fun e'' => ?_
          have := hlt g e''
          omega
    refine h _ w' ?_ ?_ ((hu.alloc _).other h2 huv) ap ?_
    · unfold OwnsT
      rw [List.length_append, flatP_append]
      exact h1
    · exact ((Below.refl base w).alloc hbase _).grown h2 (by rw [World.size_alloc]; omega) hown.ge
    · refine .inr fun e => ?_
      rcases ap with e' | e'
      · rw [e'] at e; simp [Value.ownBlock] at e
      · exact e' e.symm

end Go.Proofs.Ytgccipmeiceonaa

-- DueStep
namespace Go.Proofs.Ytgccipmeiceonaa
open Go.RowKit Go.Lib
set_option linter.unusedVariables false

theorem dt_kpt {T : TypeId} {w w' : World} {base : Nat} {v : Value} {ps : List (Int × Int × Int)} (h : OwnsT T w base v ps) (g : Kpt w w') : OwnsT T w' base v ps := by
  obtain ⟨h1, h2⟩ := h
  refine ⟨h1, ?_⟩
  rcases h2 with h2 | ⟨k, cap, cur, rfl, hk, hh, r⟩
  · exact .inl h2
  · exact .inr ⟨k, cap, cur, rfl, hk, (Below.block g k (heap_lt hh)).trans hh, r⟩
theorem step_appendD {ops : Array Oper} {o : Oper} {a : Act} {w : World} {K : Act → World → Prop} {Q : Exit → Act → World → Prop} {E : Prop} (hgd : o.guard = none) (s x : Operand)
    (ho : o.op = .call { callee := .builtin .append, args := #[s, x], argTypes := #[30, 30] })
    (base : Nat) (v : Value) (ps : List (Int × Int × Int)) (f t n : Int) (hs : a.eval s = v) (hown : OwnsT 80 w base v ps) (B : Nat) (hx : a.eval x = .slice (some ⟨B, 0, none⟩) 1 1) (hB : Blk w B #[.int .i64 f, .int .i64 t, .int .i64 n] 80)
    (hlen : ps.length + 1 ≤ 100000) (hbase : base ≤ w.heap.size)
    (h : ∀ g m cap w', m = ps.length + 1 → OwnsT 80 w' base (.slice (some ⟨g, 0, none⟩) m cap) (ps ++ [(f, t, n)]) → Below base w w' → K (a.put o.dst (.slice (some ⟨g, 0, none⟩) m cap)) w') :
    if Region.wanted o (yielded ops a.tmps) = true then Oper.wp Try.prog o a w K Q else E := by
  obtain ⟨i0, hi, hz0, hz1, hz2⟩ := info_parts Try.infoDue
  refine step_append_lies _ hgd s x 30 ho base 80 i0 (.agg #[.int .i64 0, .int .i64 0, .int .i64 0]) 3 24 Try.underlying30 hi hz0 hz1 hz2 rfl (by decide) v _ _ hs hown ⟨B, 0, none⟩ 1 1 [.int .i64 f, .int .i64 t, .int .i64 n] hx rfl (World.news_of_block hB) ?_ (by decide) ?_ ?_ hbase w.heap.size rfl ?_
  · intro u hu
    simp at hu
    rcases hu with rfl | rfl | rfl <;> rfl
  · unfold maxLen; omega
  · omega
  · intro g cap w' h1 h2 h3 h4
    refine h g _ cap w' rfl ?_ ?_
    · unfold OwnsT
      rw [List.length_append, flatP_append]
      exact h1
    · exact (Below.refl base w).grown h2 hbase hown.ge

end Go.Proofs.Ytgccipmeiceonaa
