/-
  Merged: DueApp.
-/
import Derived.Test.YtgccipmeiceonaaGreatMa5
import Derived.Test.YtgccipmeiceonaaGreatOwn
-- DueApp
namespace Go.Proofs.YtgccipmeiceonaaGreat
open Go.RowKit
set_option linter.unusedVariables false

theorem Tryz.infoDue : (Tryz.prog.info? 62).map (fun i => (i.zero, i.size, i.bytes)) = some (some (.agg #[.int .i64 0, .int .i64 0, .int .i64 0]), 3, 24) := by kernel_rfl
theorem OwnsT.block_lt {T : TypeId} {w : World} {base : Nat} {v : Value} {ps : List (Int × Int × Int)} (h : OwnsT T w base v ps) : ∀ k, v.ownBlock = some k → k < w.heap.size := by
  intro k hk
  rcases h.2 with ⟨rfl, _⟩ | ⟨g, cap, cur, rfl, hg, hh, _⟩
  · simp [Value.ownBlock] at hk
  · simp [Value.ownBlock] at hk; subst hk; exact heap_lt hh
theorem OwnsT.other {T : TypeId} {w w' : World} {base : Nat} {u : Value} {ps : List (Int × Int × Int)} {row : Option Nat} (h : OwnsT T w base u ps) (g : w.grownBy w' row) (hr : u.ownBlock = none ∨ u.ownBlock ≠ row) : OwnsT T w' base u ps := by
  obtain ⟨h1, h2⟩ := h
  refine ⟨h1, ?_⟩
  rcases h2 with h2 | ⟨k, cap, cur, rfl, hk, hh, r⟩
  · exact .inl h2
  · refine .inr ⟨k, cap, cur, rfl, hk, (g.block k (heap_lt hh) ?_).trans hh, r⟩
    rcases hr with hr | hr
    · simp [Value.ownBlock] at hr
    · simpa [Value.ownBlock] using hr
theorem wp_appendD {ops : Array Oper} {rest : List Oper} {o : Oper} {a : Act} {Q : Exit → Act → World → Prop} (hgd : o.guard = none) (s x : Operand)
    (ho : o.op = .call { callee := .builtin .append, args := #[s, x], argTypes := #[22, 22] })
    (base : Nat) (v : Value) (ps : List (Int × Int × Int)) (f t n : Int) (w : World) (hs : a.eval s = v) (hown : OwnsT 62 w base v ps) (hx : a.eval x = .slice (some ⟨w.heap.size, 0, none⟩) 1 1)
    (hlen : ps.length + 1 ≤ 100000) (hbase : base ≤ w.heap.size) (u : Value) (us : List (Int × Int × Int)) (hu : OwnsT 62 w base u us) (huv : Apart u v)
    (h : ∀ v' w', OwnsT 62 w' base v' (ps ++ [(f, t, n)]) → Below base w w' → OwnsT 62 w' base u us → Apart u v' → Apart v' u → wpList Tryz.prog ops Q rest (a.put o.dst v') w') : wpList Tryz.prog ops Q (o :: rest) a (w.alloc (.cells #[.int .i64 f, .int .i64 t, .int .i64 n] 62)) := by
  obtain ⟨i0, hi, hz0, hz1, hz2⟩ := info_parts Tryz.infoDue
  refine wpList_append_lies _ hgd s x 22 ho base 62 i0 (.agg #[.int .i64 0, .int .i64 0, .int .i64 0]) 3 24 Tryz.underlying22 hi hz0 hz1 hz2 rfl (by decide) v _ _ hs (hown.alloc _) ⟨w.heap.size, 0, none⟩ 1 1 [.int .i64 f, .int .i64 t, .int .i64 n] hx rfl (World.news_of_block (heap_alloc_new w _)) ?_ (by decide) ?_ ?_ ?_ (w.heap.size + 1) (by simp) ?_
  · intro u hu
    simp at hu
    rcases hu with rfl | rfl | rfl <;> rfl
  · unfold maxLen; omega
  · omega
  · rw [World.size_alloc]; omega
  · intro g cap w' h1 h2 h3 h4
    have hlt := hu.block_lt
    have ap : u.ownBlock = none ∨ u.ownBlock ≠ some g := by
      rcases huv with e | e
      · exact .inl e
      · rcases h3 with e' | e'
        · rw [e'] at e; exact .inr e
        · refine .inr fun e'' => ?_
          have := hlt g e''
          omega
    refine h _ w' ?_ ?_ ((hu.alloc _).other h2 huv) ap ?_
    · unfold OwnsT
      rw [List.length_append, flatP_append]
      exact h1
    · exact ((Below.refl base w).alloc hbase _).grown h2 (by rw [World.size_alloc]; omega) hown.ge
    · refine .inr fun e => ?_
      rcases ap with e' | e'
      · rw [e'] at e; simp [Value.ownBlock] at e
      · exact e' e.symm

end Go.Proofs.YtgccipmeiceonaaGreat
