/-
  Merged: FlOwn.
-/
import Derived.Test.YtgccipmeiceonaaMk2
import Derived.Test.YtgccipmeiceonaaMk11
-- FlOwn
namespace Go.Proofs.Ytgccipmeiceonaa
open Go.RowKit
set_option linter.unusedVariables false

theorem Try.infoFail : (Try.prog.info? 38).map (fun i => (i.zero, i.size, i.bytes)) = some (some (.agg #[.int .i64 0, .int .i64 0, .int .i64 0, .int .i64 0, .int .i64 0, .int .i64 0, .int .i64 0, .int .i64 0, .int .i64 0, .int .i64 0]), 10, 80) := by kernel_rfl
theorem OwnsN.readsF {T : TypeId} {w : World} {base : Nat} {v : Value} {fs : List (List Int)} (h : OwnsN 10 T w base v fs) (hb : ∀ l ∈ fs, FlB l) : ReadsF w v fs := by
  obtain ⟨a, cap, rfl, hm, hc⟩ := h.cells
  refine ⟨a, cap, rfl, hm, hb, fun k hk => ?_⟩
  obtain ⟨g, rfl, h'⟩ := hc k hk
  exact ⟨g, 0, rfl, fun j hj => by rw [Nat.zero_add]; exact h' j hj⟩
theorem wp_appendFl {ops : Array Oper} {rest : List Oper} {o : Oper} {a : Act} {Q : Exit → Act → World → Prop} (hgd : o.guard = none) (s x : Operand)
    (ho : o.op = .call { callee := .builtin .append, args := #[s, x], argTypes := #[26, 26] })
    (base : Nat) (v : Value) (fs : List (List Int)) (l : List Int) (z0 z1 z2 z3 z4 z5 z6 z7 z8 z9 : Int) (w : World) (hs : a.eval s = v) (hown : OwnsN 10 38 w base v fs) (hx : a.eval x = .slice (some ⟨w.heap.size, 0, none⟩) 1 1)
    (hl : rowN 10 l = [.int .i64 z0, .int .i64 z1, .int .i64 z2, .int .i64 z3, .int .i64 z4, .int .i64 z5, .int .i64 z6, .int .i64 z7, .int .i64 z8, .int .i64 z9])
    (hlen : fs.length + 1 ≤ 100000) (hbase : base ≤ w.heap.size)
    (h : ∀ v' w', OwnsN 10 38 w' base v' (fs ++ [l]) → Below base w w' → wpList Try.prog ops Q rest (a.put o.dst v') w') : wpList Try.prog ops Q (o :: rest) a (w.alloc (.cells #[.int .i64 z0, .int .i64 z1, .int .i64 z2, .int .i64 z3, .int .i64 z4, .int .i64 z5, .int .i64 z6, .int .i64 z7, .int .i64 z8, .int .i64 z9] 38)) := by
  obtain ⟨i0, hi, hz0, hz1, hz2⟩ := info_parts Try.infoFail
  refine wpList_append_lies _ hgd s x 26 ho base 38 i0 _ 10 80 Try.underlying26 hi hz0 hz1 hz2 rfl (by decide) v _ _ hs (hown.alloc _) ⟨w.heap.size, 0, none⟩ 1 1 (rowN 10 l) hx (rowN_len 10 l) (by rw [hl]; exact World.news_of_block (heap_alloc_new w _)) ?_ (by decide) ?_ ?_ ?_ (w.heap.size + 1) (by simp) ?_
  · intro u hu
    obtain ⟨j, _, rfl⟩ := List.mem_map.1 hu
    rfl
  · unfold maxLen; omega
  · omega
  · rw [World.size_alloc]; omega
  · intro g cap w' h1 h2 h3 h4
    refine h _ w' ?_ ?_
    · unfold OwnsN
      rw [List.length_append, flatN_append]
      have : flatN 10 [l] = rowN 10 l := by simp [flatN]
      rw [this]
      exact h1
    · exact ((Below.refl base w).alloc hbase _).grown h2 (by rw [World.size_alloc]; omega) hown.ge

end Go.Proofs.Ytgccipmeiceonaa
