/-
  What merge of package book does.
-/
import Derived.Test.YtklaojahocjeiaaBookG
import Derived.Test.YtklaojahocjeiaaMergeMath
namespace Go.Proofs.Ytklaojahocjeiaa
open Go.RowKit Go.Sort Go.Lib
set_option linter.unusedVariables false

theorem OwnsP.kpt {w w' : World} {base : Nat} {v : Value} {ps : List (Int × Int × Int)} (h : OwnsP w base v ps) (g : Kpt w w') : OwnsP w' base v ps := by
  obtain ⟨h1, h2⟩ := h
  refine ⟨h1, ?_⟩
  rcases h2 with h2 | ⟨k, cap, cur, e, hk, hh, r⟩
  · exact .inl h2
  · exact .inr ⟨k, cap, cur, e, hk, (Below.block g k (Array.getElem?_eq_some_iff.1 hh).1).trans hh, r⟩
theorem OwnsP.away {w : World} {base : Nat} {v : Value} {ps : List (Int × Int × Int)} (h : OwnsP w base v ps) {p : Addr} (hp : some p.block ≠ v.ownBlock) (u : Value) : OwnsP (w.setCell p u) base v ps := by
  obtain ⟨h1, h2⟩ := h
  refine ⟨h1, ?_⟩
  rcases h2 with h2 | ⟨g, cap, cur, rfl, hg, hh, r⟩
  · exact .inl h2
  · exact .inr ⟨g, cap, cur, rfl, hg, (Below.heap_setCell w p u g (fun e => hp (by simp [Value.ownBlock, e]))).trans hh, r⟩
theorem OwnsP.lt {w : World} {base : Nat} {v : Value} {ps : List (Int × Int × Int)} (h : OwnsP w base v ps) {k : Nat} (hk : w.heap.size ≤ k) : some k ≠ v.ownBlock := fun e => by
  rcases h.2 with ⟨rfl, _⟩ | ⟨g, cap, cur, rfl, hg, hh, _⟩
  · simp [Value.ownBlock] at e
  · simp [Value.ownBlock] at e
    have := (Array.getElem?_eq_some_iff.1 hh).1
    omega
theorem kpt_grown_by (w : World) (n : Nat) (os : Array Obj) : Kpt w (Go.Sort.grow (w.drewN n) os) := ((Kpt.refl w).drewN n).grow os
def MergeRes (w : World) (s : List (Int × Int × Int)) (e : Ending) (w' : World) : Prop :=
  Kpt w w' ∧ ((∃ a u, amtB (sumAt s a u) = false ∧ e = .returned (.tuple #[.slice none 0 0, .int .i64 8])) ∨
    (∃ L v, IsBook L s ∧ (∀ a u, amtB (sumAt s a u) = true) ∧ L.length ≤ s.length ∧ OwnsP w' w.heap.size v L ∧ e = .returned (.tuple #[v, .int .i64 0])))

theorem inner_next {s : List (Int × Int × Int)} {j : Nat} (hs : s.Pairwise (fun x y => plc x ≤ plc y)) (hj : j < s.length) {x : Int} (h : x < plc (s.getD j default)) : ∀ y ∈ s.drop j, x < plc y := by
  intro y hy
  rw [List.drop_eq_getElem_cons hj] at hy
  rw [List.getD_eq_getElem?_getD, List.getElem?_eq_getElem hj] at h
  simp only [Option.getD_some] at h
  rcases List.mem_cons.1 hy with rfl | hy
  · exact h
  · have hp : (s.drop j).Pairwise (fun x y => plc x ≤ plc y) := hs.sublist (List.drop_sublist j s)
    rw [List.drop_eq_getElem_cons hj] at hp
    have := (List.pairwise_cons.1 hp).1 y hy
    omega
theorem pairs_at {s : List (Int × Int × Int)} {k j : Nat} (hs : s.Pairwise (fun x y => plc x ≤ plc y)) (hk : k ≤ j) (hj : j < s.length) : plc (s.getD k default) ≤ plc (s.getD j default) := by
  rcases Nat.lt_or_ge k j with h | h
  · have := List.pairwise_iff_getElem.1 hs k j (by omega) hj h
    rwa [List.getD_eq_getElem?_getD, List.getElem?_eq_getElem (by omega), List.getD_eq_getElem?_getD, List.getElem?_eq_getElem hj]
  · obtain rfl : k = j := by omega
    exact Int.le_refl _

/-- the postings of one place so far, and their sum -/
structure SegAt (s : List (Int × Int × Int)) (k j : Nat) (p : Int × Int × Int) (S : Int) : Prop where
  le : k ≤ j
  same : ∀ x ∈ seg s k j, plc x = plc p
  sum : S = ((seg s k j).map (·.2.2)).sum
theorem seg_start (s : List (Int × Int × Int)) (k : Nat) (p : Int × Int × Int) : SegAt s k k p 0 := ⟨Nat.le_refl _, by rw [seg_self]; simp, by rw [seg_self]; rfl⟩
theorem seg_step {s : List (Int × Int × Int)} {k j : Nat} {p : Int × Int × Int} {S : Int} (h : SegAt s k j p S) (hj : j < s.length) (e : plc (s.getD j default) = plc p) : SegAt s k (j + 1) p (S + (s.getD j default).2.2) := by
  refine ⟨by have := h.le; omega, fun x hx => ?_, ?_⟩
  · rw [seg_succ s h.le hj] at hx
    rcases List.mem_append.1 hx with hx | hx
    · exact h.same x hx
    · rw [List.mem_singleton.1 hx]; exact e
  · rw [seg_succ s h.le hj, List.map_append, List.sum_append, ← h.sum]; simp
theorem seg_okS {s : List (Int × Int × Int)} {k j : Nat} {p : Int × Int × Int} {S : Int} (h : SegAt s k j p S) (hp : ∀ x ∈ s, ptB x = true) (hn : s.length ≤ 4096) : okS S := by
  have h1 := sum_bd (zs := (seg s k j).map (·.2.2)) fun z hz => by
    obtain ⟨x, hx, rfl⟩ := List.mem_map.1 hz
    have := pt_t (hp x (List.mem_of_mem_drop (List.mem_of_mem_take hx)))
    exact amt_mk this.2.2.2.2.2.1 this.2.2.2.2.2.2
  rw [h.sum]
  refine okS_mk (k := (seg s k j).length) ?_ (by simpa using h1.1) (by simpa using h1.2)
  unfold seg
  rw [List.length_take, List.length_drop]
  omega

end Go.Proofs.Ytklaojahocjeiaa
