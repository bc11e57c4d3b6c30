/-
  Grid: with more money no less is done: a copy with more in it.
-/
import Derived.Test.YtbfeojdlaajpdaaLawGM
namespace Go.Proofs.Ytbfeojdlaajpdaa
open Go.RowKit
set_option linter.unusedVariables false

/-- append of a whole list to a slice of the call's own -/
theorem wp_appendR {ops : Array Oper} {rest : List Oper} {o : Oper} {a : Act} {Q : Exit → Act → World → Prop} (hgd : o.guard = none) (s x : Operand)
    (ho : o.op = .call { callee := .builtin .append, args := #[s, x], argTypes := #[22, 22] })
    (base : Nat) (v y : Value) (zs us : List Int) (w : World) (hs : a.eval s = v) (hown : Owns w base v zs) (hx : a.eval x = y) (hr : Reads w y us) (h0 : 0 < us.length)
    (hlen : zs.length + us.length ≤ 1000000) (hbase : base ≤ w.heap.size)
    (h : ∀ v' w', Owns w' base v' (zs ++ us) → Below base w w' → wpList Try.prog ops Q rest (a.put o.dst v') w') : wpList Try.prog ops Q (o :: rest) a w := by
  obtain ⟨i0, hi, hz0, hz1, hz2⟩ := info_parts Try.infoInt
  rcases hr.cell with ⟨rfl, _⟩ | ⟨_, b, off, cap, rfl, hc⟩
  · simp at h0
  refine wpList_append_own _ hgd s x 22 ho base 3 i0 (.int .i64 0) 1 8 Try.underlying22 hi hz0 hz1 hz2 rfl (by decide) v _ _ hs hown ⟨b, off, none⟩ us.length cap (us.map (Value.int .i64)) hx (by simp) ?_ ?_ ?_ ?_ ?_ ?_
  · intro j u hu
    have hj : j < us.length := by
      have := (List.getElem?_eq_some_iff.1 hu).1
      simpa using this
    rw [getD_map us j hj] at hu
    rw [Addr.add_lit, hc j hj]
    exact hu
  · intro u hu
    obtain ⟨z, _, rfl⟩ := List.mem_map.1 hu
    rfl
  · unfold maxLen; omega
  · omega
  · exact hbase
  · intro v' w' h1 h2 _
    refine h v' w' ?_ ?_
    · unfold Owns
      rw [List.length_append, List.map_append]
      exact h1
    · exact (Below.refl base w).grown h2 hbase hown.block_ge
theorem Owns.ownI {w : World} {base : Nat} {v : Value} {zs : List Int} (h : Owns w base v zs) (h0 : zs.length = 31) : ∃ g cap, v = .slice (some ⟨g, 0, none⟩) 31 cap ∧ 31 ≤ cap ∧ base ≤ g ∧ OwnI w g zs := by
  obtain ⟨h1, h2⟩ := h
  rw [h0] at h2
  rcases h2 with ⟨rfl, hz⟩ | ⟨k, cap, cur, rfl, hg, hh, hc1, hm, hs, ht⟩
  · omega
  · have hs' : 31 ≤ cur.size := by omega
    refine ⟨k, cap, rfl, hc1, hg, cur, hh, by omega, fun j hj => ?_⟩
    have e : (cur.toList.take (31 * 1))[j]? = some (.int .i64 (zs.getD j 0)) := by
      rw [ht]
      exact getD_map zs j hj
    rw [List.getElem?_take_of_lt (by omega), Array.getElem?_toList] at e
    exact e
theorem Owns.none_made (w : World) : Owns (w.alloc (.cells #[] 3)) w.heap.size (.slice (some ⟨w.heap.size, 0, none⟩) 0 0) [] :=
  World.ownsRow_made w #[] 0 (Nat.le_refl _) (Nat.zero_le _) (by simp)

/-- with more in it the error is one of two -/
theorem rich_err {has : List Int} {ps : List (Int × Int × Int)} (hg : gridE has ps = 0) (p : Nat) (n : Int) : gridE (has.set p n) ps = 0 ∨ gridE (has.set p n) ps = 3 ∨ gridE (has.set p n) ps = 8 := by
  obtain ⟨h31, -, h60, hdu, -⟩ := grid_0 hg
  have hn : netE ps = 0 := by unfold netE; rw [if_neg (by omega)]; exact due_mk hdu
  unfold gridE
  rw [List.length_set, if_neg (by omega)]
  split
  · rw [hn, if_neg (by simp)]
    split
    · exact .inl rfl
    · exact .inr (.inr rfl)
  · exact .inr (.inl rfl)
/-- what is done with less can be paid with more -/
theorem rich_pays {has : List Int} {ps : List (Int × Int × Int)} (hg : gridE has ps = 0) {p : Nat} (hp : p < 31) {more : Int} (hm : 0 ≤ more) {ds : List Nat} (hd : ∀ i ∈ ds, i < ps.length) (h : ∀ q, q < 31 → ¬ (settleF ps has ds).getD q 0 < 0) : ∀ q, q < 31 → ¬ (settleF ps (has.set p (has.getD p 0 + more)) ds).getD q 0 < 0 := by
  obtain ⟨h31, -, -, hdu, -⟩ := grid_0 hg
  intro q hq
  have h1 := h q hq
  rw [settle_at hdu ds hd has h31 q hq] at h1
  rw [settle_at hdu ds hd _ (by rw [List.length_set]; exact h31) q hq]
  have : (has.set p (has.getD p 0 + more)).getD q 0 = has.getD q 0 + (if p = q then more else 0) := by
    rw [List.getD_eq_getElem?_getD, List.getElem?_set]
    by_cases e : p = q
    · subst e; rw [if_pos rfl, if_pos (by omega), if_pos rfl]; rfl
    · rw [if_neg e, if_neg e, List.getD_eq_getElem?_getD]; omega
  rw [this]
  split <;> omega

theorem okD.up {n : Nat} {ds : List Nat} (h : okD n ds) : incN 0 ds := h.1
theorem okD.lt {n : Nat} {ds : List Nat} (h : okD n ds) : ∀ i ∈ ds, i < n := h.2
/-- what GridMore's walk knows when it comes to the loops -/
def Sub (ds cs : List Nat) : Prop := incN 0 ds ∧ incN 0 cs ∧ ∀ i ∈ ds, i ∈ cs
theorem Sub.at0 {ds cs : List Nat} (h : Sub ds cs) : ∀ j, 0 ≤ j → j < ds.length → ∃ t, 0 ≤ t ∧ t < cs.length ∧ cs.getD t 0 = ds.getD j 0 := by
  intro j _ hj
  obtain ⟨t, ht, e⟩ := mem_at (h.2.2 (ds.getD j 0) (by rw [List.getD_eq_getElem?_getD, List.getElem?_eq_getElem hj]; simp))
  exact ⟨t, Nat.zero_le _, ht, e⟩
theorem Sub.next {ds cs : List Nat} (h : Sub ds cs) {i t0 : Nat} (hi : i < ds.length) (ht : t0 < cs.length) (e : cs.getD t0 0 = ds.getD i 0) : ∀ j, i + 1 ≤ j → j < ds.length → ∃ t, t0 ≤ t ∧ t < cs.length ∧ cs.getD t 0 = ds.getD j 0 := by
  intro j h1 hj
  obtain ⟨t, _, h2, h3⟩ := h.at0 j (Nat.zero_le _) hj
  refine ⟨t, ?_, h2, h3⟩
  have h4 := incN_lt h.1 (show i < j by omega) hj
  apply Classical.byContradiction
  intro hc
  have := incN_lt h.2.1 (show t < t0 by omega) ht
  omega
theorem Sub.differ {ds cs : List Nat} (h : Sub ds cs) {k t0 : Nat} (hk : k < t0) (ht : t0 < cs.length) : cs.getD k 0 ≠ cs.getD t0 0 := by
  have := incN_lt h.2.1 hk ht; omega

end Go.Proofs.Ytbfeojdlaajpdaa
