/-
  What slices.Grow, Concat and SortFunc do at postings.
-/
import Derived.Test.YtklaojahocjeiaaBookC
import Derived.Test.YtklaojahocjeiaaKept
import Derived.Test.YtklaojahocjeiaaShelf2
import Derived.Test.YtklaojahocjeiaaShelf
import Derived.Laws.AppendOwnNone
namespace Go.Proofs.Ytklaojahocjeiaa
open Go.RowKit
set_option linter.unusedVariables false

/-- the slice v is the call's own, from block 'base' on, and holds these postings -/
def OwnsP (w : World) (base : Nat) (v : Value) (ps : List (Int × Int × Int)) : Prop := w.ownsRow base 53 3 v ps.length (flatP ps)
theorem OwnsP.nil (w : World) (base : Nat) : OwnsP w base (.slice none 0 0) [] := ⟨rfl, .inl ⟨rfl, rfl⟩⟩
theorem OwnsP.ge {w : World} {base : Nat} {v : Value} {ps : List (Int × Int × Int)} (h : OwnsP w base v ps) : ∀ k, v.ownBlock = some k → base ≤ k := by
  intro k hk
  rcases h.2 with ⟨rfl, _⟩ | ⟨g, cap, cur, rfl, hg, _⟩
  · simp [Value.ownBlock] at hk
  · simp [Value.ownBlock] at hk; omega
theorem inP_of {ps : List (Int × Int × Int)} (h : ∀ p ∈ ps, ptB p = true) : InP ps := fun p hp => by
  have := pt_t (h p hp); omega
/-- what is owned reads -/
theorem OwnsP.reads {w : World} {base : Nat} {v : Value} {ps : List (Int × Int × Int)} (h : OwnsP w base v ps) (hb : InP ps) : ReadsP w v ps := by
  rcases h.2 with ⟨rfl, hn⟩ | ⟨k, cap, cur, rfl, hk, hh, hn, hm, hs, ht⟩
  · obtain rfl : ps = [] := List.eq_nil_of_length_eq_zero hn
    exact readsP_nil w none 0 (fun _ => rfl)
  · refine ⟨_, cap, rfl, (fun e => by cases e), Nat.le_trans hn hm, hb, fun j hj => ⟨k, 0, rfl, ?_⟩⟩
    have hc : ∀ i, w.cell? ⟨k, i, none⟩ = cur[i]? := fun i => cell_of_row w k i cur _ (0, 0) hh
    have hi : ∀ i, i < ps.length * 3 → cur[i]? = (flatP ps)[i]? := fun i hi => by
      rw [← ht, List.getElem?_take_of_lt (by omega), ← Array.getElem?_toList]
    obtain ⟨e0, e1, e2⟩ := flatP_at ps j hj
    rw [Nat.zero_add]
    exact ⟨by rw [hc, hi _ (by omega), e0], by rw [hc, hi _ (by omega), e1], by rw [hc, hi _ (by omega), e2]⟩

theorem Try.infoPost : (Try.prog.info? 53).map (fun i => (i.zero, i.size, i.bytes)) = some (some (.agg #[.int .i64 0, .int .i64 0, .int .i64 0]), 3, 24) := by kernel_rfl

/-- append of postings that are read to a slice of the call's own -/
theorem wp_appendP {ops : Array Oper} {rest : List Oper} {o : Oper} {a : Act} {Q : Exit → Act → World → Prop} (hgd : o.guard = none) (s x : Operand)
    (ho : o.op = .call { callee := .builtin .append, args := #[s, x], argTypes := #[31, 31] })
    (base : Nat) (v u : Value) (ps qs : List (Int × Int × Int)) (w : World) (hs : a.eval s = v) (hown : OwnsP w base v ps) (hx : a.eval x = u) (hr : ReadsP w u qs)
    (hlen : ps.length + qs.length ≤ 100000) (hbase : base ≤ w.heap.size)
    (h : ∀ v' w', OwnsP w' base v' (ps ++ qs) → Below base w w' → wpList Try.prog ops Q rest (a.put o.dst v') w') : wpList Try.prog ops Q (o :: rest) a w := by
  obtain ⟨i0, hi, hz0, hz1, hz2⟩ := info_parts Try.infoPost
  obtain ⟨ad, cap, rfl, hn, hm, hb, hc⟩ := hr
  cases ad with
  | none =>
    obtain rfl := hn rfl
    have h0 : qs = [] := by
      cases qs with
      | nil => rfl
      | cons q l => obtain ⟨b, off, e, _⟩ := hc 0 (by simp); cases e
    subst h0
    refine wpList_append_own_none hgd s x 31 ho base 53 i0 3 Try.underlying31 hi v _ _ hs hown hx ?_
    exact h v w (by rw [List.append_nil]; exact hown) (Below.refl _ _)
  | some ad =>
    refine wpList_append_own _ hgd s x 31 ho base 53 i0 _ 3 24 Try.underlying31 hi hz0 hz1 hz2 rfl (by decide) v _ _ hs hown ad qs.length cap (flatP qs) hx (flatP_len qs) ?_ (flatP_one qs) ?_ ?_ hbase ?_
    · intro j u hu
      have hj : j < qs.length * 3 := by
        have := (List.getElem?_eq_some_iff.1 hu).1
        rwa [flatP_len] at this
      obtain ⟨q, r, hr, rfl⟩ : ∃ q r, r < 3 ∧ j = q * 3 + r := ⟨j / 3, j % 3, by omega, by omega⟩
      have hq : q < qs.length := by omega
      obtain ⟨b, off, e, h1, h2, h3⟩ := hc q hq
      have e' := Option.some.inj e
      clear hb
      subst e'
      obtain ⟨e0, e1, e2⟩ := flatP_at qs q hq
      have ea : (⟨b, off, none⟩ : Addr).add (q * 3 + r) = ⟨b, off + q * 3 + r, none⟩ := by simp [Addr.add, Nat.add_assoc]
      rw [ea]
      rcases (show r = 0 ∨ r = 1 ∨ r = 2 by omega) with rfl | rfl | rfl
      · rw [Nat.add_zero] at hu ⊢; rw [e0] at hu; rw [← hu]; exact h1
      · rw [e1] at hu; rw [← hu]; exact h2
      · rw [e2] at hu; rw [← hu]; exact h3
    · unfold maxLen; omega
    · omega
    · intro v' w' h1 h2 _
      refine h v' w' ?_ ((Below.refl base w).grown h2 hbase hown.ge)
      unfold OwnsP
      rw [List.length_append, flatP_append]
      exact h1

/-- slices.Grow of nothing -/
theorem grow_new (n : Nat) (w : World) (h0 : 0 < n) (h1 : n ≤ 100000) :
    Calls Try.prog 76 #[.slice none 0 0, .int .i64 n] w fun e w' => (∃ G, e = .returned (.slice (some ⟨w.heap.size, 0, none⟩) 0 G) ∧ OwnsP w' w.heap.size (.slice (some ⟨w.heap.size, 0, none⟩) 0 G) []) ∧ Grew w w' := by
  obtain ⟨i0, hi, hz0, hz1, hz2⟩ := info_parts Try.infoPost
  refine (Any8.slices_Grow_grow Try.growP i0 _ hi hz0 (by omega) none 0 0 n [] w (Nat.le_refl _) (by omega) (by rw [hz2]; omega) (by omega) (by simp) (fun _ => rfl) (fun a e => by cases e)).mono ?_
  rintro e w' ⟨rfl, rfl⟩
  have hge := grownCap_ge w (0 + n) 0 53
  have hle := grownCap_le_maxLen w (0 + n) 0 53 (by unfold maxLen; omega)
  refine ⟨⟨_, rfl, rfl, .inr ⟨_, _, _, rfl, Nat.le_refl _, heap_alloc_new _ _, Nat.zero_le _, hle, ?_, rfl⟩⟩, (Grew.refl w).drew.alloc _ _⟩
  have z3 : (Value.agg #[.int .i64 0, .int .i64 0, .int .i64 0]).cells.size = 3 := rfl
  rw [Array.size_append, Array.size_append, size_zeroCells, size_zeroCells, z3]
  simp only [List.size_toArray, List.length_nil]
  have et : Try.growP_ren.t 25 = 53 := rfl
  rw [et]
  omega

end Go.Proofs.Ytklaojahocjeiaa
