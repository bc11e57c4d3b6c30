/-
  Append of stakes to a slice of the call's own.
-/
import Derived.Test.YtlojdehjbcombaaTrip
import Derived.Test.YtlojdehjbcombaaOwn
import Derived.Laws.AppendOwnNone
namespace Go.Proofs.Ytlojdehjbcombaa
open Go.RowKit
set_option linter.unusedVariables false

theorem Try.infoStk : (Try.prog.info? 68).map (fun i => (i.zero, i.size, i.bytes)) = some (some (.agg #[.int .i64 0, .int .i64 0, .int .i64 0]), 3, 24) := by kernel_rfl

/-- append of stakes that are read to a slice of the call's own -/
theorem wp_appendS {ops : Array Oper} {rest : List Oper} {o : Oper} {a : Act} {Q : Exit → Act → World → Prop} (hgd : o.guard = none) (s x : Operand)
    (ho : o.op = .call { callee := .builtin .append, args := #[s, x], argTypes := #[57, 57] })
    (base : Nat) (v u : Value) (ps qs : List (Int × Int × Int)) (w : World) (hs : a.eval s = v) (hown : OwnsT 68 w base v ps) (hx : a.eval x = u) (hr : ReadsP w u qs)
    (hlen : ps.length + qs.length ≤ 100000) (hbase : base ≤ w.heap.size)
    (h : ∀ v' w', OwnsT 68 w' base v' (ps ++ qs) → Below base w w' → wpList Try.prog ops Q rest (a.put o.dst v') w') : wpList Try.prog ops Q (o :: rest) a w := by
  obtain ⟨i0, hi, hz0, hz1, hz2⟩ := info_parts Try.infoStk
  obtain ⟨ad, cap, rfl, hn, hm, hb, hc⟩ := hr
  cases ad with
  | none =>
    obtain rfl := hn rfl
    have h0 : qs = [] := by
      cases qs with
      | nil => rfl
      | cons q l => obtain ⟨b, off, e, _⟩ := hc 0 (by simp); cases e
    subst h0
    refine wpList_append_own_none hgd s x 57 ho base 68 i0 3 Try.underlying57 hi v _ _ hs hown hx ?_
    exact h v w (by rw [List.append_nil]; exact hown) (Below.refl _ _)
  | some ad =>
    refine wpList_append_own _ hgd s x 57 ho base 68 i0 _ 3 24 Try.underlying57 hi hz0 hz1 hz2 rfl (by decide) v _ _ hs hown ad qs.length cap (flatP qs) hx (flatP_len qs) ?_ (flatP_one qs) ?_ ?_ hbase ?_
    · intro j u hu
      have hj : j < qs.length * 3 := by
        have := (List.getElem?_eq_some_iff.1 hu).1
        rwa [flatP_len] at this
      obtain ⟨q, r, hr, rfl⟩ : ∃ q r, r < 3 ∧ j = q * 3 + r := ⟨j / 3, j % 3, by omega, by omega⟩
      have hq : q < qs.length := by omega
      obtain ⟨b, off, e, h1, h2, h3⟩ := hc q hq
      have e' := Option.some.inj e
      clear hb
      subst e'
      obtain ⟨e0, e1, e2⟩ := flatP_at qs q hq
      have ea : (⟨b, off, none⟩ : Addr).add (q * 3 + r) = ⟨b, off + q * 3 + r, none⟩ := by simp [Addr.add, Nat.add_assoc]
      rw [ea]
      rcases (show r = 0 ∨ r = 1 ∨ r = 2 by omega) with rfl | rfl | rfl
      · rw [Nat.add_zero] at hu ⊢; rw [e0] at hu; rw [← hu]; exact h1
      · rw [e1] at hu; rw [← hu]; exact h2
      · rw [e2] at hu; rw [← hu]; exact h3
    · unfold maxLen; omega
    · omega
    · intro v' w' h1 h2 _
      refine h v' w' ?_ ((Below.refl base w).grown h2 hbase hown.ge)
      unfold OwnsT
      rw [List.length_append, flatP_append]
      exact h1
theorem reads_one {w : World} {P U C : Int} (hb : InP [(P, U, C)]) : ReadsP (w.alloc (.cells #[.int .i64 P, .int .i64 U, .int .i64 C] 68)) (.slice (some ⟨w.heap.size, 0, none⟩) 1 1) [(P, U, C)] := by
  have B := Blk.made w #[.int .i64 P, .int .i64 U, .int .i64 C] 68
  refine ⟨_, 1, rfl, (fun e => by cases e), by unfold maxLen; simp, hb, fun j hj => ⟨w.heap.size, 0, rfl, ?_⟩⟩
  obtain rfl : j = 0 := by simp at hj; exact hj
  exact ⟨B.cell 0, B.cell 1, B.cell 2⟩
theorem reads_two {w : World} {cs : Array Value} {T : TypeId} {P U C : Int} (hb : InP [(P, U, C)]) : ReadsP ((w.alloc (.cells cs T)).alloc (.cells #[.int .i64 P, .int .i64 U, .int .i64 C] 68)) (.slice (some ⟨w.heap.size + 1, 0, none⟩) 1 1) [(P, U, C)] := by
  have := reads_one (w := w.alloc (.cells cs T)) hb
  rwa [World.size_alloc] at this

end Go.Proofs.Ytlojdehjbcombaa
