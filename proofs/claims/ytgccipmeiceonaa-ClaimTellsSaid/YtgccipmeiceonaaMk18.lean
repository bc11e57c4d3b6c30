/-
  Merged: CloneF.
-/
import Derived.Test.YtgccipmeiceonaaMk17
-- CloneF
namespace Go.Proofs.Ytgccipmeiceonaa
open Go.RowKit
set_option linter.unusedVariables false
set_option maxRecDepth 100000

theorem OwnsN.empty (N : Nat) (T : TypeId) (w : World) (B : Nat) (h : B ≤ w.heap.size) : OwnsN N T (w.alloc (.cells #[] T)) B (.slice (some ⟨w.heap.size, 0, none⟩) 0 0) [] :=
  ⟨by simp [flatN], .inr ⟨w.heap.size, 0, #[], rfl, h, heap_alloc_new w _, Nat.le_refl _, Nat.zero_le _, by simp, by simp [flatN]⟩⟩
theorem wp_appendFs {ops : Array Oper} {rest : List Oper} {o : Oper} {a : Act} {Q : Exit → Act → World → Prop} (hgd : o.guard = none) (s x : Operand)
    (ho : o.op = .call { callee := .builtin .append, args := #[s, x], argTypes := #[26, 26] })
    (base : Nat) (v : Value) (fs gs : List (List Int)) (g off cap : Nat) (w : World) (hs : a.eval s = v) (hown : OwnsN 10 38 w base v fs) (hx : a.eval x = .slice (some ⟨g, off, none⟩) gs.length cap) (hr : ReadsF w (.slice (some ⟨g, off, none⟩) gs.length cap) gs)
    (hlen : fs.length + gs.length ≤ 100000) (hbase : base ≤ w.heap.size)
    (h : ∀ v' w', OwnsN 10 38 w' base v' (fs ++ gs) → Below base w w' → wpList Try.prog ops Q rest (a.put o.dst v') w') : wpList Try.prog ops Q (o :: rest) a w := by
  obtain ⟨i0, hi, hz0, hz1, hz2⟩ := info_parts Try.infoFail
  obtain ⟨ad, cap', e, hm, hb, hc⟩ := hr
  injection e with e1 _ e3
  subst e1 e3
  refine wpList_append_own _ hgd s x 26 ho base 38 i0 _ 10 80 Try.underlying26 hi hz0 hz1 hz2 rfl (by decide) v _ _ hs hown ⟨g, off, none⟩ gs.length cap (flatN 10 gs) hx (flatN_len 10 gs) ?_ (flatN_one 10 gs) ?_ ?_ hbase ?_
  · intro j u hu
    have hj : j < gs.length * 10 := by
      have := (List.getElem?_eq_some_iff.1 hu).1
      rwa [flatN_len] at this
    obtain ⟨q, r, hr, rfl⟩ : ∃ q r, r < 10 ∧ j = q * 10 + r := ⟨j / 10, j % 10, by omega, by omega⟩
    have hq : q < gs.length := by omega
    obtain ⟨g', off', e, h1⟩ := hc q hq
    have e' := Option.some.inj e
    injection e' with e1 e2 _
    subst e1 e2
    have ea : (⟨g, off, none⟩ : Addr).add (q * 10 + r) = ⟨g, off + q * 10 + r, none⟩ := by simp [Addr.add, Nat.add_assoc]
    rw [ea]
    rw [flatN_at gs q r hq hr] at hu
    rw [← hu]
    exact h1 r hr
  · unfold maxLen; omega
  · omega
  · intro v' w' h1 h2 _
    refine h v' w' ?_ ((Below.refl base w).grown h2 hbase hown.ge)
    unfold OwnsN
    rw [List.length_append, flatN_append]
    exact h1
theorem eqF_nil (w : World) : (binOp .eql 26 (.slice none 0 0) (.slice none 0 0)).run Try.prog w = .ok (.bool true) w := by kernel_rfl
theorem eqF_some (x : Addr) (n cap : Nat) (w : World) : (binOp .eql 26 (.slice (some x) n cap) (.slice none 0 0)).run Try.prog w = .ok (.bool false) w := by kernel_rfl
theorem cloneF_nil (w : World) : Calls Try.prog 95 #[.slice none 0 0] w fun e w' => e = .returned (.slice none 0 0) ∧ w' = w := by
  have q := eqF_nil
  go_enter Try.func95, Try.ntmps95
  go_wp2
  go_ret
  exact ⟨rfl, rfl⟩
theorem cloneF_some (g off cap : Nat) (fs : List (List Int)) (w : World) (hr : ReadsF w (.slice (some ⟨g, off, none⟩) fs.length cap) fs) (hm : fs.length ≤ 60) :
    Calls Try.prog 95 #[.slice (some ⟨g, off, none⟩) fs.length cap] w fun e w' => ∃ v, e = .returned v ∧ OwnsN 10 38 w' w.heap.size v fs ∧ Kpt w w' := by
  have k1 : Hid (Kpt w (w.alloc (.cells #[] 38))) := (Kpt.refl w).alloc _
  have HR := Lib.hid (hr.kpt k1.out)
  have O0 := Lib.hid (OwnsN.empty 10 38 w w.heap.size (Nat.le_refl _))
  have LN : Hid (([] : List (List Int)).length + fs.length ≤ 100000) := by unfold Hid; rw [List.length_nil]; omega
  have BN : Hid (w.heap.size ≤ (w.alloc (.cells #[] 38)).heap.size) := by unfold Hid; rw [World.size_alloc]; omega
  clear hr
  have q := fun w => eqF_some ⟨g, off, none⟩ fs.length cap w
  go_enter Try.func95, Try.ntmps95
  go_wp2_with (at_builtin; refine wp_appendFs rfl (.tmp 5) (.tmp 6) rfl w.heap.size _ [] fs g off cap _ rfl O0.out rfl HR.out LN.out BN.out ?_; intro v' w' h1 h2; have H1 := Lib.hid h1; have H2 := Lib.hid h2; clear h1 h2)
  go_ret
  exact ⟨_, rfl, H1.out, k1.out.trans H2.out⟩
theorem cloneF_zero (x : Addr) (cap : Nat) (w : World) : Calls Try.prog 95 #[.slice (some x) 0 cap] w fun e w' => ∃ v, e = .returned v ∧ OwnsN 10 38 w' w.heap.size v [] ∧ Kpt w w' := by
  have O0 := Lib.hid (OwnsN.empty 10 38 w w.heap.size (Nat.le_refl _))
  have k1 : Hid (Kpt w (w.alloc (.cells #[] 38))) := (Kpt.refl w).alloc _
  have q := fun w => eqF_some x 0 cap w
  have L0 : ∀ w : World, (loadCellsFrom x 0 0 #[]).run Try.prog w = .ok #[] w := fun w => rfl
  have S0 : ∀ w : World, (storeCells ⟨w.heap.size, 0, none⟩ []).run Try.prog w = .ok () w := fun w => rfl
  have S1 : (storeCells ⟨w.heap.size, 0, none⟩ []).run Try.prog (w.alloc (.cells #[] 38)) = .ok () (w.alloc (.cells #[] 38)) := rfl
  go_enter Try.func95, Try.ntmps95
  go_wp2
  go_ret
  exact ⟨_, rfl, O0.out, k1.out⟩

theorem cloneF_any (a : Option Addr) (cap : Nat) (fs : List (List Int)) (w : World) (hr : ReadsF w (.slice a fs.length cap) fs) (hm : fs.length ≤ 60) (hn : a = none → cap = 0) :
    Calls Try.prog 95 #[.slice a fs.length cap] w fun e w' => ∃ v, e = .returned v ∧ OwnsN 10 38 w' w.heap.size v fs ∧ Kpt w w' := by
  rcases a with _ | x
  · obtain rfl := hn rfl
    have h0 : fs = [] := by
      obtain ⟨a', cap', e, _, _, hc⟩ := hr
      injection e with e1 _ _
      cases fs with
      | nil => rfl
      | cons l t => obtain ⟨g, off, e', _⟩ := hc 0 (by simp); rw [← e1] at e'; cases e'
    subst h0
    refine (cloneF_nil w).mono ?_
    rintro e w' ⟨rfl, rfl⟩
    exact ⟨_, rfl, OwnsN.nil _ _ _ _, Kpt.refl _⟩
  · cases fs with
    | nil => exact cloneF_zero x cap w
    | cons l t =>
      have hr2 := hr
      obtain ⟨a', cap', e, _, _, hc⟩ := hr
      injection e with e1 _ _
      obtain ⟨g, off, e', _⟩ := hc 0 (by simp)
      rw [← e1] at e'
      injection e' with e'
      subst e'
      exact cloneF_some g off cap _ w hr2 hm

end Go.Proofs.Ytgccipmeiceonaa
