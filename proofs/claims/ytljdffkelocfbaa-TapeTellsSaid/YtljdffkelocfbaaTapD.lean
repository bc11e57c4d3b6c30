/-
  Bytes of the call's own: append, slices.Grow, Concat, Clone.
-/
import Derived.Test.YtljdffkelocfbaaTapC
import Derived.Test.YtljdffkelocfbaaShelf2
import Derived.Laws.AppendOwnNone
namespace Go.Proofs.Ytljdffkelocfbaa
open Go.RowKit
set_option linter.unusedVariables false

/-- the slice v is the call's own, from block 'base' on, and holds these bytes -/
def OwnsU (w : World) (base : Nat) (v : Value) (bs : List Nat) : Prop := w.ownsRow base 5 1 v bs.length (bs.map u8v)
theorem OwnsU.nil (w : World) (base : Nat) : OwnsU w base (.slice none 0 0) [] := ⟨rfl, .inl ⟨rfl, rfl⟩⟩
theorem OwnsU.ge {w : World} {base : Nat} {v : Value} {bs : List Nat} (h : OwnsU w base v bs) : ∀ k, v.ownBlock = some k → base ≤ k := by
  intro k hk
  rcases h.2 with ⟨rfl, _⟩ | ⟨g, cap, cur, rfl, hg, _⟩
  · simp [Value.ownBlock] at hk
  · simp [Value.ownBlock] at hk; omega
theorem map_u8 (bs : List Nat) (j : Nat) (hj : j < bs.length) : (bs.map u8v)[j]? = some (.int .u8 ((bs.getD j 0 : Nat) : Int)) := by
  rw [List.getElem?_map, List.getElem?_eq_getElem hj, List.getD_eq_getElem?_getD, List.getElem?_eq_getElem hj]; rfl
theorem map_u8_one (bs : List Nat) : ∀ u ∈ bs.map u8v, u.oneCell' = true := by
  intro u hu
  obtain ⟨n, _, rfl⟩ := List.mem_map.1 hu
  rfl
theorem OwnsU.reads {w : World} {base : Nat} {v : Value} {bs : List Nat} (h : OwnsU w base v bs) (hb : IsB bs) (hl : bs.length ≤ 1000000) : ReadsU w v bs := by
  rcases h.2 with ⟨rfl, hn⟩ | ⟨k, cap, cur, rfl, hk, hh, hn, hm, hs, ht⟩
  · obtain rfl : bs = [] := List.eq_nil_of_length_eq_zero hn
    exact readsU_nil w
  · refine ⟨_, cap, rfl, hn, ⟨hm, by omega⟩, (fun e => by cases e), hb, fun j hj => ⟨k, 0, rfl, ?_⟩⟩
    rw [Nat.zero_add, cell_of_row w k j cur _ (0, 0) hh, ← Array.getElem?_toList]
    have : (cur.toList.take (bs.length * 1))[j]? = some (.int .u8 ((bs.getD j 0 : Nat) : Int)) := by rw [ht]; exact map_u8 bs j hj
    rw [List.getElem?_take_of_lt (by omega)] at this
    exact this
theorem OwnsU.form {w : World} {base : Nat} {v : Value} {bs : List Nat} (h : OwnsU w base v bs) : ∃ a n cap, v = .slice a n cap ∧ Hid (n = bs.length) := by
  rcases h.2 with ⟨rfl, hn⟩ | ⟨k, cap, cur, rfl, hk, hh, hn, hm, hs, ht⟩
  · exact ⟨none, 0, 0, rfl, hn.symm⟩
  · exact ⟨_, _, cap, rfl, rfl⟩
theorem OwnsU.kpt {w w' : World} {base : Nat} {v : Value} {bs : List Nat} (h : OwnsU w base v bs) (g : Kpt w w') : OwnsU w' base v bs := by
  refine ⟨h.1, ?_⟩
  rcases h.2 with h2 | ⟨k, cap, cur, e, hk, hh, r⟩
  · exact .inl h2
  · exact .inr ⟨k, cap, cur, e, hk, (Below.block g k (heap_lt hh)).trans hh, r⟩

/-- append of bytes that are read to a slice of the call's own -/
theorem wp_appendU {ops : Array Oper} {rest : List Oper} {o : Oper} {a : Act} {Q : Exit → Act → World → Prop} (hgd : o.guard = none) (s x : Operand)
    (ho : o.op = .call { callee := .builtin .append, args := #[s, x], argTypes := #[22, 22] })
    (base : Nat) (v u : Value) (ps qs : List Nat) (w : World) (hs : a.eval s = v) (hown : OwnsU w base v ps) (hx : a.eval x = u) (hr : ReadsU w u qs)
    (hlen : ps.length + qs.length ≤ 1000000) (hbase : base ≤ w.heap.size)
    (h : ∀ v' w', OwnsU w' base v' (ps ++ qs) → Below base w w' → wpList Try.prog ops Q rest (a.put o.dst v') w') : wpList Try.prog ops Q (o :: rest) a w := by
  obtain ⟨i0, hi, hz0, hz1, hz2⟩ := info_parts Try.infoU8
  obtain ⟨ad, cap, rfl, hlc, hm, hn, hb, hc⟩ := hr
  cases ad with
  | none =>
    obtain rfl := hn rfl
    have h0 : qs = [] := List.eq_nil_of_length_eq_zero (by omega)
    subst h0
    refine wpList_append_own_none hgd s x 22 ho base 5 i0 1 Try.underlying22 hi v _ _ hs hown hx ?_
    exact h v w (by rw [List.append_nil]; exact hown) (Below.refl _ _)
  | some ad =>
    refine wpList_append_own _ hgd s x 22 ho base 5 i0 _ 1 1 Try.underlying22 hi hz0 hz1 hz2 rfl (by decide) v _ _ hs hown ad qs.length cap (qs.map u8v) hx (by simp) ?_ (map_u8_one qs) ?_ ?_ hbase ?_
    · intro j u hu
      have hj : j < qs.length := by
        have := (List.getElem?_eq_some_iff.1 hu).1
        simpa using this
      obtain ⟨b, off, e, h1⟩ := hc j hj
      obtain rfl := Option.some.inj e
      rw [map_u8 qs j hj] at hu
      rw [← hu, show (⟨b, off, none⟩ : Addr).add j = ⟨b, off + j, none⟩ by simp [Addr.add]]
      exact h1
    · unfold maxLen; omega
    · omega
    · intro v' w' h1 h2 _
      refine h v' w' ?_ ((Below.refl base w).grown h2 hbase hown.ge)
      unfold OwnsU
      rw [List.length_append, List.map_append]
      exact h1
theorem grow_newU (n : Nat) (w : World) (h0 : 0 < n) (h1 : n ≤ 100000) :
    Calls Try.prog 28 #[.slice none 0 0, .int .i64 n] w fun e w' => (∃ G, e = .returned (.slice (some ⟨w.heap.size, 0, none⟩) 0 G) ∧ OwnsU w' w.heap.size (.slice (some ⟨w.heap.size, 0, none⟩) 0 G) []) ∧ Grew w w' := by
  obtain ⟨i0, hi, hz0, hz1, hz2⟩ := info_parts Try.infoU8
  refine (Any8.slices_Grow_grow Try.growU i0 _ hi hz0 (by omega) none 0 0 n [] w (Nat.le_refl _) (by omega) (by rw [hz2]; omega) (by omega) (by simp) (fun _ => rfl) (fun a e => by cases e)).mono ?_
  rintro e w' ⟨rfl, rfl⟩
  have hge := grownCap_ge w (0 + n) 0 5
  have hle := grownCap_le_maxLen w (0 + n) 0 5 (by unfold maxLen; omega)
  refine ⟨⟨_, rfl, rfl, .inr ⟨_, _, _, rfl, Nat.le_refl _, heap_alloc_new _ _, Nat.zero_le _, hle, ?_, rfl⟩⟩, (Grew.refl w).drew.alloc _ _⟩
  have z3 : (Value.int .u8 0).cells.size = 1 := rfl
  rw [Array.size_append, Array.size_append, size_zeroCells, size_zeroCells, z3]
  simp only [List.size_toArray, List.length_nil]
  have et : Try.growU_ren.t 25 = 5 := rfl
  rw [et]
  omega
theorem OwnsU.empty (w : World) (B : Nat) (h : B ≤ w.heap.size) : OwnsU (w.alloc (.cells #[] 5)) B (.slice (some ⟨w.heap.size, 0, none⟩) 0 0) [] :=
  ⟨by simp, .inr ⟨w.heap.size, 0, #[], rfl, h, heap_alloc_new w _, Nat.le_refl _, Nat.zero_le _, by simp, by simp⟩⟩
theorem eqU_nil (w : World) : (binOp .eql 22 (.slice none 0 0) (.slice none 0 0)).run Try.prog w = .ok (.bool true) w := by kernel_rfl
theorem eqU_some (x : Addr) (n cap : Nat) (w : World) : (binOp .eql 22 (.slice (some x) n cap) (.slice none 0 0)).run Try.prog w = .ok (.bool false) w := by kernel_rfl
theorem cloneU_run (v : Value) (bs : List Nat) (w : World) (hr : ReadsU w v bs) (hm : bs.length ≤ 100000) :
    Calls Try.prog 26 #[v] w fun e w' => ∃ v', e = .returned v' ∧ OwnsU w' w.heap.size v' bs ∧ Kpt w w' := by
  obtain ⟨a, cap, rfl, h1, h2, h3⟩ := hr.form
  cases a with
  | none =>
    obtain rfl := h3 rfl
    obtain rfl : bs = [] := List.eq_nil_of_length_eq_zero (by omega)
    have q := eqU_nil
    go_enter Try.func26, Try.ntmps26
    go_wp2
    go_ret
    exact ⟨_, rfl, OwnsU.nil _ _, Kpt.refl _⟩
  | some x =>
    have k1 : Hid (Kpt w (w.alloc (.cells #[] 5))) := (Kpt.refl w).alloc _
    have HR := Lib.hid (hr.kpt k1.out)
    have O0 := Lib.hid (OwnsU.empty w w.heap.size (Nat.le_refl _))
    have LN : Hid (([] : List Nat).length + bs.length ≤ 1000000) := by unfold Hid; rw [List.length_nil]; omega
    have BN : Hid (w.heap.size ≤ (w.alloc (.cells #[] 5)).heap.size) := by unfold Hid; rw [World.size_alloc]; omega
    clear hr h1 h2 h3
    have q := fun w => eqU_some x bs.length cap w
    go_enter Try.func26, Try.ntmps26
    go_wp2_with (at_builtin; refine wp_appendU rfl (.tmp 5) (.tmp 6) rfl w.heap.size _ _ [] bs _ rfl O0.out rfl HR.out LN.out BN.out ?_; intro v' w' h1 h2; have H1 := Lib.hid h1; have H2 := Lib.hid h2; clear h1 h2)
    go_ret
    exact ⟨_, rfl, H1.out, k1.out.trans H2.out⟩

end Go.Proofs.Ytljdffkelocfbaa
