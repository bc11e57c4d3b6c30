/-
  slices.Grow, Clone, Concat, Delete and append at lots.
-/
import Derived.Test.YtbohdhiadgcljaaTrip
import Derived.Test.YtbohdhiadgcljaaShelf3
import Derived.Shelf.SlicesE.Clone
import Derived.Lib.SliceRun
import Derived.Deep.RegionLaw
namespace Go.Proofs.Ytbohdhiadgcljaa
open Go.RowKit
set_option linter.unusedVariables false

theorem Try.infoLot : (Try.prog.info? 45).map (fun i => (i.zero, i.size, i.bytes)) = some (some (.agg #[.int .i64 0, .int .i64 0, .int .i64 0]), 3, 24) := by kernel_rfl

/-- append of postings that are read to a slice of the call's own -/
theorem wp_appendL {ops : Array Oper} {rest : List Oper} {o : Oper} {a : Act} {Q : Exit → Act → World → Prop} (hgd : o.guard = none) (s x : Operand)
    (ho : o.op = .call { callee := .builtin .append, args := #[s, x], argTypes := #[43, 43] })
    (base : Nat) (v u : Value) (ps qs : List (Int × Int × Int)) (w : World) (hs : a.eval s = v) (hown : OwnsT 45 w base v ps) (hx : a.eval x = u) (hr : ReadsP w u qs)
    (hlen : ps.length + qs.length ≤ 100000) (hbase : base ≤ w.heap.size)
    (h : ∀ v' w', OwnsT 45 w' base v' (ps ++ qs) → Below base w w' → wpList Try.prog ops Q rest (a.put o.dst v') w') : wpList Try.prog ops Q (o :: rest) a w := by
  obtain ⟨i0, hi, hz0, hz1, hz2⟩ := info_parts Try.infoLot
  obtain ⟨ad, cap, rfl, hn, hm, hb, hc⟩ := hr
  cases ad with
  | none =>
    obtain rfl := hn rfl
    have h0 : qs = [] := by
      cases qs with
      | nil => rfl
      | cons q l => obtain ⟨b, off, e, _⟩ := hc 0 (by simp); cases e
    subst h0
    refine wpList_append_own_none hgd s x 43 ho base 45 i0 3 Try.underlying43 hi v _ _ hs hown hx ?_
    exact h v w (by rw [List.append_nil]; exact hown) (Below.refl _ _)
  | some ad =>
    refine wpList_append_own _ hgd s x 43 ho base 45 i0 _ 3 24 Try.underlying43 hi hz0 hz1 hz2 rfl (by decide) v _ _ hs hown ad qs.length cap (flatP qs) hx (flatP_len qs) ?_ (flatP_one qs) ?_ ?_ hbase ?_
    · intro j u hu
      have hj : j < qs.length * 3 := by
        have := (List.getElem?_eq_some_iff.1 hu).1
        rwa [flatP_len] at this
      obtain ⟨q, r, hr, rfl⟩ : ∃ q r, r < 3 ∧ j = q * 3 + r := ⟨j / 3, j % 3, by omega, by omega⟩
      have hq : q < qs.length := by omega
      obtain ⟨b, off, e, h1, h2, h3⟩ := hc q hq
      have e' := Option.some.inj e
      clear hb
      subst e'
      obtain ⟨e0, e1, e2⟩ := flatP_at qs q hq
      have ea : (⟨b, off, none⟩ : Addr).add (q * 3 + r) = ⟨b, off + q * 3 + r, none⟩ := by simp [Addr.add, Nat.add_assoc]
      rw [ea]
      rcases (show r = 0 ∨ r = 1 ∨ r = 2 by omega) with rfl | rfl | rfl
      · rw [Nat.add_zero] at hu ⊢; rw [e0] at hu; rw [← hu]; exact h1
      · rw [e1] at hu; rw [← hu]; exact h2
      · rw [e2] at hu; rw [← hu]; exact h3
    · unfold maxLen; omega
    · omega
    · intro v' w' h1 h2 _
      refine h v' w' ?_ ((Below.refl base w).grown h2 hbase hown.ge)
      unfold OwnsT
      rw [List.length_append, flatP_append]
      exact h1

/-- slices.Grow of nothing -/
theorem grow_newL (n : Nat) (w : World) (h0 : 0 < n) (h1 : n ≤ 100000) :
    Calls Try.prog 63 #[.slice none 0 0, .int .i64 n] w fun e w' => (∃ G, e = .returned (.slice (some ⟨w.heap.size, 0, none⟩) 0 G) ∧ OwnsT 45 w' w.heap.size (.slice (some ⟨w.heap.size, 0, none⟩) 0 G) []) ∧ Grew w w' := by
  obtain ⟨i0, hi, hz0, hz1, hz2⟩ := info_parts Try.infoLot
  refine (Any8.slices_Grow_grow Try.growL i0 _ hi hz0 (by omega) none 0 0 n [] w (Nat.le_refl _) (by omega) (by rw [hz2]; omega) (by omega) (by simp) (fun _ => rfl) (fun a e => by cases e)).mono ?_
  rintro e w' ⟨rfl, rfl⟩
  have hge := grownCap_ge w (0 + n) 0 45
  have hle := grownCap_le_maxLen w (0 + n) 0 45 (by unfold maxLen; omega)
  refine ⟨⟨_, rfl, rfl, .inr ⟨_, _, _, rfl, Nat.le_refl _, heap_alloc_new _ _, Nat.zero_le _, hle, ?_, rfl⟩⟩, (Grew.refl w).drew.alloc _ _⟩
  have z3 : (Value.agg #[.int .i64 0, .int .i64 0, .int .i64 0]).cells.size = 3 := rfl
  rw [Array.size_append, Array.size_append, size_zeroCells, size_zeroCells, z3]
  simp only [List.size_toArray, List.length_nil]
  have et : Try.growL_ren.t 25 = 45 := rfl
  rw [et]
  omega

theorem clone_runL (v : Value) (ps : List (Int × Int × Int)) (w : World) (h : ReadsP w v ps) (h0 : 0 < ps.length) (hm : ps.length ≤ 100000) :
    Calls Try.prog 49 #[v] w fun e w' => ∃ blk cap, e = .returned (.slice (some ⟨blk, 0, none⟩) ps.length cap) ∧ OwnsT 45 w' w.heap.size (.slice (some ⟨blk, 0, none⟩) ps.length cap) ps ∧ Kpt w w' := by
  obtain ⟨i0, hi, hz0, hz1, hz2⟩ := info_parts Try.infoLot
  rcases h.cell with ⟨rfl, _⟩ | ⟨_, b, off, cap, rfl, hc⟩
  · simp at h0
  · have zE : ∀ w, (Go.sizeOf 45).run Try.prog w = .ok 3 w := fun w => by kernel_rfl
    refine (AnyE.slices_Clone Try.cloL i0 _ 3 24 hi hz0 hz1 hz2 rfl (by decide) zE b off ps.length cap (flatP ps) w (flatP_len ps) h.len (by omega) ?_ (flatP_one ps)).mono ?_
    · intro j u hu
      have hj : j < ps.length * 3 := by
        have := (List.getElem?_eq_some_iff.1 hu).1
        rwa [flatP_len] at this
      obtain ⟨q, r, hr, rfl⟩ : ∃ q r, r < 3 ∧ j = q * 3 + r := ⟨j / 3, j % 3, by omega, by omega⟩
      have hq : q < ps.length := by omega
      obtain ⟨h1, h2, h3⟩ := hc q hq
      obtain ⟨e0, e1, e2⟩ := flatP_at ps q hq
      rw [← Nat.add_assoc]
      rcases (show r = 0 ∨ r = 1 ∨ r = 2 by omega) with rfl | rfl | rfl
      · rw [Nat.add_zero] at hu ⊢; rw [e0] at hu; rw [← hu]; exact h1
      · rw [e1] at hu; rw [← hu]; exact h2
      · rw [e2] at hu; rw [← hu]; exact h3
    · rintro e w' ⟨v', rfl, ho, _, hb⟩
      obtain ⟨blk, cap', rfl, _⟩ := OwnsT.filled (ps := ps) ho h0
      exact ⟨blk, cap', rfl, ho, hb⟩

set_option maxRecDepth 100000 in
set_option maxHeartbeats 2000000 in
theorem concatL (W0 : World) (b : Nat) (a1 a2 : Option Addr) (c1 c2 : Nat) (ps qs : List (Int × Int × Int)) (hc0 : W0.cell? ⟨b, 0, none⟩ = some (.slice a1 ps.length c1)) (hc1 : W0.cell? ⟨b, 1, none⟩ = some (.slice a2 qs.length c2))
    (R1 : ReadsP W0 (.slice a1 ps.length c1) ps) (R2 : ReadsP W0 (.slice a2 qs.length c2) qs) (h0 : 0 < ps.length + qs.length) (hm : ps.length + qs.length ≤ 100000) :
    Calls Try.prog 46 #[.slice (some ⟨b, 0, none⟩) 2 2] W0 fun e w' => (∃ v, e = .returned v ∧ OwnsT 45 w' W0.heap.size v (ps ++ qs)) ∧ Kpt W0 w' := by
  have HR1 := Lib.hid R1; have HR2 := Lib.hid R2; clear R1 R2
  have HG := Lib.hid (fun w => grow_newL (ps.length + qs.length) w h0 hm)
  have HP := Lib.hid (show ((ps.length + qs.length : Nat) : Int) = (ps.length : Int) + (qs.length : Int) by omega)
  unfold Hid at HG
  rw [HP.out] at HG
  have HG' := Lib.hid HG; clear HG
  go_enter Try.func46, Try.ntmps46
  go_wp2
  go_loop [3, 5, 11] (fun s x i => (i = .int .i64 0 ∧ s = .int .i64 0) ∨ (i = .int .i64 1 ∧ s = .int .i64 ps.length) ∨ (i = .int .i64 2 ∧ s = .int .i64 ((ps.length : Int) + (qs.length : Int)))) (fun _ _ i => 2 - (intOf i).toNat)
  case atStart => exact .inl ⟨rfl, rfl⟩
  case round =>
    rcases hrel with ⟨rfl, rfl⟩ | ⟨rfl, rfl⟩ | ⟨rfl, rfl⟩
    · go_wp2
      go_round
      case rel => exact .inr (.inl ⟨rfl, by simp⟩)
      case measure => simp [intOf]
    · go_wp2
      go_round
      case rel => exact .inr (.inr ⟨rfl, rfl⟩)
      case measure => simp [intOf]
    · go_wp2_with (go_at_call 63; (with_reducible refine (HG'.out _).mono ?_); rintro e w1 ⟨⟨G, rfl, ho⟩, g1⟩; have HO := Lib.hid ho; have G1 := Lib.hid g1; clear ho g1)
      have d0 := G1.out.cell (cell_in hc0) hc0
      have d1 := G1.out.cell (cell_in hc1) hc1
      go_loopw [6, 8, 27] (fun v x i wr => (i = .int .i64 0 ∧ Hid (OwnsT 45 wr W0.heap.size v []) ∧ wr.cell? ⟨b, 0, none⟩ = some (.slice a1 ps.length c1) ∧ wr.cell? ⟨b, 1, none⟩ = some (.slice a2 qs.length c2) ∧ Hid (Kpt W0 wr)) ∨ (i = .int .i64 1 ∧ Hid (OwnsT 45 wr W0.heap.size v ps) ∧ wr.cell? ⟨b, 0, none⟩ = some (.slice a1 ps.length c1) ∧ wr.cell? ⟨b, 1, none⟩ = some (.slice a2 qs.length c2) ∧ Hid (Kpt W0 wr)) ∨ (i = .int .i64 2 ∧ Hid (OwnsT 45 wr W0.heap.size v (ps ++ qs)) ∧ Hid (Kpt W0 wr))) (fun _ _ i _ => 2 - (intOf i).toNat)
      case atStart => exact .inl ⟨rfl, HO.out, d0, d1, G1.out.kpt⟩
      case round =>
        rcases hrel with ⟨rfl, HV, e0, e1, HK⟩ | ⟨rfl, HV, e0, e1, HK⟩ | ⟨rfl, HV, HK⟩
        · have RR := Lib.hid (HR1.out.kpt HK.out)
          go_wp2_with (at_builtin; refine wp_appendL rfl (.tmp 31) (.tmp 32) rfl W0.heap.size _ _ [] ps wr rfl HV.out rfl RR.out (by simp; omega) HK.out.size ?_; intro v' w' ho' hb'; have HO' := Lib.hid ho'; have HB' : Hid (Kpt W0 w') := Below.trans HK.out hb'; have f0 := (show Kpt W0 w' from HB'.out).cell hc0; have f1 := (show Kpt W0 w' from HB'.out).cell hc1; clear ho' hb')
          go_roundw
          case rel => exact .inr (.inl ⟨rfl, HO'.out, f0, f1, HB'⟩)
          case measure => simp [intOf]
        · have RR := Lib.hid (HR2.out.kpt HK.out)
          go_wp2_with (at_builtin; refine wp_appendL rfl (.tmp 31) (.tmp 32) rfl W0.heap.size _ _ ps qs wr rfl HV.out rfl RR.out hm HK.out.size ?_; intro v' w' ho' hb'; have HO' := Lib.hid ho'; have HB' : Hid (Kpt W0 w') := Below.trans HK.out hb'; clear ho' hb')
          go_roundw
          case rel => exact .inr (.inr ⟨rfl, HO'.out, HB'⟩)
          case measure => simp [intOf]
        · go_wp2
          go_ret
          exact ⟨⟨_, rfl, HV.out⟩, HK.out⟩

end Go.Proofs.Ytbohdhiadgcljaa
