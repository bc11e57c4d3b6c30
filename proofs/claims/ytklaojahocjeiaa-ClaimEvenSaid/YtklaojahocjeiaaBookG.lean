/-
  slices.Concat of two slices of postings.
-/
import Derived.Test.YtklaojahocjeiaaBookF
namespace Go.Proofs.Ytklaojahocjeiaa
open Go.RowKit
set_option linter.unusedVariables false

theorem own_shape {w : World} {base : Nat} {v : Value} {ps : List (Int × Int × Int)} (h : OwnsP w base v ps) (hn : v = .slice none 0 0 → False) : ∃ blk cap, v = .slice (some ⟨blk, 0, none⟩) ps.length cap := by
  rcases h.2 with ⟨e, _⟩ | ⟨k, cap, cur, e, _⟩
  · exact absurd e hn
  · exact ⟨k, cap, e⟩

set_option maxRecDepth 100000 in
set_option maxHeartbeats 2000000 in
theorem concat2 (W0 : World) (b : Nat) (a1 a2 : Option Addr) (c1 c2 : Nat) (ps qs : List (Int × Int × Int)) (hc0 : W0.cell? ⟨b, 0, none⟩ = some (.slice a1 ps.length c1)) (hc1 : W0.cell? ⟨b, 1, none⟩ = some (.slice a2 qs.length c2))
    (R1 : ReadsP W0 (.slice a1 ps.length c1) ps) (R2 : ReadsP W0 (.slice a2 qs.length c2) qs) (h0 : 0 < ps.length + qs.length) (hm : ps.length + qs.length ≤ 100000) :
    Calls Try.prog 57 #[.slice (some ⟨b, 0, none⟩) 2 2] W0 fun e w' => (∃ v, e = .returned v ∧ OwnsP w' W0.heap.size v (ps ++ qs)) ∧ Kpt W0 w' := by
  have HR1 := Lib.hid R1; have HR2 := Lib.hid R2; clear R1 R2
  have HG := Lib.hid (fun w => grow_new (ps.length + qs.length) w h0 hm)
  have HP := Lib.hid (show ((ps.length + qs.length : Nat) : Int) = (ps.length : Int) + (qs.length : Int) by omega)
  unfold Hid at HG
  rw [HP.out] at HG
  have HG' := Lib.hid HG; clear HG
  go_enter Try.func57, Try.ntmps57
  go_wp2
  go_loop [3, 5, 11] (fun s x i => (i = .int .i64 0 ∧ s = .int .i64 0) ∨ (i = .int .i64 1 ∧ s = .int .i64 ps.length) ∨ (i = .int .i64 2 ∧ s = .int .i64 ((ps.length : Int) + (qs.length : Int)))) (fun _ _ i => 2 - (intOf i).toNat)
  case atStart => exact .inl ⟨rfl, rfl⟩
  case round =>
    rcases hrel with ⟨rfl, rfl⟩ | ⟨rfl, rfl⟩ | ⟨rfl, rfl⟩
    · go_wp2
      go_round
      case rel => exact .inr (.inl ⟨rfl, by simp⟩)
      case measure => simp [intOf]
    · go_wp2
      go_round
      case rel => exact .inr (.inr ⟨rfl, rfl⟩)
      case measure => simp [intOf]
    · go_wp2_with (go_at_call 76; (with_reducible refine (HG'.out _).mono ?_); rintro e w1 ⟨⟨G, rfl, ho⟩, g1⟩; have HO := Lib.hid ho; have G1 := Lib.hid g1; clear ho g1)
      have d0 := G1.out.cell (cell_in hc0) hc0
      have d1 := G1.out.cell (cell_in hc1) hc1
      go_loopw [6, 8, 27] (fun v x i wr => (i = .int .i64 0 ∧ Hid (OwnsP wr W0.heap.size v []) ∧ wr.cell? ⟨b, 0, none⟩ = some (.slice a1 ps.length c1) ∧ wr.cell? ⟨b, 1, none⟩ = some (.slice a2 qs.length c2) ∧ Hid (Kpt W0 wr)) ∨ (i = .int .i64 1 ∧ Hid (OwnsP wr W0.heap.size v ps) ∧ wr.cell? ⟨b, 0, none⟩ = some (.slice a1 ps.length c1) ∧ wr.cell? ⟨b, 1, none⟩ = some (.slice a2 qs.length c2) ∧ Hid (Kpt W0 wr)) ∨ (i = .int .i64 2 ∧ Hid (OwnsP wr W0.heap.size v (ps ++ qs)) ∧ Hid (Kpt W0 wr))) (fun _ _ i _ => 2 - (intOf i).toNat)
      case atStart => exact .inl ⟨rfl, HO.out, d0, d1, G1.out.kpt⟩
      case round =>
        rcases hrel with ⟨rfl, HV, e0, e1, HK⟩ | ⟨rfl, HV, e0, e1, HK⟩ | ⟨rfl, HV, HK⟩
        · have RR := Lib.hid (HR1.out.kpt HK.out)
          go_wp2_with (at_builtin; refine wp_appendP rfl (.tmp 31) (.tmp 32) rfl W0.heap.size _ _ [] ps wr rfl HV.out rfl RR.out (by simp; omega) HK.out.size ?_; intro v' w' ho' hb'; have HO' := Lib.hid ho'; have HB' : Hid (Kpt W0 w') := Below.trans HK.out hb'; have f0 := (show Kpt W0 w' from HB'.out).cell hc0; have f1 := (show Kpt W0 w' from HB'.out).cell hc1; clear ho' hb')
          go_roundw
          case rel => exact .inr (.inl ⟨rfl, HO'.out, f0, f1, HB'⟩)
          case measure => simp [intOf]
        · have RR := Lib.hid (HR2.out.kpt HK.out)
          go_wp2_with (at_builtin; refine wp_appendP rfl (.tmp 31) (.tmp 32) rfl W0.heap.size _ _ ps qs wr rfl HV.out rfl RR.out hm HK.out.size ?_; intro v' w' ho' hb'; have HO' := Lib.hid ho'; have HB' : Hid (Kpt W0 w') := Below.trans HK.out hb'; clear ho' hb')
          go_roundw
          case rel => exact .inr (.inr ⟨rfl, HO'.out, HB'⟩)
          case measure => simp [intOf]
        · go_wp2
          go_ret
          exact ⟨⟨_, rfl, HV.out⟩, HK.out⟩

end Go.Proofs.Ytklaojahocjeiaa
