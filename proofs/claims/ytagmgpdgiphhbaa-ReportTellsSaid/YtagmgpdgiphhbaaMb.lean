/-
  Merged: Ten, SameInts, RepW, RepX.
-/
import Derived.Test.YtagmgpdgiphhbaaPrices
import Derived.Test.YtagmgpdgiphhbaaRow
import Derived.Test.YtagmgpdgiphhbaaBase
import Derived.Test.YtagmgpdgiphhbaaKept
import Derived.Deep.QuietTactic
import Derived.BigQuiet
import Derived.Test.YtagmgpdgiphhbaaM9
import Derived.Test.YtagmgpdgiphhbaaMa
import Derived.Deep.Cut
import Derived.Deep.CutRange
import Derived.Deep.RegionWith
import Derived.Deep.RegionHeld3
import Derived.Deep.RegionLaw
-- Ten
namespace Go.Proofs.Ytagmgpdgiphhbaa
open Go.RowKit
set_option linter.unusedVariables false

def tenL (k : Nat) : List Int := List.replicate k 100000 ++ List.replicate (20 - k) 0
theorem tenL_len (k : Nat) (h : k ≤ 20) : (tenL k).length = 20 := by simp [tenL]; omega
set_option maxHeartbeats 400000 in
theorem tenEach_run (w : World) : Calls Try.prog 38 #[] w fun e w' => ∃ v, e = .returned v ∧ Reads w' v (tenL 20) ∧ Kpt w w' := by
  have MK : (Instr.makeSlice 22 (.int .i64 20) (.int .i64 20)).run Try.prog w = .ok (.slice (some ⟨w.heap.size, 0, none⟩) 20 20) (w.alloc (.cells (Array.replicate 20 (Value.int .i64 0)) 3)) := run_zeros w 20 (by omega)
  have R0 : Hid (Row (w.alloc (.cells (Array.replicate 20 (Value.int .i64 0)) 3)) w.heap.size (tenL 0)) := Row.made w 20
  generalize hW : w.alloc (.cells (Array.replicate 20 (Value.int .i64 0)) 3) = W at MK R0
  have KW : Hid (Kpt w W) := by rw [← hW]; exact (Kpt.refl w).alloc _
  clear hW
  go_enter Try.func38, Try.ntmps38
  go_wp2
  go_loopw [2] (fun i wr => ∃ k : Nat, k ≤ 20 ∧ i = .int .i64 k ∧ Hid (Row wr w.heap.size (tenL k)) ∧ Hid (Kpt w wr)) (fun i _ => 20 - (intOf i).toNat)
  case atStart => exact ⟨0, Nat.zero_le _, rfl, R0.out, KW.out⟩
  case round =>
    obtain ⟨k, hk, rfl, HR, HK⟩ := hrel
    clear MK
    by_cases hlt : k < 20
    · have c1 := HR.out.cell (j := k) (by rw [tenL_len k hk]; exact hlt)
      have f1 := HR.out.frozen k
      have hp : (tenL k).set k 100000 = tenL (k + 1) := by
        unfold tenL
        rw [List.set_append_right _ _ (by simp), List.length_replicate, Nat.sub_self, show 20 - k = (20 - (k + 1)) + 1 by omega, List.replicate_succ, List.set_cons_zero, List.replicate_succ', List.append_assoc]; rfl
      have HP := Lib.hid hp
      clear hp
      have k0 : (k : Int) < 20 := by omega
      go_wp2
      go_roundw
      case rel => exact ⟨k + 1, by omega, by go_num, by unfold Hid; rw [← HP.out]; exact HR.out.put k _, HK.out.setCell (Nat.le_refl _) _⟩
      case measure => simp [intOf]; omega
    · obtain rfl : k = 20 := by omega
      have R : Reads wr (.slice (some ⟨w.heap.size, 0, none⟩) 20 20) (tenL 20) := reads_mk (tenL_len 20 (Nat.le_refl _)) (by unfold maxLen; decide) (fun j hj => by rw [Nat.zero_add]; exact HR.out.cell hj)
      have HRR := Lib.hid R
      clear R
      go_wp2
      go_ret
      exact ⟨_, rfl, HRR.out, HK.out⟩

end Go.Proofs.Ytagmgpdgiphhbaa

-- SameInts
namespace Go.Proofs.Ytagmgpdgiphhbaa
open Go.RowKit
set_option linter.unusedVariables false

set_option maxRecDepth 100000 in
set_option maxHeartbeats 1000000 in
theorem sameI_some (b off cap c off' cap' : Nat) (xs : List Int) (w : World) (hm : xs.length ≤ maxLen) (h1 : ∀ j, j < xs.length → w.cell? ⟨b, off + j, none⟩ = some (.int .i64 (xs.getD j 0))) (h2 : ∀ j, j < xs.length → w.cell? ⟨c, off' + j, none⟩ = some (.int .i64 (xs.getD j 0))) :
    Calls Try.prog 16 #[.slice (some ⟨b, off, none⟩) xs.length cap, .slice (some ⟨c, off', none⟩) xs.length cap'] w fun e w' => e = .returned (.bool true) ∧ Kpt w w' := by
  unfold maxLen at hm
  have H1 := Lib.hid h1
  have H2 := Lib.hid h2
  clear h1 h2
  go_enter Try.func16, Try.ntmps16
  go_wp2
  go_loopw [5] (fun i wr => ∃ k : Nat, k ≤ xs.length ∧ i = .int .i64 k ∧ Hid (Kpt w wr)) (fun i _ => xs.length - (intOf i).toNat)
  case atStart => exact ⟨0, Nat.zero_le _, rfl, Kpt.refl _⟩
  case round =>
    obtain ⟨k, hk, rfl, HG⟩ := hrel
    by_cases hlt : k < xs.length
    · have c1 := HG.out.cell (H1.out k hlt)
      have c2 := HG.out.cell (H2.out k hlt)
      generalize xs.getD k 0 = z at c1 c2
      have k0 : (0 : Int) ≤ k := by omega
      have k1 : (k : Int) < xs.length := by omega
      go_wp2
      go_quiet (fail)
      go_wp2
      go_roundw
      case rel => exact ⟨k + 1, by omega, by go_num, by unfold Hid; exact HG.out.drewN _⟩
      case measure => simp [intOf]; omega
    · go_wp2
      go_ret
      exact ⟨rfl, HG.out⟩
theorem sameI_none (a b : Option Addr) (cap cap' : Nat) (w : World) :
    Calls Try.prog 16 #[.slice a 0 cap, .slice b 0 cap'] w fun e w' => e = .returned (.bool true) ∧ Kpt w w' := by
  go_enter Try.func16, Try.ntmps16
  go_wp2
  go_loop [5] (fun i => i = .int .i64 0) (fun _ => 0)
  case atStart => exact rfl
  case round =>
    obtain rfl := hrel
    go_wp2
    go_ret
    exact ⟨rfl, Kpt.refl _⟩
theorem sameI_run (u v : Value) (xs : List Int) (w : World) (h1 : Reads w u xs) (h2 : Reads w v xs) :
    Calls Try.prog 16 #[u, v] w fun e w' => e = .returned (.bool true) ∧ Kpt w w' := by
  have hm := h1.len
  rcases h1.cell with ⟨rfl, a, cap, rfl⟩ | ⟨h0, b, off, cap, rfl, hc⟩
  · rcases h2.cell with ⟨_, a', cap', rfl⟩ | ⟨h0, _⟩
    · exact sameI_none a a' cap cap' w
    · simp at h0
  · rcases h2.cell with ⟨rfl, _⟩ | ⟨_, b', off', cap', rfl, hc'⟩
    · simp at h0
    · exact sameI_some b off cap b' off' cap' xs w hm hc hc'

end Go.Proofs.Ytagmgpdgiphhbaa

-- RepW
namespace Go.Proofs.Ytagmgpdgiphhbaa
open Go.RowKit
set_option linter.unusedVariables false

def rpA : List Int := [7, 1, 2, 0, 3, 739935, 100, 0, 0, 0]
def rpB : List Int := [9, 4, 2, 0, 3, 739935, 50, 0, 0, 0]
theorem rp_flb : ∀ l ∈ [rpA, rpB], FlB l := by
  intro l hl
  rcases List.mem_cons.1 hl with rfl | hl
  · unfold FlB; decide +kernel
  · rw [List.mem_singleton.1 hl]; unfold FlB; decide +kernel
theorem rf_ab {w : World} {g : Nat} (h : Blk w g #[.int .i64 7, .int .i64 1, .int .i64 2, .int .i64 0, .int .i64 3, .int .i64 739935, .int .i64 100, .int .i64 0, .int .i64 0, .int .i64 0, .int .i64 9, .int .i64 4, .int .i64 2, .int .i64 0, .int .i64 3, .int .i64 739935, .int .i64 50, .int .i64 0, .int .i64 0, .int .i64 0] 38) : ReadsF w (.slice (some ⟨g, 0, none⟩) 2 2) [rpA, rpB] := by
  refine ⟨_, 2, rfl, (by unfold maxLen; decide), rp_flb, fun k hk => ⟨g, 0, rfl, fun j hj => ?_⟩⟩
  have hk' : k = 0 ∨ k = 1 := by have : k < 2 := hk; omega
  rw [Nat.zero_add, h.cell]
  rcases hk' with rfl | rfl
  · rcases (show j = 0 ∨ j = 1 ∨ j = 2 ∨ j = 3 ∨ j = 4 ∨ j = 5 ∨ j = 6 ∨ j = 7 ∨ j = 8 ∨ j = 9 by omega) with rfl | rfl | rfl | rfl | rfl | rfl | rfl | rfl | rfl | rfl <;> rfl
  · rcases (show j = 0 ∨ j = 1 ∨ j = 2 ∨ j = 3 ∨ j = 4 ∨ j = 5 ∨ j = 6 ∨ j = 7 ∨ j = 8 ∨ j = 9 by omega) with rfl | rfl | rfl | rfl | rfl | rfl | rfl | rfl | rfl | rfl <;> rfl
theorem ri_2 {w : World} {g : Nat} {x y : Int} (h : Blk w g #[.int .i64 x, .int .i64 y] 3) : Reads w (.slice (some ⟨g, 0, none⟩) 2 2) [x, y] := by
  refine reads_mk rfl (by unfold maxLen; decide) fun j hj => ?_
  rw [Nat.zero_add]
  rcases (show j = 0 ∨ j = 1 by simp at hj; omega) with rfl | rfl
  · exact h.cell 0
  · exact h.cell 1
theorem ri_3 {w : World} {g : Nat} {x y z : Int} (h : Blk w g #[.int .i64 x, .int .i64 y, .int .i64 z] 3) : Reads w (.slice (some ⟨g, 0, none⟩) 3 3) [x, y, z] := by
  refine reads_mk rfl (by unfold maxLen; decide) fun j hj => ?_
  rw [Nat.zero_add]
  rcases (show j = 0 ∨ j = 1 ∨ j = 2 by simp at hj; omega) with rfl | rfl | rfl
  · exact h.cell 0
  · exact h.cell 1
  · exact h.cell 2
theorem rb_opn : opn [rpA, rpB] [rpA, rpB].length = [⟨0, by decide⟩, ⟨1, by decide⟩] := by decide +kernel
theorem rb_ageQ : ageQ 96 wkH [rpA, rpB] 739942 [2, 5] = 0 := by decide +kernel
theorem rb_ageT : ageT 96 wkH 739942 [2, 5] [rpA, rpB] (opn [rpA, rpB] [rpA, rpB].length) = [0, 2, 0] := by decide +kernel
theorem rb_chk : checksE [rpA, rpB] = 0 := by decide +kernel
theorem rb_p1 : ptyT 1 [rpA, rpB] (opn [rpA, rpB] [rpA, rpB].length) = [0, 100, 0, 0, 50] ++ List.replicate 26 0 := by decide +kernel
theorem rb_p2 : ptyT 2 [rpA, rpB] (opn [rpA, rpB] [rpA, rpB].length) = [0, 0, 150] ++ List.replicate 28 0 := by decide +kernel
theorem rb_topE : topE [rpA, rpB] (tenL 20) 5 = 0 := by decide +kernel
theorem rb_wort : wortT (tenL 20) [rpA, rpB] (opn [rpA, rpB] [rpA, rpB].length) = [[7, 1000], [9, 500]] := by decide +kernel
theorem rb_rat : ratR [rpA, rpB] = 0 ∧ ratE [rpA, rpB] = 0 ∧ ratR [] = 0 ∧ ratE [] = 5 := by decide +kernel
theorem rb_sort {qs : List (List Int)} (h : qs.Perm [[7, 1000], [9, 500]]) (hp : qs.Pairwise (fun x y => ¬ ahdW y x)) : qs = [[7, 1000], [9, 500]] := by
  have hl : qs.length = 2 := h.length_eq
  match qs, hl with
  | [a, b], _ =>
    have ha : a = [7, 1000] ∨ a = [9, 500] := by simpa using h.mem_iff.1 (show a ∈ [a, b] by simp)
    rcases ha with rfl | rfl
    · have := (List.perm_cons _).1 h
      rw [List.perm_singleton.1 this]
    · exfalso
      have h' : ([[9, 500], b] : List (List Int)).Perm [[9, 500], [7, 1000]] := h.trans (.swap _ _ _)
      have := List.perm_singleton.1 ((List.perm_cons _).1 h')
      obtain rfl : b = [7, 1000] := by simpa using this
      have hq := (List.pairwise_cons.1 hp).1 [7, 1000] (by simp)
      exact hq (by unfold ahdW; decide)

theorem rb_c1 {w : World} {g : Nat} (h : IB w g ([0, 100, 0, 0, 50] ++ List.replicate 26 0)) : w.cell? ⟨g, 1, none⟩ = some (.int .i64 100) := h.cell (j := 1) (by decide)
theorem rb_c4 {w : World} {g : Nat} (h : IB w g ([0, 100, 0, 0, 50] ++ List.replicate 26 0)) : w.cell? ⟨g, 4, none⟩ = some (.int .i64 50) := h.cell (j := 4) (by decide)
theorem rb_c2 {w : World} {g : Nat} (h : IB w g ([0, 0, 150] ++ List.replicate 28 0)) : w.cell? ⟨g, 2, none⟩ = some (.int .i64 150) := h.cell (j := 2) (by decide)
theorem rb_ages (W : World) (vw ev : Value) (gl : Nat) (h1 : Reads W vw wkH) (h2 : ReadsF W (.slice (some ⟨gl, 0, none⟩) 2 2) [rpA, rpB]) (h3 : Reads W ev [2, 5]) :
    Calls Try.prog 4 #[calV 96 vw, .slice (some ⟨gl, 0, none⟩) 2 2, .int .i64 739942, ev] W fun e w' => ∃ g, e = .returned (.tuple #[.slice (some ⟨g, 0, none⟩) 3 3, .int .i64 0]) ∧ Reads w' (.slice (some ⟨g, 0, none⟩) 3 3) [0, 2, 0] ∧ Kpt W w' := by
  obtain ⟨a, cap, rfl, -⟩ := id h1
  obtain ⟨a3, cap3, rfl, -⟩ := id h3
  refine (ages_ok 96 739942 a (some ⟨gl, 0, none⟩) a3 cap 2 cap3 wkH [2, 5] [rpA, rpB] W h1 wk_fits h2 h3 rb_ageQ).mono ?_
  rintro e w' ⟨⟨g, -, rfl, hi⟩, hk⟩
  rw [rb_ageT] at hi
  exact ⟨g, rfl, hi.reads (by unfold maxLen; decide) 3, hk⟩
theorem rb_parties (W : World) (gl : Nat) (h2 : ReadsF W (.slice (some ⟨gl, 0, none⟩) 2 2) [rpA, rpB]) :
    Calls Try.prog 5 #[.slice (some ⟨gl, 0, none⟩) 2 2] W fun e w' => ∃ g1 g2, e = .returned (.tuple #[.slice (some ⟨g1, 0, none⟩) 31 31, .slice (some ⟨g2, 0, none⟩) 31 31, .int .i64 0]) ∧ IB w' g1 ([0, 100, 0, 0, 50] ++ List.replicate 26 0) ∧ IB w' g2 ([0, 0, 150] ++ List.replicate 28 0) ∧ Kpt W w' := by
  refine (parties_ok (some ⟨gl, 0, none⟩) 2 [rpA, rpB] W h2 rb_chk).mono ?_
  rintro e w' ⟨⟨g1, g2, -, -, -, rfl, i1, i2⟩, hk⟩
  rw [rb_p1] at i1
  rw [rb_p2] at i2
  exact ⟨g1, g2, rfl, i1, i2, hk⟩
theorem rb_top (W : World) (pv : Value) (gl : Nat) (h2 : ReadsF W (.slice (some ⟨gl, 0, none⟩) 2 2) [rpA, rpB]) (h3 : Reads W pv (tenL 20)) :
    Calls Try.prog 6 #[.slice (some ⟨gl, 0, none⟩) 2 2, pv, .int .i64 5] W fun e w' => ∃ v, e = .returned (.tuple #[v, .int .i64 0]) ∧ Reads w' v [7, 9] ∧ Kpt W w' := by
  obtain ⟨a3, cap3, rfl, -⟩ := id h3
  refine (top_ok 5 (some ⟨gl, 0, none⟩) a3 2 cap3 (tenL 20) [rpA, rpB] W h2 h3 rb_topE).mono ?_
  rintro e w' ⟨⟨v, qs, hp, hq, rfl, ho⟩, hk⟩
  rw [rb_wort] at hp
  obtain rfl := rb_sort hp hq
  obtain ⟨a, cap, rfl, hr⟩ := ho.reads
  exact ⟨_, rfl, hr, hk⟩
theorem rb_rate (W : World) (gl : Nat) (h2 : ReadsF W (.slice (some ⟨gl, 0, none⟩) 2 2) [rpA, rpB]) :
    Calls Try.prog 7 #[.slice (some ⟨gl, 0, none⟩) 2 2] W fun e w' => e = .returned (.tuple #[.int .i64 0, .int .i64 0]) ∧ Kpt W w' := by
  have h := rate_run _ _ W h2
  rw [rb_rat.1, rb_rat.2.1] at h
  exact h
theorem rb_rate0 (W : World) :
    Calls Try.prog 7 #[.slice none 0 0] W fun e w' => e = .returned (.tuple #[.int .i64 0, .int .i64 5]) ∧ Kpt W w' := by
  have h := rate_run (.slice none 0 0) [] W ⟨none, 0, rfl, Nat.zero_le _, fun l hl => absurd hl (by simp), fun k hk => absurd hk (Nat.not_lt_zero k)⟩
  rw [rb_rat.2.2.1, rb_rat.2.2.2] at h
  exact h

set_option maxRecDepth 100000 in
set_option maxHeartbeats 4000000 in
theorem reportBegun (w : World) : Calls Try.prog 15 #[] w fun e w' => e = .returned (.bool true) ∧ Kpt w w' := by
  have SF := Lib.hid (fun w' => some_run w')
  go_enter Try.func15, Try.ntmps15
  go_upto_region 3 with (go_at_call 36; (with_reducible refine (SF.out _).mono ?_); rintro e w2 ⟨rfl, k2⟩; have K2 := Lib.hid k2; clear k2; have ZB : Hid (Blk (w2.alloc (.cells #[.int .i64 0, .int .i64 0, .int .i64 0, .int .i64 0, .int .i64 0, .int .i64 0, .int .i64 0, .int .i64 0, .int .i64 0, .int .i64 0] 38)) w2.heap.size _ 38) := Blk.made w2 _ 38)
  have BX : Hid (Blk (w2.alloc (.cells #[.int .i64 9, .int .i64 4, .int .i64 2, .int .i64 0, .int .i64 3, .int .i64 739935, .int .i64 50, .int .i64 0, .int .i64 0, .int .i64 0] 38)) w2.heap.size #[.int .i64 9, .int .i64 4, .int .i64 2, .int .i64 0, .int .i64 3, .int .i64 739935, .int .i64 50, .int .i64 0, .int .i64 0, .int .i64 0] 38) := Blk.made w2 _ _
  have K0 : Hid (Kpt w (w2.alloc (.cells #[.int .i64 9, .int .i64 4, .int .i64 2, .int .i64 0, .int .i64 3, .int .i64 739935, .int .i64 50, .int .i64 0, .int .i64 0, .int .i64 0] 38))) := Kpt.alloc K2.out _
  clear ZB K2
  generalize w2.alloc (.cells #[.int .i64 9, .int .i64 4, .int .i64 2, .int .i64 0, .int .i64 3, .int .i64 739935, .int .i64 50, .int .i64 0, .int .i64 0, .int .i64 0] 38) = W0 at BX K0 ⊢
  generalize w2.heap.size = B at BX ⊢
  go_cut [2] from 18 to 21 (fun v2 wc => (∃ g, v2 = .slice (some ⟨g, 0, none⟩) 2 2) ∧ Hid (ReadsF wc v2 [rpA, rpB]) ∧ Hid (Kpt w wc))
  case first =>
    have KA : Hid (Kpt W0 W0) := Kpt.refl _
    have x0 : World.cell? W0 ⟨B, 0, none⟩ = some (.int .i64 9) := BX.out.cell 0
    have x1 : World.cell? W0 ⟨B, 1, none⟩ = some (.int .i64 4) := BX.out.cell 1
    have x2 : World.cell? W0 ⟨B, 2, none⟩ = some (.int .i64 2) := BX.out.cell 2
    have x3 : World.cell? W0 ⟨B, 3, none⟩ = some (.int .i64 0) := BX.out.cell 3
    have x4 : World.cell? W0 ⟨B, 4, none⟩ = some (.int .i64 3) := BX.out.cell 4
    have x5 : World.cell? W0 ⟨B, 5, none⟩ = some (.int .i64 739935) := BX.out.cell 5
    have x6 : World.cell? W0 ⟨B, 6, none⟩ = some (.int .i64 50) := BX.out.cell 6
    have x7 : World.cell? W0 ⟨B, 7, none⟩ = some (.int .i64 0) := BX.out.cell 7
    have x8 : World.cell? W0 ⟨B, 8, none⟩ = some (.int .i64 0) := BX.out.cell 8
    have x9 : World.cell? W0 ⟨B, 9, none⟩ = some (.int .i64 0) := BX.out.cell 9
    go_region_held3 (fun w' => World.cell? w' ⟨B, 0, none⟩ = some (.int .i64 9) ∧ World.cell? w' ⟨B, 1, none⟩ = some (.int .i64 4) ∧ World.cell? w' ⟨B, 2, none⟩ = some (.int .i64 2) ∧ World.cell? w' ⟨B, 3, none⟩ = some (.int .i64 0) ∧ World.cell? w' ⟨B, 4, none⟩ = some (.int .i64 3) ∧ World.cell? w' ⟨B, 5, none⟩ = some (.int .i64 739935) ∧ World.cell? w' ⟨B, 6, none⟩ = some (.int .i64 50) ∧ World.cell? w' ⟨B, 7, none⟩ = some (.int .i64 0) ∧ World.cell? w' ⟨B, 8, none⟩ = some (.int .i64 0) ∧ World.cell? w' ⟨B, 9, none⟩ = some (.int .i64 0))
      (first
        | go_keep
        | (exact ⟨x0, x1, x2, x3, x4, x5, x6, x7, x8, x9⟩))
      (first | (go_at_call 36; (with_reducible refine (SF.out _).mono ?_); rintro e wa ⟨rfl, kk⟩; have KB : Hid (Kpt W0 wa) := ktr KA.out (by first | exact kk | exact ktr ((Kpt.refl _).drewN 1) kk | exact ktr ((Kpt.refl _).alloc _) kk | exact ktr (((Kpt.refl _).drewN 1).alloc _) kk | exact ktr (((Kpt.refl _).alloc _).drewN 1) kk); have KA := KB; have x0 : World.cell? wa ⟨B, 0, none⟩ = some (.int .i64 9) := (BX.out.kpt KA.out).cell 0; have x1 : World.cell? wa ⟨B, 1, none⟩ = some (.int .i64 4) := (BX.out.kpt KA.out).cell 1; have x2 : World.cell? wa ⟨B, 2, none⟩ = some (.int .i64 2) := (BX.out.kpt KA.out).cell 2; have x3 : World.cell? wa ⟨B, 3, none⟩ = some (.int .i64 0) := (BX.out.kpt KA.out).cell 3; have x4 : World.cell? wa ⟨B, 4, none⟩ = some (.int .i64 3) := (BX.out.kpt KA.out).cell 4; have x5 : World.cell? wa ⟨B, 5, none⟩ = some (.int .i64 739935) := (BX.out.kpt KA.out).cell 5; have x6 : World.cell? wa ⟨B, 6, none⟩ = some (.int .i64 50) := (BX.out.kpt KA.out).cell 6; have x7 : World.cell? wa ⟨B, 7, none⟩ = some (.int .i64 0) := (BX.out.kpt KA.out).cell 7; have x8 : World.cell? wa ⟨B, 8, none⟩ = some (.int .i64 0) := (BX.out.kpt KA.out).cell 8; have x9 : World.cell? wa ⟨B, 9, none⟩ = some (.int .i64 0) := (BX.out.kpt KA.out).cell 9; clear kk))
    all_goals go_wp2
    all_goals go_meet
    all_goals (case rel => exact ⟨⟨_, rfl⟩, rf_ab (Blk.made _ _ _), (ktr K0.out KA.out).alloc _⟩)
  case rest =>
  obtain ⟨⟨gl, rfl⟩, HF, KP⟩ := hcut
  clear BX K0
  have AG := Lib.hid (fun W vw ev (h1 : Reads W vw wkH) (h2 : ReadsF W (.slice (some ⟨gl, 0, none⟩) 2 2) [rpA, rpB]) (h3 : Reads W ev [2, 5]) => rb_ages W vw ev gl h1 h2 h3)
  have PA := Lib.hid (fun W (h2 : ReadsF W (.slice (some ⟨gl, 0, none⟩) 2 2) [rpA, rpB]) => rb_parties W gl h2)
  have TP := Lib.hid (fun W pv (h2 : ReadsF W (.slice (some ⟨gl, 0, none⟩) 2 2) [rpA, rpB]) (h3 : Reads W pv (tenL 20)) => rb_top W pv gl h2 h3)
  have R1 := Lib.hid (fun W (h2 : ReadsF W (.slice (some ⟨gl, 0, none⟩) 2 2) [rpA, rpB]) => rb_rate W gl h2)
  have R2 := Lib.hid (fun W => rb_rate0 W)
  go_wp2_with (first
    | (go_at_call 37; (with_reducible refine (week_any _).mono ?_); rintro z wg ⟨vw, rfl, rd, kk⟩; have HWK := Lib.hid rd; have KP := Lib.hid (ktr KP.out kk); have HF := Lib.hid (HF.out.kpt kk); clear rd kk)
    | (go_at_call 4; (with_reducible refine (AG.out _ _ _ (HWK.out.kpt ((Kpt.refl _).alloc _)) (HF.out.kpt ((Kpt.refl _).alloc _)) (ri_2 (Blk.made _ _ _))).mono ?_); rintro z wh ⟨ga, rfl, ia, kk⟩; have IA := Lib.hid ia; have KP := Lib.hid (ktr (KP.out.alloc _) kk); have HF := Lib.hid ((HF.out.kpt ((Kpt.refl _).alloc _)).kpt kk); clear ia kk HWK)
    | (go_at_call 5; (with_reducible refine (PA.out _ HF.out).mono ?_); rintro z wi ⟨g1, g2, rfl, i1, i2, kk⟩; have I1 := Lib.hid i1; have I2 := Lib.hid i2; have IA := Lib.hid (IA.out.kpt kk); have KP := Lib.hid (ktr KP.out kk); have HF := Lib.hid (HF.out.kpt kk); clear i1 i2 kk)
    | (go_at_call 38; (with_reducible refine (tenEach_run _).mono ?_); rintro z wj ⟨pv, rfl, rd, kk⟩; have HTE := Lib.hid rd; have IA := Lib.hid (IA.out.kpt kk); have I1 := Lib.hid (I1.out.kpt kk); have I2 := Lib.hid (I2.out.kpt kk); have KP := Lib.hid (ktr KP.out kk); have HF := Lib.hid (HF.out.kpt kk); clear rd kk)
    | (go_at_call 6; (with_reducible refine (TP.out _ _ HF.out HTE.out).mono ?_); rintro z wk ⟨tv, rfl, rd, kk⟩; have HTP := Lib.hid rd; have IA := Lib.hid (IA.out.kpt kk); have I1 := Lib.hid (I1.out.kpt kk); have I2 := Lib.hid (I2.out.kpt kk); have KP := Lib.hid (ktr KP.out kk); have HF := Lib.hid (HF.out.kpt kk); clear rd kk HTE)
    | (go_at_call 7; (with_reducible refine (R2.out _).mono ?_); rintro z wl ⟨rfl, kk⟩; have HTP := Lib.hid (HTP.out.kpt kk); have IA := Lib.hid (IA.out.kpt kk); have I1 := Lib.hid (I1.out.kpt kk); have I2 := Lib.hid (I2.out.kpt kk); have KP := Lib.hid (ktr KP.out kk); clear kk)
    | (go_at_call 7; (with_reducible refine (R1.out _ HF.out).mono ?_); rintro z wm ⟨rfl, kk⟩; have HTP := Lib.hid (HTP.out.kpt kk); have IA := Lib.hid (IA.out.kpt kk); have I1 := Lib.hid (I1.out.kpt kk); have I2 := Lib.hid (I2.out.kpt kk); have KP := Lib.hid (ktr KP.out kk); have HF := Lib.hid (HF.out.kpt kk); clear kk)
    | (go_at_call 16; (with_reducible refine (sameI_run _ _ [0, 2, 0] _ (IA.out.kpt ((Kpt.refl _).alloc _)) (ri_3 (Blk.made _ _ _))).mono ?_); rintro z wn ⟨rfl, kk⟩; have HTP := Lib.hid ((HTP.out.kpt ((Kpt.refl _).alloc _)).kpt kk); have J1 := (I1.out.kpt ((Kpt.refl _).alloc _)).kpt kk; have J2 := (I2.out.kpt ((Kpt.refl _).alloc _)).kpt kk; have KP := Lib.hid (ktr (KP.out.alloc _) kk); have e1 := rb_c1 J1; have e2 := rb_c4 J1; have e3 := rb_c2 J2; clear J1 J2 kk IA I1 I2)
    | (go_at_call 16; (with_reducible refine (sameI_run _ _ [7, 9] _ (HTP.out.kpt ((Kpt.refl _).alloc _)) (ri_2 (Blk.made _ _ _))).mono ?_); rintro z wo ⟨rfl, kk⟩; have KP := Lib.hid (ktr (KP.out.alloc _) kk); clear kk HTP))
  go_ret
  exact ⟨rfl, KP.out⟩

end Go.Proofs.Ytagmgpdgiphhbaa

-- RepX
namespace Go.Proofs.Ytagmgpdgiphhbaa
open Go.RowKit
set_option linter.unusedVariables false

def ageO (W : Int) (hs : List Int) (q : Int) (es : List Int) (fs : List (List Int)) : List Int := if ageQ W hs fs q es = 0 then ageT W hs q es fs (opn fs fs.length) else []
def ptyO (c : Nat) (fs : List (List Int)) : List Int := if checksE fs = 0 then ptyT c fs (opn fs fs.length) else []
theorem ages_any (W q : Int) (v fv ev : Value) (hs es : List Int) (fs : List (List Int)) (w : World) (hr : Reads w v hs) (hf : Fits hs) (hF : ReadsF w fv fs) (hE : Reads w ev es) :
    Calls Try.prog 4 #[calV W v, fv, .int .i64 q, ev] w fun e w' => ∃ a cap, e = .returned (.tuple #[.slice a (ageO W hs q es fs).length cap, .int .i64 (ageQ W hs fs q es)]) ∧ Reads w' (.slice a (ageO W hs q es fs).length cap) (ageO W hs q es fs) ∧ Kpt w w' := by
  by_cases h : ageQ W hs fs q es = 0
  · obtain ⟨a, cap, rfl, -⟩ := id hr
    obtain ⟨a2, cap2, rfl, -⟩ := id hF
    obtain ⟨a3, cap3, rfl, -⟩ := id hE
    have e0 : ageO W hs q es fs = ageT W hs q es fs (opn fs fs.length) := if_pos h
    have el : (ageT W hs q es fs (opn fs fs.length)).length = es.length + 1 := tal_len _ _ _ _
    refine (ages_ok W q a a2 a3 cap cap2 cap3 hs es fs w hr hf hF hE h).mono ?_
    rintro e w' ⟨⟨g, -, rfl, hi⟩, hk⟩
    rw [h, e0, el]
    have h40 := (edgE_0 (ageQ_0 h).2.2.2).1
    have := hi.reads (by unfold maxLen; omega) (es.length + 1)
    rw [el] at this
    exact ⟨_, _, rfl, this, hk⟩
  · refine (ages_bad W q v fv ev hs es fs w hr hf hF hE h).mono ?_
    rintro e w' ⟨rfl, hk⟩
    have e0 : ageO W hs q es fs = [] := if_neg h
    rw [e0]
    exact ⟨none, 0, rfl, reads_nil w' none 0, hk⟩
theorem parties_any (v : Value) (fs : List (List Int)) (w : World) (hF : ReadsF w v fs) :
    Calls Try.prog 5 #[v] w fun e w' => ∃ a cap b cap', e = .returned (.tuple #[.slice a (ptyO 1 fs).length cap, .slice b (ptyO 2 fs).length cap', .int .i64 (checksE fs)]) ∧ Reads w' (.slice a (ptyO 1 fs).length cap) (ptyO 1 fs) ∧ Reads w' (.slice b (ptyO 2 fs).length cap') (ptyO 2 fs) ∧ Kpt w w' := by
  by_cases h : checksE fs = 0
  · obtain ⟨a2, cap2, rfl, -⟩ := id hF
    have e1 : ptyO 1 fs = ptyT 1 fs (opn fs fs.length) := if_pos h
    have e2 : ptyO 2 fs = ptyT 2 fs (opn fs fs.length) := if_pos h
    have l1 : (ptyT 1 fs (opn fs fs.length)).length = 31 := tal_len _ _ _ _
    have l2 : (ptyT 2 fs (opn fs fs.length)).length = 31 := tal_len _ _ _ _
    refine (parties_ok a2 cap2 fs w hF h).mono ?_
    rintro e w' ⟨⟨g1, g2, -, -, -, rfl, i1, i2⟩, hk⟩
    have r1 := i1.reads (by rw [l1]; unfold maxLen; decide) 31
    have r2 := i2.reads (by rw [l2]; unfold maxLen; decide) 31
    rw [l1] at r1
    rw [l2] at r2
    rw [h, e1, e2, l1, l2]
    exact ⟨_, _, _, _, rfl, r1, r2, hk⟩
  · refine (parties_bad v fs w hF h).mono ?_
    rintro e w' ⟨rfl, hk⟩
    have e1 : ptyO 1 fs = [] := if_neg h
    have e2 : ptyO 2 fs = [] := if_neg h
    rw [e1, e2]
    exact ⟨none, 0, none, 0, rfl, reads_nil w' none 0, reads_nil w' none 0, hk⟩

theorem sum_s {xs : List Int} {k : Nat} (h : k < xs.length) : (xs.take (k + 1)).sum = (xs.take k).sum + xs.getD k 0 := by
  have e : xs.getD k 0 = xs[k] := by rw [List.getD_eq_getElem?_getD, List.getElem?_eq_getElem h]; rfl
  rw [List.take_succ_eq_append_getElem h, List.sum_append, e]
  simp
theorem sum_bd {xs : List Int} (h : ∀ j, 0 ≤ xs.getD j 0 ∧ xs.getD j 0 ≤ 1099511627776) (k : Nat) (hk : k ≤ xs.length) : 0 ≤ (xs.take k).sum ∧ (xs.take k).sum ≤ k * 1099511627776 := by
  induction k with
  | zero => simp
  | succ k ih => rw [sum_s (by omega)]; have := h k; have := ih (by omega); omega
end Go.Proofs.Ytagmgpdgiphhbaa
