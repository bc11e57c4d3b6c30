/-
  Merged: Ten, SameD, PenB.
-/
import Derived.Test.YthaahebggboliaaGreatMp1
import Derived.Test.YthaahebggboliaaGreatRow
import Derived.Test.YthaahebggboliaaGreatTrip
import Derived.Test.YthaahebggboliaaGreatKept
import Derived.Deep.QuietTactic
import Derived.BigQuiet
import Derived.Test.YthaahebggboliaaGreatMps
import Derived.Test.YthaahebggboliaaGreatMp3
import Derived.Test.YthaahebggboliaaGreatMa1
import Derived.Test.YthaahebggboliaaGreatMcp2
import Derived.Deep.MidRow
-- Ten
namespace Go.Proofs.YthaahebggboliaaGreat
open Go.RowKit
set_option linter.unusedVariables false

def tenL (k : Nat) : List Int := List.replicate k 100000 ++ List.replicate (20 - k) 0
theorem tenL_len (k : Nat) (h : k ≤ 20) : (tenL k).length = 20 := by simp [tenL]; omega
set_option maxHeartbeats 400000 in
theorem tenEach_run (w : World) : Calls Tryz.prog 49 #[] w fun e w' => ∃ v, e = .returned v ∧ Reads w' v (tenL 20) ∧ Kpt w w' := by
  have MK : (Instr.makeSlice 22 (.int .i64 20) (.int .i64 20)).run Tryz.prog w = .ok (.slice (some ⟨w.heap.size, 0, none⟩) 20 20) (w.alloc (.cells (Array.replicate 20 (Value.int .i64 0)) 3)) := run_zeros w 20 (by omega)
  have R0 : Hid (Row (w.alloc (.cells (Array.replicate 20 (Value.int .i64 0)) 3)) w.heap.size (tenL 0)) := Row.made w 20
  generalize hW : w.alloc (.cells (Array.replicate 20 (Value.int .i64 0)) 3) = W at MK R0
  have KW : Hid (Kpt w W) := by rw [← hW]; exact (Kpt.refl w).alloc _
  clear hW
  go_enter Tryz.func49, Tryz.ntmps49
  go_wp2
  go_loopw [2] (fun i wr => ∃ k : Nat, k ≤ 20 ∧ i = .int .i64 k ∧ Hid (Row wr w.heap.size (tenL k)) ∧ Hid (Kpt w wr)) (fun i _ => 20 - (intOf i).toNat)
  case atStart => exact ⟨0, Nat.zero_le _, rfl, R0.out, KW.out⟩
  case round =>
    obtain ⟨k, hk, rfl, HR, HK⟩ := hrel
    clear MK
    by_cases hlt : k < 20
    · have c1 := HR.out.cell (j := k) (by rw [tenL_len k hk]; exact hlt)
      have f1 := HR.out.frozen k
      have hp : (tenL k).set k 100000 = tenL (k + 1) := by
        unfold tenL
        rw [List.set_append_right _ _ (by simp), List.length_replicate, Nat.sub_self, show 20 - k = (20 - (k + 1)) + 1 by omega, List.replicate_succ, List.set_cons_zero, List.replicate_succ', List.append_assoc]; rfl
      have HP := Lib.hid hp
      clear hp
      have k0 : (k : Int) < 20 := by omega
      go_wp2
      go_roundw
      case rel => exact ⟨k + 1, by omega, by go_num, by unfold Hid; rw [← HP.out]; exact HR.out.put k _, HK.out.setCell (Nat.le_refl _) _⟩
      case measure => simp [intOf]; omega
    · obtain rfl : k = 20 := by omega
      have R : Reads wr (.slice (some ⟨w.heap.size, 0, none⟩) 20 20) (tenL 20) := reads_mk (tenL_len 20 (Nat.le_refl _)) (by unfold maxLen; decide) (fun j hj => by rw [Nat.zero_add]; exact HR.out.cell hj)
      have HRR := Lib.hid R
      clear R
      go_wp2
      go_ret
      exact ⟨_, rfl, HRR.out, HK.out⟩

end Go.Proofs.YthaahebggboliaaGreat

-- SameD
namespace Go.Proofs.YthaahebggboliaaGreat
open Go.RowKit
set_option linter.unusedVariables false

theorem neqD (a b c d e f : Int) (w : World) : (binOp .neq 130 (.agg #[.int .i64 a, .int .i64 b, .int .i64 c]) (.agg #[.int .i64 d, .int .i64 e, .int .i64 f])).run Tryz.prog w = .ok (.bool (!decide ((a, b, c) = (d, e, f)))) w := by
  have u3 := Tryz.underlying3
  have hS : Tryz.prog.underlying 130 = some (.struct (Tryz.prog.fieldsOf 130)) := by kernel_rfl
  have hp : Tryz.prog.stoodInHeld 130 = false := by kernel_rfl
  have a3 : ∀ w, (isAgg 3).run Tryz.prog w = .ok false w := fun w => by kernel_rfl
  have h : ∀ w, (Op.equalIn (9999 + 1) 130 (.agg #[.int .i64 a, .int .i64 b, .int .i64 c]) (.agg #[.int .i64 d, .int .i64 e, .int .i64 f])).run Tryz.prog w = .ok (decide ((a, b, c) = (d, e, f))) w := fun w => by
    rw [run_equalIn_agg w 9999 130 _ _ hS hp]
    simp only [Program.fieldsOf, Tryz.underlying130]
    go_simp
    by_cases h1 : a = d <;> by_cases h2 : b = e <;> by_cases h3 : c = f <;> simp [h1, h2, h3]
  simp only [binOp, Op.equal, Op.maxDepth, Sem.run_bind]
  rw [show (10000 : Nat) = 9999 + 1 from rfl, h]
  simp

end Go.Proofs.YthaahebggboliaaGreat

-- PenB
namespace Go.Proofs.YthaahebggboliaaGreat
open Go.RowKit
set_option linter.unusedVariables false

theorem Tryz.infoTmB : (Tryz.prog.info? 60).map (fun i => (i.zero, i.size, i.bytes)) = some (some (.agg #[.int .i64 0, .int .i64 0, .int .i64 0, .int .i64 0]), 4, 32) := by kernel_rfl
/-- the terms of the first k classes are laid -/
def tmA (k : Nat) : Array Value := Array.ofFn (n := 24) fun i => .int .i64 (if i.val < 4 * k then [4, 7, 2, 100].getD (i.val % 4) 0 else 0)
theorem run_tms (w : World) : (Instr.makeSlice 25 (.int .i64 6) (.int .i64 6)).run Tryz.prog w = .ok (.slice (some ⟨w.heap.size, 0, none⟩) 6 6) (w.alloc (.cells (tmA 0) 60)) := by
  obtain ⟨i0, hi, hz0, hz1, hz2⟩ := info_parts Tryz.infoTmB
  have := run_make (P := Tryz.prog) w 25 60 i0 _ Tryz.underlying25 hi hz0 .i64 .i64 6 6 (by omega) (by omega) (by rw [hz2]; omega) (by omega)
  rw [hz1] at this
  have e : madeCells (Value.agg #[.int .i64 0, .int .i64 0, .int .i64 0, .int .i64 0]).cells ((6 : Int).toNat * 4) = tmA 0 := by kernel_rfl
  rw [e] at this
  exact this
def clsT : List (List Int) := List.replicate 6 [4, 7, 2, 100]
theorem tm_some (k i : Nat) (h : i < 24) : ∃ u, (tmA k)[i]? = some u := ⟨_, Array.getElem?_eq_getElem (by unfold tmA; simpa using h)⟩
def tmV : Array Value := #[.int .i64 4, .int .i64 7, .int .i64 2, .int .i64 100]
theorem tm_put : ∀ k, k < 6 → putL (tmA k) (k * 4) tmV.toList = tmA (k + 1) := by
  intro k hk
  rcases (show k = 0 ∨ k = 1 ∨ k = 2 ∨ k = 3 ∨ k = 4 ∨ k = 5 by omega) with rfl | rfl | rfl | rfl | rfl | rfl <;> kernel_rfl
theorem tm_one : tmV.all (·.oneCell') = true := by simp [tmV, Value.oneCell']
theorem tm_size : (Tryz.prog.info? 60).map (·.size) = some tmV.size := by kernel_rfl
theorem tm_there {w : World} {g k : Nat} (hk : k < 6) (h : Blk w g (tmA k) 60) : w.there g (k * 4) tmV.size := fun i hi => by
  have hi4 : i < 4 := hi
  obtain ⟨u, hu⟩ := tm_some k (k * 4 + i) (by omega)
  exact ⟨by rw [h.cell, hu]; rfl, h.frozen _⟩
theorem tm_at : ∀ k j, k < 6 → j < 4 → (tmA 6)[k * 4 + j]? = some (.int .i64 ((clsT.getD k []).getD j 0)) := by
  intro k j hk hj
  rcases (show k = 0 ∨ k = 1 ∨ k = 2 ∨ k = 3 ∨ k = 4 ∨ k = 5 by omega) with rfl | rfl | rfl | rfl | rfl | rfl <;> rcases (show j = 0 ∨ j = 1 ∨ j = 2 ∨ j = 3 by omega) with rfl | rfl | rfl | rfl <;> kernel_rfl

theorem tm_laid {w : World} {g k : Nat} (hk : k < 6) (h : Blk w g (tmA k) 60) : Blk (w.setCells g (k * 4) tmV.toList) g (tmA (k + 1)) 60 := by
  have := heap_setCells tmV.toList (k * 4) h
  rw [tm_put k hk] at this
  exact this
set_option maxHeartbeats 400000 in
theorem classes_run (w : World) : Calls Tryz.prog 100 #[] w fun e w' => ∃ v, e = .returned v ∧ ReadsT w' v clsT ∧ Kpt w w' := by
  have MK := run_tms w
  go_enter Tryz.func100, Tryz.ntmps100
  go_wp2
  go_loopw [2] (fun i wr => ∃ k : Nat, k ≤ 6 ∧ i = .int .i64 k ∧ Hid (Blk wr w.heap.size (tmA k) 60) ∧ Hid (Kpt w wr)) (fun i _ => 6 - (intOf i).toNat)
  case atStart => exact ⟨0, Nat.zero_le _, rfl, Blk.made w _ _, (Kpt.refl w).alloc _⟩
  case round =>
    obtain ⟨k, hk, rfl, HB, HK⟩ := hrel
    clear MK
    by_cases hlt : k < 6
    · have k0 : (k : Int) < 6 := by omega
      go_wp2_with (first
        | (go_at_call 70; (with_reducible refine (someT_run _).mono ?_); rintro z w2 ⟨rfl, k2⟩; have B2 := Lib.hid (HB.out.kpt k2); have K2 := Lib.hid (ktr HK.out k2); clear k2)
        | (refine wpList_store_mid rfl 60 (.tmp 13) (.tmp 12) rfl w.heap.size (k * 4) tmV rfl rfl (tm_there hlt B2.out) tm_size tm_one ?_; have B3 := Lib.hid (tm_laid hlt B2.out); have K3 := Lib.hid (Kpt.setCells K2.out (Nat.le_refl w.heap.size) (k * 4) tmV.toList); generalize World.setCells w2 w.heap.size (k * 4) tmV.toList = w3 at B3 K3 ⊢))
      go_roundw
      case rel => exact ⟨k + 1, by omega, by go_num, B3.out, K3.out⟩
      case measure => simp [intOf]; omega
    · obtain rfl : k = 6 := by omega
      go_wp2
      go_ret
      refine ⟨_, rfl, ⟨_, 6, rfl, by decide, fun k hk => ⟨w.heap.size, 0, rfl, fun j hj => ?_⟩⟩, HK.out⟩
      rw [Nat.zero_add, HB.out.cell]
      exact tm_at k j hk hj

end Go.Proofs.YthaahebggboliaaGreat
