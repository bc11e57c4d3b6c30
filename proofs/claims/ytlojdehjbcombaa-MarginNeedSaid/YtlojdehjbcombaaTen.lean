/-
  What tenEach answers: the prices that the laws begin with.
-/
import Derived.Test.YtlojdehjbcombaaPrices
import Derived.Test.YtlojdehjbcombaaRow
namespace Go.Proofs.Ytlojdehjbcombaa
open Go.RowKit
set_option linter.unusedVariables false

def tenL (k : Nat) : List Int := List.replicate k 100000 ++ List.replicate (20 - k) 0
theorem tenL_len (k : Nat) (h : k ≤ 20) : (tenL k).length = 20 := by simp [tenL]; omega
set_option maxHeartbeats 400000 in
theorem tenEach_run (w : World) : Calls Try.prog 82 #[] w fun e w' => ∃ v, e = .returned v ∧ Reads w' v (tenL 20) ∧ Kpt w w' := by
  have MK : (Instr.makeSlice 58 (.int .i64 20) (.int .i64 20)).run Try.prog w = .ok (.slice (some ⟨w.heap.size, 0, none⟩) 20 20) (w.alloc (.cells (Array.replicate 20 (Value.int .i64 0)) 3)) := run_zeros w 20 (by omega)
  have R0 : Hid (Row (w.alloc (.cells (Array.replicate 20 (Value.int .i64 0)) 3)) w.heap.size (tenL 0)) := Row.made w 20
  generalize hW : w.alloc (.cells (Array.replicate 20 (Value.int .i64 0)) 3) = W at MK R0
  have KW : Hid (Kpt w W) := by rw [← hW]; exact (Kpt.refl w).alloc _
  clear hW
  go_enter Try.func82, Try.ntmps82
  go_wp2
  go_loopw [2] (fun i wr => ∃ k : Nat, k ≤ 20 ∧ i = .int .i64 k ∧ Hid (Row wr w.heap.size (tenL k)) ∧ Hid (Kpt w wr)) (fun i _ => 20 - (intOf i).toNat)
  case atStart => exact ⟨0, Nat.zero_le _, rfl, R0.out, KW.out⟩
  case round =>
    obtain ⟨k, hk, rfl, HR, HK⟩ := hrel
    clear MK
    by_cases hlt : k < 20
    · have c1 := HR.out.cell (j := k) (by rw [tenL_len k hk]; exact hlt)
      have f1 := HR.out.frozen k
      have hp : (tenL k).set k 100000 = tenL (k + 1) := by
        unfold tenL
        rw [List.set_append_right _ _ (by simp), List.length_replicate, Nat.sub_self, show 20 - k = (20 - (k + 1)) + 1 by omega, List.replicate_succ, List.set_cons_zero, List.replicate_succ', List.append_assoc]; rfl
      have HP := Lib.hid hp
      clear hp
      have k0 : (k : Int) < 20 := by omega
      go_wp2
      go_roundw
      case rel => exact ⟨k + 1, by omega, by go_num, by unfold Hid; rw [← HP.out]; exact HR.out.put k _, HK.out.setCell (Nat.le_refl _) _⟩
      case measure => simp [intOf]; omega
    · obtain rfl : k = 20 := by omega
      have R : Reads wr (.slice (some ⟨w.heap.size, 0, none⟩) 20 20) (tenL 20) := reads_mk (tenL_len 20 (Nat.le_refl _)) (by unfold maxLen; decide) (fun j hj => by rw [Nat.zero_add]; exact HR.out.cell hj)
      have HRR := Lib.hid R
      clear R
      go_wp2
      go_ret
      exact ⟨_, rfl, HRR.out, HK.out⟩

end Go.Proofs.Ytlojdehjbcombaa
