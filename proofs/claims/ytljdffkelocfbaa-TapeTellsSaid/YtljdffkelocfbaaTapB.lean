/-
  What allRemainders of package tape does.
-/
import Derived.Test.YtljdffkelocfbaaTapA
namespace Go.Proofs.Ytljdffkelocfbaa
open Go.RowKit
set_option linter.unusedVariables false

def RowW (w : World) (g : Nat) (ns : List Nat) : Prop := Blk w g (ns.map u32v).toArray 54
theorem RowW.put {w : World} {g : Nat} {ns : List Nat} (h : RowW w g ns) (j n : Nat) : RowW (w.setCell ⟨g, j, none⟩ (.int .u32 (n : Int))) g (ns.set j n) := by
  have := Blk.put h j (.int .u32 (n : Int))
  unfold RowW
  rw [List.map_set]
  simpa [u32v] using this
theorem RowW.cell {w : World} {g : Nat} {ns : List Nat} (h : RowW w g ns) {j : Nat} (hj : j < ns.length) : w.cell? ⟨g, j, none⟩ = some (.int .u32 ((ns.getD j 0 : Nat) : Int)) := by
  rw [Blk.cell h, List.getElem?_toArray, List.getElem?_map, List.getElem?_eq_getElem hj, List.getD_eq_getElem?_getD, List.getElem?_eq_getElem hj]; rfl
def remL (k : Nat) : List Nat := (List.range k).map rmd ++ List.replicate (256 - k) 0
theorem remL_len {k : Nat} (h : k ≤ 256) : (remL k).length = 256 := by simp [remL]; omega
theorem remL_set {k : Nat} (h : k < 256) : (remL k).set k (rmd k) = remL (k + 1) := by
  unfold remL
  rw [List.set_append_right _ _ (by simp), List.length_map, List.length_range, Nat.sub_self, show 256 - k = (256 - (k + 1)) + 1 by omega, List.replicate_succ, List.set_cons_zero, List.range_succ, List.map_append, List.append_assoc]; rfl
theorem remL_at {j : Nat} (h : j < 256) : (remL 256).getD j 0 = rmd j := by
  simp [remL, h]

theorem stp_is {s : Nat} (hs : s < 4294967296) : bits .xor .u32 ((s : Int) / 2) (bits .and .u32 (s : Int) 1 * 3988292384 % 4294967296) = ((stp s : Nat) : Int) := by
  have e1 : bits .and .u32 (s : Int) 1 = ((s % 2 : Nat) : Int) := by
    have := u32_and_nat s 1 hs (by omega)
    rw [nat_mask1] at this
    exact this
  have e2 : ((s % 2 : Nat) : Int) * 3988292384 % 4294967296 = ((s % 2 * 3988292384 : Nat) : Int) := by omega
  have e3 : (s : Int) / 2 = ((s / 2 : Nat) : Int) := by omega
  rw [e1, e2, e3, u32_xor_nat _ _ (by omega) (by omega)]
  rfl
theorem zero_rem (w : World) : (zeroValue 54).run Try.prog w = .ok (.agg (Array.replicate 256 (Value.int .u32 0))) w := by kernel_rfl
theorem rep_u32 (n : Nat) : ((List.replicate n 0).map u32v).toArray = Array.replicate n (Value.int .u32 0) := by simp [u32v]
theorem RowW.made (w : World) : RowW (w.alloc (.cells (Array.replicate 256 (Value.int .u32 0)) 54)) w.heap.size (remL 0) := by
  have := Blk.made w (Array.replicate 256 (Value.int .u32 0)) 54
  unfold RowW
  rw [show remL 0 = List.replicate 256 0 from rfl, rep_u32]
  exact this
set_option maxRecDepth 100000 in
set_option maxHeartbeats 4000000 in
theorem rem_run (w : World) : Calls Try.prog 20 #[] w fun e w' => (∃ g, e = .returned (.pointer (some ⟨g, 0, none⟩)) ∧ RowW w' g (remL 256) ∧ w.heap.size ≤ g) ∧ Kpt w w' := by
  have ZV := zero_rem w
  have R0 := Lib.hid (RowW.made w)
  have KW : Hid (Kpt w (w.alloc (.cells (Array.replicate 256 (Value.int .u32 0)) 54))) := (Kpt.refl w).alloc _
  go_enter Try.func20, Try.ntmps20
  go_wp2
  go_loopw [5] (fun i wr => ∃ k : Nat, k ≤ 256 ∧ i = .int .i64 k ∧ Hid (RowW wr w.heap.size (remL k)) ∧ Hid (Kpt w wr)) (fun i _ => 256 - (intOf i).toNat)
  case atStart => exact ⟨0, Nat.zero_le _, rfl, R0.out, KW.out⟩
  case round =>
    obtain ⟨k, hk, rfl, HR, HK⟩ := hrel
    clear ZV R0 KW
    by_cases hlt : k < 256
    · have k0 : (k : Int) < 256 := by omega
      have m0 : (k : Int) % 4294967296 = (k : Int) := Int.emod_eq_of_lt (by omega) (by omega)
      have f1 := HR.out.frozen k
      have c1 := HR.out.cell (j := k) (by rw [remL_len hk]; exact hlt)
      have RP := Lib.hid (HR.out.put k (rmd k))
      rw [remL_set hlt] at RP
      go_wp2
      go_loop [3, 10] (fun r j => ∃ n : Nat, n ≤ 8 ∧ j = .int .i64 n ∧ r = .int .u32 ((stps n k : Nat) : Int)) (fun _ j => 8 - (intOf j).toNat)
      case atStart => exact ⟨0, Nat.zero_le _, rfl, rfl⟩
      case round =>
        obtain ⟨n, hn, rfl, rfl⟩ := hrel
        by_cases hln : n < 8
        · have n0 : (n : Int) < 8 := by omega
          have hs := stps_lt n (r := k) (by omega)
          have hj := stp_is hs
          have hst : stp (stps n k) = stps (n + 1) k := rfl
          rw [hst] at hj
          clear hst
          generalize stps n k = r at hs hj ⊢
          generalize hq : stps (n + 1) k = q at hj
          go_wp2
          exact ⟨⟨n + 1, hln, by go_num, by rw [hq]⟩, by simp [intOf]; omega⟩
        · obtain rfl : n = 8 := by omega
          have h8 : stps 8 k = rmd k := rfl
          rw [h8]
          generalize rmd k = q at RP ⊢
          go_wp2
          go_roundw
          case rel => exact ⟨k + 1, by omega, by go_num, RP.out, HK.out.setCell (Nat.le_refl _) _⟩
          case measure => simp [intOf]; omega
    · obtain rfl : k = 256 := by omega
      go_wp2
      go_ret
      exact ⟨⟨_, rfl, HR.out, Nat.le_refl _⟩, HK.out⟩

end Go.Proofs.Ytljdffkelocfbaa
