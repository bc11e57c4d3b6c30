/-
  What sum of package tape does: the checksum.
-/
import Derived.Test.YtljdffkelocfbaaTapB
namespace Go.Proofs.Ytljdffkelocfbaa
open Go.RowKit
set_option linter.unusedVariables false

theorem crs_is {s z : Nat} (hs : s < 4294967296) (hz : z < 256) : bits .xor .u8 ((s : Int) % 256) (z : Int) = (((s % 256) ^^^ z : Nat) : Int) := by
  have e : (s : Int) % 256 = ((s % 256 : Nat) : Int) := by omega
  rw [e, u8_xor_nat _ _ (by omega) hz]
theorem crs_is2 {s r : Nat} (hs : s < 4294967296) (hr : r < 4294967296) : bits .xor .u32 ((s : Int) / 256) (r : Int) = (((s / 256) ^^^ r : Nat) : Int) := by
  have e : (s : Int) / 256 = ((s / 256 : Nat) : Int) := by omega
  rw [e, u32_xor_nat _ _ (by omega) hr]
theorem not_is {s : Nat} (hs : s < 4294967296) : bits .xor .u32 IntKind.u32.max (s : Int) = ((4294967295 - s : Nat) : Int) := by
  have e : IntKind.u32.max = ((4294967295 : Nat) : Int) := by decide
  rw [e, u32_xor_nat _ _ (by omega) hs]
  have h := congrArg BitVec.toNat (show BitVec.allOnes 32 ^^^ (BitVec.ofNat 32 s) = ~~~(BitVec.ofNat 32 s) from by ext i hi; simp only [BitVec.getElem_xor, BitVec.getElem_allOnes, BitVec.getElem_not, Bool.true_xor])
  rw [BitVec.toNat_xor, BitVec.toNat_not, BitVec.toNat_allOnes, BitVec.toNat_ofNat, Nat.mod_eq_of_lt (show s < 2 ^ 32 by omega)] at h
  rw [show (4294967295 : Nat) = 2 ^ 32 - 1 by decide, h]
set_option maxRecDepth 100000 in
set_option maxHeartbeats 1000000 in
theorem sum_run (g : Nat) (v : Value) (bs : List Nat) (w : World) (hR : RowW w g (remL 256)) (h : ReadsU w v bs) : Calls Try.prog 21 #[.pointer (some ⟨g, 0, none⟩), v] w fun e w' => e = .returned (.int .u32 ((crc bs : Nat) : Int)) ∧ w = w' := by
  have hb := h.isB
  obtain ⟨a, cap, rfl, hlc, hm, hn⟩ := h.form
  unfold maxLen at hm
  have H := Lib.hid h
  have HR := Lib.hid hR
  clear h hR
  go_enter Try.func21, Try.ntmps21
  go_wp2
  go_loop [5, 10] (fun n i => ∃ k : Nat, k ≤ bs.length ∧ i = .int .i64 (k : Int) ∧ n = .int .u32 (((bs.take k).foldl crs 4294967295 : Nat) : Int)) (fun _ i => bs.length - (intOf i).toNat)
  case atStart => exact ⟨0, Nat.zero_le _, rfl, rfl⟩
  case round =>
    obtain ⟨k, hk, rfl, rfl⟩ := hrel
    by_cases hlt : k < bs.length
    · obtain ⟨b, off, rfl, hc⟩ := H.out.at_ hlt
      have hz := hb _ (getB_mem hlt)
      have hs := crc_st (bs := bs.take k) (fun x hx => hb x (List.mem_of_mem_take hx)) (s := 4294967295) (by decide)
      have hst := fold_take hlt 4294967295
      generalize bs.getD k 0 = z at hc hz hst
      generalize (bs.take k).foldl crs 4294967295 = s at hs hst ⊢
      have hx : (s % 256) ^^^ z < 256 := xor_lt8 (by omega) hz
      have m1 := crs_is hs hz
      have hst' : crs s z = (s / 256) ^^^ rmd ((s % 256) ^^^ z) := rfl
      rw [hst'] at hst
      clear hst'
      generalize (s % 256) ^^^ z = x at hx m1 hst
      have m2 := crs_is2 hs (rmd_lt hx)
      have c1 := HR.out.cell (j := x) (by rw [remL_len (by omega)]; exact hx)
      rw [remL_at hx] at c1
      rw [← hst] at m2
      clear hst
      generalize rmd x = r at c1 m2
      have b0 : (0 : Int) ≤ (k : Int) := by omega
      have b1 : (k : Int) < (bs.length : Int) := by omega
      have x0 : (0 : Int) ≤ (x : Int) := by omega
      have x1 : (x : Int) < 256 := by omega
      go_wp2
      exact ⟨⟨k + 1, hlt, by go_num, rfl⟩, by simp [intOf]; omega⟩
    · obtain rfl : k = bs.length := by omega
      rw [List.take_length]
      have hs := crc_st hb (s := 4294967295) (by decide)
      have hcr : crc bs = 4294967295 - bs.foldl crs 4294967295 := rfl
      generalize bs.foldl crs 4294967295 = s at hs hcr ⊢
      go_wp2
      rw [not_is hs]
      go_ret
      exact ⟨rfl, rfl⟩

end Go.Proofs.Ytljdffkelocfbaa
