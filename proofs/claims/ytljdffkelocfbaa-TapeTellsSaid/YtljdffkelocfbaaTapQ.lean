/-
  The reference's TapeSum: bit by bit.
-/
import Derived.Test.YtljdffkelocfbaaTapN
import Derived.Test.YtljdffkelocfbaaTapD
namespace Go.Proofs.Ytljdffkelocfbaa
open Go.RowKit
set_option linter.unusedVariables false

def bst (r x : Nat) : Nat := if x % 2 = r % 2 then r / 2 else (r / 2) ^^^ 3988292384
def bsts (r x : Nat) : Nat → Nat
  | 0 => r
  | k + 1 => bst (bsts r x k) (x / 2 ^ k)
theorem bst_lt {r x : Nat} (h : r < 4294967296) : bst r x < 4294967296 := by
  unfold bst
  split
  · omega
  · exact xor_lt32 (by omega) (by decide)
theorem bsts_lt {r x : Nat} (k : Nat) (h : r < 4294967296) : bsts r x k < 4294967296 := by
  induction k with
  | zero => exact h
  | succ k ih => exact bst_lt ih
theorem xlc (a b c : Nat) : a ^^^ (b ^^^ c) = b ^^^ (a ^^^ c) := by rw [← Nat.xor_assoc, Nat.xor_comm a b, Nat.xor_assoc]
theorem xss (a b : Nat) : a ^^^ (a ^^^ b) = b := by rw [← Nat.xor_assoc, Nat.xor_self, Nat.zero_xor]
theorem bst_xor (r x : Nat) : bst r x ^^^ (x / 2) = stp (r ^^^ x) := by
  rw [stp_xor]
  unfold bst stp
  have hr : r % 2 = 0 ∨ r % 2 = 1 := by omega
  have hx : x % 2 = 0 ∨ x % 2 = 1 := by omega
  rcases hr with hr | hr <;> rcases hx with hx | hx <;> rw [hr, hx]
  · simp
  · simp only [Nat.zero_mul, Nat.one_mul, Nat.xor_zero]; rw [if_neg (by decide), Nat.xor_assoc, Nat.xor_comm 3988292384]
  · simp
  · simp only [if_pos, Nat.one_mul]; rw [xor4, Nat.xor_self, Nat.xor_zero]
theorem bsts_xor (r x k : Nat) : bsts r x k ^^^ (x / 2 ^ k) = stps k (r ^^^ x) := by
  induction k with
  | zero => simp [bsts, stps]
  | succ k ih =>
    show bst (bsts r x k) (x / 2 ^ k) ^^^ (x / 2 ^ (k + 1)) = stp (stps k (r ^^^ x))
    rw [← ih, ← bst_xor, Nat.pow_succ, Nat.div_div_eq_div_mul]
theorem stp_even (m : Nat) : stp (2 * m) = m := by unfold stp; rw [Nat.mul_div_cancel_left _ (by decide), Nat.mul_mod_right]; simp
theorem stps_even (k m : Nat) : stps k (2 ^ k * m) = m := by
  induction k generalizing m with
  | zero => simp [stps]
  | succ k ih =>
    show stp (stps k (2 ^ (k + 1) * m)) = m
    rw [Nat.pow_succ, Nat.mul_assoc, ih, stp_even]
theorem low_xor {q m l : Nat} (h : l < 256) : (256 * q) ^^^ l = 256 * q + l := by
  have := Nat.two_pow_add_eq_or_of_lt (i := 8) (b := l) (by omega) q
  rw [show (2:Nat) ^ 8 = 256 by decide] at this
  rw [this]
  apply Nat.eq_of_testBit_eq
  intro i
  rw [Nat.testBit_xor, Nat.testBit_or]
  by_cases hi : i < 8
  · have : (256 * q).testBit i = false := by
      have := Nat.testBit_two_pow_mul (a := q) (i := 8) (j := i)
      rw [show (2:Nat) ^ 8 = 256 by decide] at this
      rw [this]; simp; omega
    rw [this]; simp
  · have : l.testBit i = false := Nat.testBit_lt_two_pow (Nat.lt_of_lt_of_le h (by have := Nat.pow_le_pow_right (n := 2) (by decide) (show 8 ≤ i by omega); simpa using this))
    rw [this]; simp
theorem bsts_crs {r x : Nat} (hx : x < 256) : bsts r x 8 = crs r x := by
  have h := bsts_xor r x 8
  rw [show x / 2 ^ 8 = 0 by rw [show (2:Nat) ^ 8 = 256 by decide]; omega, Nat.xor_zero] at h
  rw [h]
  have e : r = (256 * (r / 256)) ^^^ (r % 256) := by rw [low_xor (m := 0) (by omega)]; omega
  have h2 : r ^^^ x = (256 * (r / 256)) ^^^ ((r % 256) ^^^ x) := by
    conv => lhs; rw [e]
    rw [Nat.xor_assoc]
  rw [h2, stps_xor]
  unfold crs rmd
  rw [show stps 8 (256 * (r / 256)) = r / 256 from stps_even 8 (r / 256)]
set_option maxRecDepth 100000 in
set_option maxHeartbeats 1000000 in
theorem rsum_run (v : Value) (bs : List Nat) (w : World) (h : ReadsU w v bs) : Calls Try.prog 13 #[v] w fun e w' => e = .returned (.int .i64 ((crc bs : Nat) : Int)) ∧ w = w' := by
  have hb := h.isB
  have hlen := h.len
  obtain ⟨a, cap, rfl, hlc, hm, hn⟩ := h.form
  have H := Lib.hid h
  clear h
  go_enter Try.func13, Try.ntmps13
  go_wp2
  go_loopw [3, 4] (fun rr ii wr => ∃ k : Nat, k ≤ bs.length ∧ ii = .int .i64 (k : Int) ∧ rr = .int .i64 (((bs.take k).foldl crs 4294967295 : Nat) : Int) ∧ wr = w) (fun _ ii _ => bs.length - (intOf ii).toNat)
  case atStart => exact ⟨0, Nat.zero_le _, rfl, rfl, rfl⟩
  case round =>
    obtain ⟨k, hk, rfl, rfl, rfl⟩ := hrel
    by_cases hlt : k < bs.length
    · obtain ⟨b, off, rfl, cx⟩ := H.out.at_ hlt
      have hx : bs.getD k 0 < 256 := hb _ (getB_mem hlt)
      have hs : (bs.take k).foldl crs 4294967295 < 4294967296 := crc_st (fun x hx => hb x (List.mem_of_mem_take hx)) (by decide)
      have hf := fold_take hlt 4294967295
      have HF := Lib.hid hf
      have HB := Lib.hid (bsts_crs (r := (bs.take k).foldl crs 4294967295) hx)
      clear hf
      generalize bs.getD k 0 = x at *
      generalize (bs.take k).foldl crs 4294967295 = r at *
      have m1 : IntKind.i64.wrap ((k : Int) + 1) = (k : Int) + 1 := IntWalk.i64_in _ (by omega)
      have n0 : (0 : Int) ≤ (k : Int) := by omega
      have n1 : (k : Int) < (bs.length : Int) := by omega
      go_wp2
      go_loopw [3, 5, 6] (fun rr xx jj wr' => ∃ j : Nat, j ≤ 8 ∧ jj = .int .i64 (j : Int) ∧ xx = .int .i64 ((x / 2 ^ j : Nat) : Int) ∧ rr = .int .i64 ((bsts r x j : Nat) : Int) ∧ wr' = wr) (fun _ _ jj _ => 8 - (intOf jj).toNat)
      case atStart => exact ⟨0, Nat.zero_le _, rfl, by simp, rfl, rfl⟩
      case round =>
        obtain ⟨j, hj, rfl, rfl, rfl, rfl⟩ := hrel
        by_cases hj8 : j < 8
        · have hR := bsts_lt (x := x) j hs
          have hX : x / 2 ^ j < 256 := Nat.lt_of_le_of_lt (Nat.div_le_self _ _) hx
          have E1 : Hid (bsts r x (j + 1) = bst (bsts r x j) (x / 2 ^ j)) := rfl
          have E2 : Hid (x / 2 ^ (j + 1) = x / 2 ^ j / 2) := by unfold Hid; rw [Nat.pow_succ, Nat.div_div_eq_div_mul]
          generalize bsts r x j = R at *
          generalize x / 2 ^ j = X at *
          have t1 : Int.tmod (X : Int) 2 = ((X % 2 : Nat) : Int) := by rw [Int.tmod_eq_emod_of_nonneg (by omega)]; omega
          have t2 : Int.tmod (R : Int) 2 = ((R % 2 : Nat) : Int) := by rw [Int.tmod_eq_emod_of_nonneg (by omega)]; omega
          have t3 : Int.tdiv (X : Int) 2 = ((X / 2 : Nat) : Int) := by rw [Int.tdiv_eq_ediv_of_nonneg (by omega)]; omega
          have t4 : Int.tdiv (R : Int) 2 = ((R / 2 : Nat) : Int) := by rw [Int.tdiv_eq_ediv_of_nonneg (by omega)]; omega
          have x1 : bits .xor .i64 ((R / 2 : Nat) : Int) 3988292384 = ((R / 2 ^^^ 3988292384 : Nat) : Int) := i64_xor_nat (R / 2) 3988292384 (by omega) (by decide)
          have x2 : bits .xor .i64 ((R : Int) / 2) 3988292384 = ((R / 2 ^^^ 3988292384 : Nat) : Int) := by rw [← x1]; congr 1
          have m2 : IntKind.i64.wrap ((j : Int) + 1) = (j : Int) + 1 := IntWalk.i64_in _ (by omega)
          by_cases hb : X % 2 = R % 2
          · go_wp2
            exact ⟨⟨j + 1, by omega, rfl, by rw [E2.out]; push_cast; rfl, by rw [E1.out]; unfold bst; rw [if_pos hb]; push_cast; rfl, trivial⟩, by simp [intOf]; omega⟩
          · go_wp2
            exact ⟨⟨j + 1, by omega, rfl, by rw [E2.out]; push_cast; rfl, by rw [E1.out]; unfold bst; rw [if_neg hb], trivial⟩, by simp [intOf]; omega⟩
        · obtain rfl : j = 8 := by omega
          have e8 := HB.out.trans HF.out.symm
          generalize bsts r x 8 = R at *
          go_wp2
          exact ⟨⟨k + 1, by omega, rfl, by rw [e8], trivial⟩, by simp [intOf]; omega⟩
    · obtain rfl : k = bs.length := by omega
      have hq := crc_st hb (s := 4294967295) (by decide)
      have ec : crc bs = 4294967295 - bs.foldl crs 4294967295 := rfl
      have EC := Lib.hid ec
      clear ec
      generalize hq2 : bs.foldl crs 4294967295 = q at *
      rw [List.take_length, hq2]
      clear hq2
      have m1 : IntKind.i64.wrap (4294967295 - (q : Int)) = ((4294967295 - q : Nat) : Int) := by rw [IntWalk.i64_in _ (by omega)]; omega
      go_wp2
      go_ret
      refine ⟨?_, rfl⟩
      rw [EC.out]
      first | rfl | (congr 2; omega) | (show Ending.returned (.int .i64 _) = _; congr 2; omega)

end Go.Proofs.Ytljdffkelocfbaa
