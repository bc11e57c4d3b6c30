/-
  TapeSum: the law answers true.
-/
import Derived.Test.YtljdffkelocfbaaTapO
import Derived.Deep.Cut
namespace Go.Proofs.Ytljdffkelocfbaa
open Go.RowKit
set_option linter.unusedVariables false

theorem blkK {w w' : World} {g : Nat} {cs : Array Value} {T : TypeId} (h : Blk w g cs T) (k : Kpt w w') : Blk w' g cs T := Blk.below h k (Blk.lt h)
theorem tsm_no (a : Option Addr) (c : Nat) (t : List Nat) (k x y E S : Int) (w : World) (hE : E = if t.length ≤ 4000 then 0 else 2) (hS : S = if t.length ≤ 4000 then ((crc t : Nat) : Int) else 0) (hv : ReadsU w (.slice a t.length c) t) (h : E ≠ 0 ∨ (E = 0 ∧ (k < 0 ∨ (t.length : Int) ≤ k))) : Calls Try.prog 6 #[.slice a t.length c, .int .i64 k, .int .u8 x, .int .u8 y] w fun e w' => e = .returned (.bool true) ∧ Kpt w w' := by
  have SM := Lib.hid (fun w' (k : Kpt w w') => tsum_run _ t w' (hv.kpt k))
  rw [← hE, ← hS] at SM
  have hS0 : E ≠ 0 → S = 0 := by
    intro h; rw [hE] at h
    split at h
    · exact absurd rfl h
    · next h4 => rw [hS, if_neg h4]
  obtain ⟨W0, hW0⟩ : ∃ W0, W0 = (w.alloc (.cells #[.slice a t.length c] 22)).alloc (.cells #[.int .i64 k] 3) := ⟨_, rfl⟩
  have b1 : Blk W0 w.heap.size #[.slice a t.length c] 22 := by rw [hW0]; exact (Blk.made w _ _).alloc _
  have b2 : Blk W0 (w.heap.size + 1) #[.int .i64 k] 3 := by
    have := Blk.made (w.alloc (.cells #[.slice a t.length c] 22)) #[.int .i64 k] 3
    rw [World.size_alloc] at this
    rw [hW0]; exact this
  have K0 : Hid (Kpt w W0) := by rw [hW0]; exact ((Kpt.refl w).alloc _).alloc _
  have B1 := Lib.hid b1
  have B2 := Lib.hid b2
  have a1 : W0.cell? ⟨w.heap.size, 0, none⟩ = some (.slice a t.length c) := b1.cell 0
  have a2 : W0.cell? ⟨w.heap.size + 1, 0, none⟩ = some (.int .i64 k) := b2.cell 0
  have HW0 := Lib.hid hW0
  generalize t.length = n at *
  clear hv hE hS b1 b2 hW0
  rcases h with h | ⟨rfl, h⟩
  · have y1 : (E != 0) = true := bne_iff_ne.2 h
    have y2 : (E == 0) = false := beq_eq_false_iff_ne.2 h
    obtain rfl := hS0 h
    clear hS0 h
    go_enter Try.func6, Try.ntmps6
    go_upto_region 1 with fail
    rw [← HW0.out]
    go_wp2_with (first
      | (go_at_call 9; (with_reducible refine (SM.out _ K0.out).mono ?_); rintro e w1 ⟨rfl, k1⟩; have K1 := Lib.hid (ktr K0.out k1); have a1' : w1.cell? ⟨w.heap.size, 0, none⟩ = some (.slice a n c) := k1.cell a1; have a2' : w1.cell? ⟨w.heap.size + 1, 0, none⟩ = some (.int .i64 k) := k1.cell a2; clear k1)
      | (go_at_call 16; (with_reducible refine (tapeBegun _).mono ?_); rintro e w3 ⟨rfl, k1⟩; have K3 := Lib.hid (ktr K1.out k1); have a1'' : w3.cell? ⟨w.heap.size, 0, none⟩ = some (.slice a n c) := k1.cell a1'; have a2'' : w3.cell? ⟨w.heap.size + 1, 0, none⟩ = some (.int .i64 k) := k1.cell a2'; clear k1))
    go_ret
    exact ⟨rfl, K3.out⟩
  · clear hS0
    by_cases hk : k < 0
    · have y1 : decide (k < 0) = true := decide_eq_true hk
      go_enter Try.func6, Try.ntmps6
      go_upto_region 1 with fail
      rw [← HW0.out]
      go_wp2_with (first
        | (go_at_call 9; (with_reducible refine (SM.out _ K0.out).mono ?_); rintro e w1 ⟨rfl, k1⟩; have K1 := Lib.hid (ktr K0.out k1); have a1' : w1.cell? ⟨w.heap.size, 0, none⟩ = some (.slice a n c) := k1.cell a1; have a2' : w1.cell? ⟨w.heap.size + 1, 0, none⟩ = some (.int .i64 k) := k1.cell a2; clear k1)
        | (go_at_call 16; (with_reducible refine (tapeBegun _).mono ?_); rintro e w3 ⟨rfl, k1⟩; have K3 := Lib.hid (ktr K1.out k1); have a1'' : w3.cell? ⟨w.heap.size, 0, none⟩ = some (.slice a n c) := k1.cell a1'; have a2'' : w3.cell? ⟨w.heap.size + 1, 0, none⟩ = some (.int .i64 k) := k1.cell a2'; clear k1))
      go_ret
      exact ⟨rfl, K3.out⟩
    · have y1 : decide (k < 0) = false := decide_eq_false hk
      have y2 : decide ((n : Int) ≤ k) = true := decide_eq_true (by omega)
      go_enter Try.func6, Try.ntmps6
      go_upto_region 1 with fail
      rw [← HW0.out]
      go_wp2_with (first
        | (go_at_call 9; (with_reducible refine (SM.out _ K0.out).mono ?_); rintro e w1 ⟨rfl, k1⟩; have K1 := Lib.hid (ktr K0.out k1); have a1' : w1.cell? ⟨w.heap.size, 0, none⟩ = some (.slice a n c) := k1.cell a1; have a2' : w1.cell? ⟨w.heap.size + 1, 0, none⟩ = some (.int .i64 k) := k1.cell a2; clear k1)
        | (go_at_call 16; (with_reducible refine (tapeBegun _).mono ?_); rintro e w3 ⟨rfl, k1⟩; have K3 := Lib.hid (ktr K1.out k1); have a1'' : w3.cell? ⟨w.heap.size, 0, none⟩ = some (.slice a n c) := k1.cell a1'; have a2'' : w3.cell? ⟨w.heap.size + 1, 0, none⟩ = some (.int .i64 k) := k1.cell a2'; clear k1))
      go_ret
      exact ⟨rfl, K3.out⟩
set_option maxHeartbeats 1000000 in
theorem tsm_ok (a : Option Addr) (c : Nat) (t : List Nat) (j x y : Nat) (β : Bool) (w : World) (hv : ReadsU w (.slice a t.length c) t) (h4 : t.length ≤ 4000) (hj : j < t.length) (hx : x < 256) (hy : y < 256) (hβ : β = true ↔ x = 0) : Calls Try.prog 6 #[.slice a t.length c, .int .i64 (j : Int), .int .u8 (x : Int), .int .u8 (y : Int)] w fun e w' => e = .returned (.bool true) ∧ Kpt w w' := by
  have SM := Lib.hid (fun w' (k : Kpt w w') => tsum_run _ t w' (hv.kpt k))
  simp only [if_pos h4] at SM
  have hxy : x ^^^ y < 256 := xor_lt8 hx hy
  have C1 := Lib.hid (fun w' (k : Kpt w w') b1 b2 (B1 : Blk w' b1 #[.slice a t.length c] 22) (B2 : Blk w' b2 #[.int .i64 (j : Int)] 3) => chg_run _ t j x b1 b2 w' (hv.kpt k) h4 hj hx B1 B2)
  have C2 := Lib.hid (fun w' (k : Kpt w w') b1 b2 (B1 : Blk w' b1 #[.slice a t.length c] 22) (B2 : Blk w' b2 #[.int .i64 (j : Int)] 3) => chg_run _ t j y b1 b2 w' (hv.kpt k) h4 hj hy B1 B2)
  have C3 := Lib.hid (fun w' (k : Kpt w w') b1 b2 (B1 : Blk w' b1 #[.slice a t.length c] 22) (B2 : Blk w' b2 #[.int .i64 (j : Int)] 3) => chg_run _ t j (x ^^^ y) b1 b2 w' (hv.kpt k) h4 hj hxy B1 B2)
  have p0 := crc_lt t
  rw [crc_set hv.isB hj hx] at C1
  rw [crc_set hv.isB hj hy] at C2
  rw [crc_set hv.isB hj hxy] at C3
  have e1 := sums_eq (crc t) (t.length - j - 1) hx
  have e2 := sums_add (crc t) (t.length - j - 1) x y
  have d1 : crc t ^^^ dif (t.length - j - 1) x < 4294967296 := xor_lt32 p0 (dif_lt _ hx)
  have d2 : crc t ^^^ dif (t.length - j - 1) y < 4294967296 := xor_lt32 p0 (dif_lt _ hy)
  generalize crc t ^^^ dif (t.length - j - 1) x = p at *
  generalize crc t ^^^ dif (t.length - j - 1) y = q at *
  generalize crc t ^^^ dif (t.length - j - 1) (x ^^^ y) = r at *
  generalize crc t = s at *
  have X0 : bits .xor .u8 (x : Int) (y : Int) = ((x ^^^ y : Nat) : Int) := u8_xor_nat _ _ hx hy
  have X1 : bits .xor .i64 (s : Int) (p : Int) = ((s ^^^ p : Nat) : Int) := i64_xor_nat _ _ (by omega) (by omega)
  have d3 : s ^^^ p < 4294967296 := xor_lt32 p0 d1
  have X2 : bits .xor .i64 ((s ^^^ p : Nat) : Int) (q : Int) = (r : Int) := by rw [i64_xor_nat _ _ (by omega) (by omega), e2]
  generalize s ^^^ p = sp at *
  generalize x ^^^ y = xy at *
  have q1 : (p == s) = β := by rw [Bool.eq_iff_iff, beq_iff_eq, hβ]; exact e1
  have q2 : (x == 0) = β := by rw [Bool.eq_iff_iff, beq_iff_eq, hβ]
  have q3 : ((p : Int) == (s : Int)) = β := by rw [Bool.eq_iff_iff, beq_iff_eq, hβ, ← e1]; omega
  have q4 : ((x : Int) == 0) = β := by rw [Bool.eq_iff_iff, beq_iff_eq, hβ]; omega
  have y1 : decide ((t.length : Int) ≤ (j : Int)) = false := decide_eq_false (by omega)
  have y2 : decide (t.length ≤ j) = false := decide_eq_false (by omega)
  have y3 : decide ((j : Int) < 0) = false := decide_eq_false (by omega)
  obtain ⟨W0, hW0⟩ : ∃ W0, W0 = (w.alloc (.cells #[.slice a t.length c] 22)).alloc (.cells #[.int .i64 (j : Int)] 3) := ⟨_, rfl⟩
  have b1 : Blk W0 w.heap.size #[.slice a t.length c] 22 := by rw [hW0]; exact (Blk.made w _ _).alloc _
  have b2 : Blk W0 (w.heap.size + 1) #[.int .i64 (j : Int)] 3 := by
    have := Blk.made (w.alloc (.cells #[.slice a t.length c] 22)) #[.int .i64 (j : Int)] 3
    rw [World.size_alloc] at this
    rw [hW0]; exact this
  have K0 : Hid (Kpt w W0) := by rw [hW0]; exact ((Kpt.refl w).alloc _).alloc _
  have B1 := Lib.hid b1
  have B2 := Lib.hid b2
  have a1 : W0.cell? ⟨w.heap.size, 0, none⟩ = some (.slice a t.length c) := b1.cell 0
  have a2 : W0.cell? ⟨w.heap.size + 1, 0, none⟩ = some (.int .i64 (j : Int)) := b2.cell 0
  have HW0 := Lib.hid hW0
  generalize t.length = n at *
  clear hv hβ e1 e2 d1 d2 d3 p0 hx hy hxy hj h4 b1 b2 hW0
  cases β
  all_goals (
    go_enter Try.func6, Try.ntmps6
    go_upto_region 1 with fail
    rw [← HW0.out]
    go_wp2_with (first
      | (go_at_call 9; (with_reducible refine (SM.out _ K0.out).mono ?_); rintro e w1 ⟨rfl, k1⟩; have K1 := Lib.hid (ktr K0.out k1); have B11 := Lib.hid (blkK B1.out k1); have B21 := Lib.hid (blkK B2.out k1); have a1' : w1.cell? ⟨w.heap.size, 0, none⟩ = some (.slice a n c) := k1.cell a1; have a2' : w1.cell? ⟨w.heap.size + 1, 0, none⟩ = some (.int .i64 (j : Int)) := k1.cell a2; clear k1)
      | (go_at_call 16; (with_reducible refine (tapeBegun _).mono ?_); rintro e w3 ⟨rfl, k1⟩; have K3 := Lib.hid (ktr K1.out k1); have B13 := Lib.hid (blkK B11.out k1); have B23 := Lib.hid (blkK B21.out k1); have a1'' : w3.cell? ⟨w.heap.size, 0, none⟩ = some (.slice a n c) := k1.cell a1'; have a2'' : w3.cell? ⟨w.heap.size + 1, 0, none⟩ = some (.int .i64 (j : Int)) := k1.cell a2'; clear k1)
      | (go_at_call 19; (with_reducible refine (C1.out _ K3.out _ _ B13.out B23.out).mono ?_); rintro e w4 ⟨rfl, k1⟩; have K4 := Lib.hid (ktr K3.out k1); have B14 := Lib.hid (blkK B13.out k1); have B24 := Lib.hid (blkK B23.out k1); clear k1)
      | (go_at_call 19; (with_reducible refine (C2.out _ K4.out _ _ B14.out B24.out).mono ?_); rintro e w5 ⟨rfl, k1⟩; have K5 := Lib.hid (ktr K4.out k1); have B15 := Lib.hid (blkK B14.out k1); have B25 := Lib.hid (blkK B24.out k1); clear k1)
      | (go_at_call 19; (with_reducible refine (C3.out _ K5.out _ _ B15.out B25.out).mono ?_); rintro e w6 ⟨rfl, k1⟩; have K6 := Lib.hid (ktr K5.out k1); clear k1))
    go_ret
    exact ⟨rfl, K6.out⟩)
theorem tsm_plain (v : Value) (k x y : Int) (t : List Nat) (w : World) (hv : ReadsU w v t) (hx : 0 ≤ x ∧ x ≤ 255) (hy : 0 ≤ y ∧ y ≤ 255) : Calls Try.prog 6 #[v, .int .i64 k, .int .u8 x, .int .u8 y] w fun e w' => e = .returned (.bool true) ∧ Kpt w w' := by
  obtain ⟨a, c, rfl, -⟩ := hv.form
  by_cases h4 : t.length ≤ 4000
  · by_cases hk : 0 ≤ k ∧ k < t.length
    · obtain ⟨j, rfl⟩ : ∃ j : Nat, k = (j : Int) := ⟨k.toNat, by omega⟩
      obtain ⟨x', rfl⟩ : ∃ j : Nat, x = (j : Int) := ⟨x.toNat, by omega⟩
      obtain ⟨y', rfl⟩ : ∃ j : Nat, y = (j : Int) := ⟨y.toNat, by omega⟩
      exact tsm_ok a c t j x' y' (decide (x' = 0)) w hv h4 (by omega) (by omega) (by omega) (by simp)
    · exact tsm_no a c t k x y _ _ w rfl rfl hv (.inr ⟨if_pos h4, by omega⟩)
  · exact tsm_no a c t k x y _ _ w rfl rfl hv (.inl (by rw [if_neg h4]; decide))

end Go.Proofs.Ytljdffkelocfbaa
