/-
  What Part of package money does: the quotient, rounded down, and the rest.
-/
import Derived.Test.YtgccipmeiceonaaPartWalk
namespace Go.Proofs.Ytgccipmeiceonaa
open Go.RowKit
set_option linter.unusedVariables false

theorem neg_div_zero {n c : Nat} (hc : 1 ≤ c) (h : n % c = 0) : (-(n : Int)) / (c : Int) = -((n / c : Nat) : Int) ∧ (-(n : Int)) % (c : Int) = 0 := by
  have e := Nat.div_add_mod n c
  refine (Int.ediv_emod_unique (by omega)).2 ⟨?_, Int.le_refl _, by omega⟩
  rw [h, Nat.add_zero] at e
  have e' : (c : Int) * ((n / c : Nat) : Int) = (n : Int) := by rw [← Int.natCast_mul, e]
  rw [Int.mul_neg, e']; omega
theorem neg_div_rest {n c : Nat} (hc : 1 ≤ c) (h : n % c ≠ 0) : (-(n : Int)) / (c : Int) = -((n / c : Nat) : Int) - 1 ∧ (-(n : Int)) % (c : Int) = (c : Int) - ((n % c : Nat) : Int) := by
  have e := Nat.div_add_mod n c
  have hm := Nat.mod_lt n (show 0 < c by omega)
  refine (Int.ediv_emod_unique (by omega)).2 ⟨?_, by omega, by omega⟩
  have e' : (c : Int) * ((n / c : Nat) : Int) = ((c * (n / c) : Nat) : Int) := (Int.natCast_mul _ _).symm
  rw [Int.mul_sub, Int.mul_neg, e', Int.mul_one]; omega

theorem negate_zero (q c : Nat) (hq : q ≤ 1152921504606846976) (w : World) :
    Calls Try.prog 100 #[.int .i64 q, .int .i64 0, .int .i64 c] w fun e w' => e = .returned (.tuple #[.int .i64 (-(q : Int)), .int .i64 0]) ∧ w = w' := by
  go_enter Try.func100, Try.ntmps100
  go_wp2
  go_ret2
  exact ⟨rfl, rfl⟩
theorem negate_rest (q r c : Nat) (hq : q ≤ 1152921504606846976) (hr : 1 ≤ r) (hr' : r < c) (hc : c ≤ 1099511627776) (w : World) :
    Calls Try.prog 100 #[.int .i64 q, .int .i64 r, .int .i64 c] w fun e w' => e = .returned (.tuple #[.int .i64 (-(q : Int) - 1), .int .i64 ((c : Int) - (r : Int))]) ∧ w = w' := by
  go_enter Try.func100, Try.ntmps100
  go_wp2
  go_ret2
  exact ⟨rfl, rfl⟩

set_option maxHeartbeats 400000 in
theorem part_pos_ok (a b c : Nat) (ha : a ≤ 1152921504606846976) (hb : b ≤ 1099511627776) (hc : 1 ≤ c) (hc' : c ≤ 1099511627776) (h : a * b / c ≤ 1152921504606846976) (w : World) :
    Calls Try.prog 49 #[.int .i64 a, .int .i64 b, .int .i64 c] w fun e w' => e = .returned (.tuple #[.int .i64 ((a * b / c : Nat) : Int), .int .i64 ((a * b % c : Nat) : Int), .int .i64 0]) ∧ Grew w w' := by
  have H := Lib.hid h; clear h
  have em : max (a : Int) (-(a : Int)) = (a : Int) := by omega
  obtain ⟨q, hq⟩ : ∃ q, q = a * b / c := ⟨_, rfl⟩
  obtain ⟨r, hr⟩ : ∃ r, r = a * b % c := ⟨_, rfl⟩
  have hq1 : q ≤ 1152921504606846976 := by rw [hq]; exact H.out
  rw [← hq, ← hr]
  have cd := divide_ok a b c ha hb hc hc' H.out
  rw [← hq, ← hr] at cd
  have CD := Lib.hid cd
  clear cd hq hr H
  go_enter Try.func49, Try.ntmps49
  go_wp2_with (first
    | (go_at_call 98; (with_reducible refine (checkAll1_ok _ _ _ (amt_mk (by omega) (by omega))).mono ?_); rintro e w' ⟨rfl, rfl⟩)
    | (go_at_call 99; (with_reducible refine (CD.out _).mono ?_); rintro e w' ⟨rfl, hg⟩)
    | (go_at_call 101; (with_reducible refine (asAmount_ok _ _ (amt_mk (by omega) (by omega))).mono ?_); rintro e w' ⟨rfl, hg2⟩))
  go_ret3
  exact ⟨rfl, gtr (gtr ((Grew.refl _).alloc _ _) hg) hg2⟩

set_option maxHeartbeats 400000 in
theorem part_pos_wide (a b c : Nat) (ha : a ≤ 1152921504606846976) (hb : b ≤ 1099511627776) (hc : 1 ≤ c) (hc' : c ≤ 1099511627776) (h : 1152921504606846976 < a * b / c) (w : World) :
    Calls Try.prog 49 #[.int .i64 a, .int .i64 b, .int .i64 c] w fun e w' => e = .returned (.tuple #[.int .i64 0, .int .i64 0, .int .i64 8]) ∧ Grew w w' := by
  have em : max (a : Int) (-(a : Int)) = (a : Int) := by omega
  have CD := Lib.hid (divide_no a b c ha hb hc hc' h)
  clear h
  go_enter Try.func49, Try.ntmps49
  go_wp2_with (first
    | (go_at_call 98; (with_reducible refine (checkAll1_ok _ _ _ (amt_mk (by omega) (by omega))).mono ?_); rintro e w' ⟨rfl, rfl⟩)
    | (go_at_call 99; (with_reducible refine (CD.out _).mono ?_); rintro e w' ⟨rfl, hg⟩))
  go_ret3
  exact ⟨rfl, gtr ((Grew.refl _).alloc _ _) hg⟩

set_option maxHeartbeats 400000 in
theorem part_neg_wide (a b c : Nat) (ha0 : 1 ≤ a) (ha : a ≤ 1152921504606846976) (hb : b ≤ 1099511627776) (hc : 1 ≤ c) (hc' : c ≤ 1099511627776) (h : 1152921504606846976 < a * b / c) (w : World) :
    Calls Try.prog 49 #[.int .i64 (-(a : Int)), .int .i64 b, .int .i64 c] w fun e w' => e = .returned (.tuple #[.int .i64 0, .int .i64 0, .int .i64 8]) ∧ Grew w w' := by
  have em : max (-(a : Int)) (a : Int) = (a : Int) := by omega
  have CD := Lib.hid (divide_no a b c ha hb hc hc' h)
  clear h
  go_enter Try.func49, Try.ntmps49
  go_wp2_with (first
    | (go_at_call 98; (with_reducible refine (checkAll1_ok _ _ _ (amt_mk (by omega) (by omega))).mono ?_); rintro e w' ⟨rfl, rfl⟩)
    | (go_at_call 99; (with_reducible refine (CD.out _).mono ?_); rintro e w' ⟨rfl, hg⟩))
  go_ret3
  exact ⟨rfl, gtr ((Grew.refl _).alloc _ _) hg⟩

set_option maxHeartbeats 400000 in
theorem part_neg_zero (a b c : Nat) (ha0 : 1 ≤ a) (ha : a ≤ 1152921504606846976) (hb : b ≤ 1099511627776) (hc : 1 ≤ c) (hc' : c ≤ 1099511627776) (h : a * b / c ≤ 1152921504606846976) (hz : a * b % c = 0) (w : World) :
    Calls Try.prog 49 #[.int .i64 (-(a : Int)), .int .i64 b, .int .i64 c] w fun e w' => e = .returned (.tuple #[.int .i64 (-((a * b / c : Nat) : Int)), .int .i64 0, .int .i64 0]) ∧ Grew w w' := by
  have em : max (-(a : Int)) (a : Int) = (a : Int) := by omega
  have cd := divide_ok a b c ha hb hc hc' h
  rw [hz] at cd
  obtain ⟨q, hq⟩ : ∃ q, q = a * b / c := ⟨_, rfl⟩
  have hq1 : q ≤ 1152921504606846976 := by rw [hq]; exact h
  rw [← hq] at cd ⊢
  have CD := Lib.hid cd
  clear cd hq h hz
  go_enter Try.func49, Try.ntmps49
  go_wp2_with (first
    | (go_at_call 98; (with_reducible refine (checkAll1_ok _ _ _ (amt_mk (by omega) (by omega))).mono ?_); rintro e w' ⟨rfl, rfl⟩)
    | (go_at_call 99; (with_reducible refine (CD.out _).mono ?_); rintro e w' ⟨rfl, hg⟩)
    | (go_at_call 100; (with_reducible refine (negate_zero q c hq1 _).mono ?_); rintro e w' ⟨rfl, rfl⟩)
    | (go_at_call 101; (with_reducible refine (asAmount_ok _ _ (amt_mk (by omega) (by omega))).mono ?_); rintro e w' ⟨rfl, hg2⟩))
  go_ret3
  exact ⟨rfl, gtr (gtr ((Grew.refl _).alloc _ _) hg) hg2⟩

set_option maxHeartbeats 400000 in
theorem part_neg_rest (a b c : Nat) (ha0 : 1 ≤ a) (ha : a ≤ 1152921504606846976) (hb : b ≤ 1099511627776) (hc : 1 ≤ c) (hc' : c ≤ 1099511627776) (h : a * b / c < 1152921504606846976) (hz : a * b % c ≠ 0) (w : World) :
    Calls Try.prog 49 #[.int .i64 (-(a : Int)), .int .i64 b, .int .i64 c] w fun e w' => e = .returned (.tuple #[.int .i64 (-((a * b / c : Nat) : Int) - 1), .int .i64 ((c : Int) - ((a * b % c : Nat) : Int)), .int .i64 0]) ∧ Grew w w' := by
  have em : max (-(a : Int)) (a : Int) = (a : Int) := by omega
  have cd := divide_ok a b c ha hb hc hc' (by omega)
  obtain ⟨q, hq⟩ : ∃ q, q = a * b / c := ⟨_, rfl⟩
  obtain ⟨r, hr⟩ : ∃ r, r = a * b % c := ⟨_, rfl⟩
  have hq1 : q < 1152921504606846976 := by rw [hq]; exact h
  have hr1 : 1 ≤ r := by omega
  have hr2 : r < c := by rw [hr]; exact Nat.mod_lt _ (by omega)
  rw [← hq, ← hr] at cd ⊢
  have CD := Lib.hid cd
  clear cd hq hr h hz
  go_enter Try.func49, Try.ntmps49
  go_wp2_with (first
    | (go_at_call 98; (with_reducible refine (checkAll1_ok _ _ _ (amt_mk (by omega) (by omega))).mono ?_); rintro e w' ⟨rfl, rfl⟩)
    | (go_at_call 99; (with_reducible refine (CD.out _).mono ?_); rintro e w' ⟨rfl, hg⟩)
    | (go_at_call 100; (with_reducible refine (negate_rest q r c (by omega) hr1 hr2 hc' _).mono ?_); rintro e w' ⟨rfl, rfl⟩)
    | (go_at_call 101; (with_reducible refine (asAmount_ok _ _ (amt_mk (by omega) (by omega))).mono ?_); rintro e w' ⟨rfl, hg2⟩))
  go_ret3
  exact ⟨rfl, gtr (gtr ((Grew.refl _).alloc _ _) hg) hg2⟩

set_option maxHeartbeats 400000 in
theorem part_neg_edge (a b c : Nat) (ha0 : 1 ≤ a) (ha : a ≤ 1152921504606846976) (hb : b ≤ 1099511627776) (hc : 1 ≤ c) (hc' : c ≤ 1099511627776) (h : a * b / c = 1152921504606846976) (hz : a * b % c ≠ 0) (w : World) :
    Calls Try.prog 49 #[.int .i64 (-(a : Int)), .int .i64 b, .int .i64 c] w fun e w' => e = .returned (.tuple #[.int .i64 0, .int .i64 0, .int .i64 8]) ∧ Grew w w' := by
  have em : max (-(a : Int)) (a : Int) = (a : Int) := by omega
  have cd := divide_ok a b c ha hb hc hc' (by omega)
  obtain ⟨q, hq⟩ : ∃ q, q = a * b / c := ⟨_, rfl⟩
  obtain ⟨r, hr⟩ : ∃ r, r = a * b % c := ⟨_, rfl⟩
  have hq1 : q ≤ 1152921504606846976 := by omega
  have hq2 : 1152921504606846976 ≤ q := by omega
  have hr1 : 1 ≤ r := by omega
  have hr2 : r < c := by rw [hr]; exact Nat.mod_lt _ (by omega)
  rw [← hq, ← hr] at cd
  have CD := Lib.hid cd
  clear cd hq hr h hz
  go_enter Try.func49, Try.ntmps49
  go_wp2_with (first
    | (go_at_call 98; (with_reducible refine (checkAll1_ok _ _ _ (amt_mk (by omega) (by omega))).mono ?_); rintro e w' ⟨rfl, rfl⟩)
    | (go_at_call 99; (with_reducible refine (CD.out _).mono ?_); rintro e w' ⟨rfl, hg⟩)
    | (go_at_call 100; (with_reducible refine (negate_rest q r c (by omega) hr1 hr2 hc' _).mono ?_); rintro e w' ⟨rfl, rfl⟩)
    | (go_at_call 101; (with_reducible refine (asAmount_no _ _ (amt_no (by omega))).mono ?_); rintro e w' ⟨rfl, hg2⟩))
  go_ret3
  exact ⟨rfl, gtr (gtr ((Grew.refl _).alloc _ _) hg) hg2⟩

/-- the limits of what an amount is multiplied with, and divided by -/
def rngB (b c : Int) : Bool := decide (0 ≤ b ∧ b ≤ 1099511627776 ∧ 1 ≤ c ∧ c ≤ 1099511627776)
theorem rng_t {b c : Int} (h : rngB b c = true) : 0 ≤ b ∧ b ≤ 1099511627776 ∧ 1 ≤ c ∧ c ≤ 1099511627776 := of_decide_eq_true h
theorem rng_f {b c : Int} (h : rngB b c = false) : ¬ (0 ≤ b ∧ b ≤ 1099511627776 ∧ 1 ≤ c ∧ c ≤ 1099511627776) := of_decide_eq_false h
theorem rng_mk {b c : Int} (h1 : 0 ≤ b) (h2 : b ≤ 1099511627776) (h3 : 1 ≤ c) (h4 : c ≤ 1099511627776) : rngB b c = true := decide_eq_true ⟨h1, h2, h3, h4⟩

theorem part_ok (a b c : Int) (ha : amtB a = true) (hr : rngB b c = true) (hq : amtB (a * b / c) = true) (w : World) :
    Calls Try.prog 49 #[.int .i64 a, .int .i64 b, .int .i64 c] w fun e w' => e = .returned (.tuple #[.int .i64 (a * b / c), .int .i64 (a * b % c), .int .i64 0]) ∧ Grew w w' := by
  obtain ⟨hb0, hb1, hc0, hc1⟩ := rng_t hr
  obtain ⟨ha0, ha1⟩ := amt_t ha
  obtain ⟨hq0, hq1⟩ := amt_t hq
  obtain ⟨b, rfl⟩ := Int.eq_ofNat_of_zero_le hb0
  obtain ⟨c, rfl⟩ := Int.eq_ofNat_of_zero_le (show 0 ≤ c by omega)
  by_cases h0 : 0 ≤ a
  · obtain ⟨a, rfl⟩ := Int.eq_ofNat_of_zero_le h0
    have e1 : (a : Int) * (b : Int) / (c : Int) = ((a * b / c : Nat) : Int) := by rw [Int.natCast_ediv, Int.natCast_mul]
    have e2 : (a : Int) * (b : Int) % (c : Int) = ((a * b % c : Nat) : Int) := by rw [Int.natCast_emod, Int.natCast_mul]
    rw [e1] at hq1
    rw [e1, e2]
    exact part_pos_ok a b c (by omega) (by omega) (by omega) (by omega) (by omega) w
  · obtain ⟨n, hn⟩ := Int.eq_ofNat_of_zero_le (show 0 ≤ -a by omega)
    obtain rfl : a = -(n : Int) := by omega
    have e0 : -(n : Int) * (b : Int) = -((n * b : Nat) : Int) := by rw [Int.neg_mul, Int.natCast_mul]
    rw [e0] at hq0 hq1 ⊢
    by_cases hz : n * b % c = 0
    · have z := neg_div_zero (n := n * b) (c := c) (by omega) hz
      rw [z.1] at hq0
      rw [z.1, z.2]
      exact part_neg_zero n b c (by omega) (by omega) (by omega) (by omega) (by omega) (by omega) hz w
    · have z := neg_div_rest (n := n * b) (c := c) (by omega) hz
      rw [z.1] at hq0
      rw [z.1, z.2]
      exact part_neg_rest n b c (by omega) (by omega) (by omega) (by omega) (by omega) (by omega) hz w

theorem wide_nat {q : Nat} (h : ¬ (-1152921504606846976 ≤ (q : Int) ∧ (q : Int) ≤ 1152921504606846976)) : 1152921504606846976 < q := by omega
theorem wide_neg {q : Nat} (h : ¬ (-1152921504606846976 ≤ -(q : Int) ∧ -(q : Int) ≤ 1152921504606846976)) : 1152921504606846976 < q := by omega
theorem wide_edge {q : Nat} (h : ¬ (-1152921504606846976 ≤ -(q : Int) - 1 ∧ -(q : Int) - 1 ≤ 1152921504606846976)) (hw : ¬ 1152921504606846976 < q) : q = 1152921504606846976 := by omega

theorem part_wide (a b c : Int) (ha : amtB a = true) (hr : rngB b c = true) (hq : amtB (a * b / c) = false) (w : World) :
    Calls Try.prog 49 #[.int .i64 a, .int .i64 b, .int .i64 c] w fun e w' => e = .returned (.tuple #[.int .i64 0, .int .i64 0, .int .i64 8]) ∧ Grew w w' := by
  obtain ⟨hb0, hb1, hc0, hc1⟩ := rng_t hr
  obtain ⟨ha0, ha1⟩ := amt_t ha
  have hq0 := amt_f hq
  obtain ⟨b, rfl⟩ := Int.eq_ofNat_of_zero_le hb0
  obtain ⟨c, rfl⟩ := Int.eq_ofNat_of_zero_le (show 0 ≤ c by omega)
  by_cases h0 : 0 ≤ a
  · obtain ⟨a, rfl⟩ := Int.eq_ofNat_of_zero_le h0
    have e1 : (a : Int) * (b : Int) / (c : Int) = ((a * b / c : Nat) : Int) := by rw [Int.natCast_ediv, Int.natCast_mul]
    rw [e1] at hq0
    exact part_pos_wide a b c (by omega) (by omega) (by omega) (by omega) (wide_nat hq0) w
  · obtain ⟨n, hn⟩ := Int.eq_ofNat_of_zero_le (show 0 ≤ -a by omega)
    obtain rfl : a = -(n : Int) := by omega
    have e0 : -(n : Int) * (b : Int) = -((n * b : Nat) : Int) := by rw [Int.neg_mul, Int.natCast_mul]
    rw [e0] at hq0
    by_cases hz : n * b % c = 0
    · have z := neg_div_zero (n := n * b) (c := c) (by omega) hz
      rw [z.1] at hq0
      exact part_neg_wide n b c (by omega) (by omega) (by omega) (by omega) (by omega) (wide_neg hq0) w
    · have z := neg_div_rest (n := n * b) (c := c) (by omega) hz
      rw [z.1] at hq0
      by_cases hw : 1152921504606846976 < n * b / c
      · exact part_neg_wide n b c (by omega) (by omega) (by omega) (by omega) (by omega) hw w
      · exact part_neg_edge n b c (by omega) (by omega) (by omega) (by omega) (by omega) (wide_edge hq0 hw) hz w

theorem part_no (a b c : Int) (ha : amtB a = false) (w : World) :
    Calls Try.prog 49 #[.int .i64 a, .int .i64 b, .int .i64 c] w fun e w' => e = .returned (.tuple #[.int .i64 0, .int .i64 0, .int .i64 3]) ∧ Grew w w' := by
  go_enter Try.func49, Try.ntmps49
  go_wp2_with (go_at_call 98; (with_reducible refine (checkAll1_no _ _ _ ha).mono ?_); rintro e w' ⟨rfl, rfl⟩)
  go_ret3
  exact ⟨rfl, (Grew.refl _).alloc _ _⟩

theorem part_rng (a b c : Int) (ha : amtB a = true) (hr : rngB b c = false) (w : World) :
    Calls Try.prog 49 #[.int .i64 a, .int .i64 b, .int .i64 c] w fun e w' => e = .returned (.tuple #[.int .i64 0, .int .i64 0, .int .i64 3]) ∧ Grew w w' := by
  have h := rng_f hr
  clear hr
  by_cases h1 : b < 0
  · go_enter Try.func49, Try.ntmps49
    go_wp2_with (go_at_call 98; (with_reducible refine (checkAll1_ok _ _ _ ha).mono ?_); rintro e w' ⟨rfl, rfl⟩)
    go_ret3
    exact ⟨rfl, (Grew.refl _).alloc _ _⟩
  · by_cases h2 : 1099511627776 < b
    · go_enter Try.func49, Try.ntmps49
      go_wp2_with (go_at_call 98; (with_reducible refine (checkAll1_ok _ _ _ ha).mono ?_); rintro e w' ⟨rfl, rfl⟩)
      go_ret3
      exact ⟨rfl, (Grew.refl _).alloc _ _⟩
    · by_cases h3 : c < 1
      · go_enter Try.func49, Try.ntmps49
        go_wp2_with (go_at_call 98; (with_reducible refine (checkAll1_ok _ _ _ ha).mono ?_); rintro e w' ⟨rfl, rfl⟩)
        go_ret3
        exact ⟨rfl, (Grew.refl _).alloc _ _⟩
      · have h4 : 1099511627776 < c := by omega
        go_enter Try.func49, Try.ntmps49
        go_wp2_with (go_at_call 98; (with_reducible refine (checkAll1_ok _ _ _ ha).mono ?_); rintro e w' ⟨rfl, rfl⟩)
        go_ret3
        exact ⟨rfl, (Grew.refl _).alloc _ _⟩

end Go.Proofs.Ytgccipmeiceonaa
