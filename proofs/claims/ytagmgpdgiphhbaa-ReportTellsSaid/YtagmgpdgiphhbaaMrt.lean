/-
  Merged: RefChk, RefPart, RefPart2, RefFail, RefFail2, RefFail3, QuietK, RefTop, IdsOk, LawRT.
-/
import Derived.Test.YtagmgpdgiphhbaaPartRes
import Derived.IntWalk
import Derived.Test.YtagmgpdgiphhbaaFailS
import Derived.Test.YtagmgpdgiphhbaaM8
import Derived.Deep.QuietTactic
import Derived.BigQuiet
import Derived.Test.YtagmgpdgiphhbaaKept
import Derived.Test.YtagmgpdgiphhbaaMb
import Derived.Test.YtagmgpdgiphhbaaSl
import Derived.Deep.Cut
import Derived.Test.YtagmgpdgiphhbaaFailE
-- RefChk
namespace Go.Proofs.Ytagmgpdgiphhbaa
open Go.RowKit
set_option linter.unusedVariables false

theorem between_t (n l h : Int) (w : World) (h1 : l ≤ n) (h2 : n ≤ h) :
    Calls Try.prog 30 #[.int .i64 n, .int .i64 l, .int .i64 h] w fun e w' => e = .returned (.bool true) ∧ w = w' := by
  go_enter Try.func30, Try.ntmps30
  go_wp2
  go_ret
  exact ⟨rfl, rfl⟩
theorem between_f (n l h : Int) (w : World) (h1 : n < l ∨ h < n) :
    Calls Try.prog 30 #[.int .i64 n, .int .i64 l, .int .i64 h] w fun e w' => e = .returned (.bool false) ∧ w = w' := by
  by_cases h2 : n < l
  · clear h1
    go_enter Try.func30, Try.ntmps30
    go_wp2
    go_ret
    exact ⟨rfl, rfl⟩
  · have h3 : decide (n ≤ h) = false := decide_eq_false (by omega)
    clear h1
    go_enter Try.func30, Try.ntmps30
    go_wp2
    go_ret
    exact ⟨rfl, rfl⟩
theorem wrapNat {x : Nat} (h : x ≤ 9223372036854775807) : wrap64 (x : Int) = (x : Int) := IntWalk.wrap64_in _ (by omega)
/-- one bit of the other factor more -/
theorem part_step {a b c m q r : Nat} (hc : 1 ≤ c) (hc' : c ≤ 70368744177664) (ha : a ≤ 1152921504606846976) (hq : q = a * (b / 2 ^ (m + 1)) / c) (hr : r = a * (b / 2 ^ (m + 1)) % c) :
    ∃ B x y d0 r0 d1 r1 : Nat, (b : Int) / 2 ^ m = (B : Int) ∧ (a : Int) / (c : Int) = (x : Int) ∧ (a : Int) % (c : Int) = (y : Int) ∧ 2 * (r : Int) / (c : Int) = (d0 : Int) ∧ 2 * (r : Int) % (c : Int) = (r0 : Int) ∧
      (2 * (r : Int) + (y : Int)) / (c : Int) = (d1 : Int) ∧ (2 * (r : Int) + (y : Int)) % (c : Int) = (r1 : Int) ∧ x ≤ a ∧ y < c ∧ d0 ≤ 2 ∧ d1 ≤ 3 ∧ r0 < c ∧ r1 < c ∧ r < c ∧ B = b / 2 ^ m ∧
      (B % 2 = 0 → 2 * q + d0 = a * B / c ∧ r0 = a * B % c) ∧ (B % 2 ≠ 0 → 2 * q + x + d1 = a * B / c ∧ r1 = a * B % c) := by
  have hcp : 0 < c := hc
  have hr' : r < c := by rw [hr]; exact Nat.mod_lt _ hcp
  have hy := Nat.mod_lt a hcp
  have hx := Nat.div_le_self a c
  have eB : b / 2 ^ (m + 1) = b / 2 ^ m / 2 := by rw [Nat.pow_succ, Nat.div_div_eq_div_mul]
  have eqr : c * q + r = a * (b / 2 ^ m / 2) := by rw [hq, hr, ← eB]; exact Nat.div_add_mod _ _
  have eax := Nat.div_add_mod a c
  have d0le : 2 * r / c ≤ 2 := Nat.le_of_lt_succ (Nat.div_lt_of_lt_mul (by omega))
  have d1le : (2 * r + a % c) / c ≤ 3 := Nat.le_of_lt_succ (Nat.div_lt_of_lt_mul (by omega))
  have e0 := Nat.div_add_mod (2 * r) c
  have e1 := Nat.div_add_mod (2 * r + a % c) c
  refine ⟨b / 2 ^ m, a / c, a % c, 2 * r / c, 2 * r % c, (2 * r + a % c) / c, (2 * r + a % c) % c, ?_, ?_, ?_, ?_, ?_, ?_, ?_, hx, hy, d0le, d1le, Nat.mod_lt _ hcp, Nat.mod_lt _ hcp, hr', rfl, ?_, ?_⟩
  · rw [Int.natCast_ediv, cast_pow]
  · exact (Int.natCast_ediv a c).symm
  · exact (Int.natCast_emod a c).symm
  · have : 2 * (r : Int) / (c : Int) = ((2 * r / c : Nat) : Int) := by rw [Int.natCast_ediv, Int.natCast_mul]; rfl
    exact this
  · rw [Int.natCast_emod, Int.natCast_mul]; rfl
  · have : (2 * (r : Int) + ((a % c : Nat) : Int)) / (c : Int) = (((2 * r + a % c) / c : Nat) : Int) := by rw [Int.natCast_ediv, Int.natCast_add, Int.natCast_mul]; rfl
    exact this
  · exact (by rw [Int.natCast_emod (2 * r + a % c) c, Int.natCast_add, Int.natCast_mul]; rfl : (2 * (r : Int) + ((a % c : Nat) : Int)) % (c : Int) = (((2 * r + a % c) % c : Nat) : Int))
  · intro hB
    have h2 : b / 2 ^ m = 2 * (b / 2 ^ m / 2) := by omega
    have h3 : a * (b / 2 ^ m) = c * (2 * q + 2 * r / c) + 2 * r % c := by
      rw [h2, Nat.mul_left_comm, ← eqr, Nat.mul_add c, Nat.mul_left_comm c 2 q]; omega
    rw [h3]
    exact ⟨by rw [Nat.mul_add_div hcp, Nat.div_eq_of_lt (Nat.mod_lt _ hcp), Nat.add_zero], by rw [Nat.mul_add_mod, Nat.mod_mod]⟩
  · intro hB
    have h2 : b / 2 ^ m = 2 * (b / 2 ^ m / 2) + 1 := by omega
    have h3 : a * (b / 2 ^ m) = c * (2 * q + a / c + (2 * r + a % c) / c) + (2 * r + a % c) % c := by
      rw [h2, Nat.mul_add a, Nat.mul_one, Nat.mul_left_comm, ← eqr, Nat.mul_add c, Nat.mul_add c, Nat.mul_left_comm c 2 q]; omega
    rw [h3]
    exact ⟨by rw [Nat.mul_add_div hcp, Nat.div_eq_of_lt (Nat.mod_lt _ hcp), Nat.add_zero], by rw [Nat.mul_add_mod, Nat.mod_mod]⟩

end Go.Proofs.Ytagmgpdgiphhbaa

-- RefPart
namespace Go.Proofs.Ytagmgpdgiphhbaa
open Go.RowKit
set_option linter.unusedVariables false

/-- what partOf answers -/
def PartOfIs (a b c : Nat) (q r : Int) : Prop := (a * b / c ≤ 2305843009213693952 ∧ q = ((a * b / c : Nat) : Int) ∧ r = ((a * b % c : Nat) : Int)) ∨ (2305843009213693952 < a * b / c ∧ q = -1 ∧ r = 0)
def SomePart (a b c : Nat) (w : World) (e : Ending) (w' : World) : Prop := (∃ q r : Int, e = .returned (.tuple #[.int .i64 q, .int .i64 r]) ∧ PartOfIs a b c q r) ∧ w = w'
theorem part_grows {a b c m : Nat} : a * (b / 2 ^ m) / c ≤ a * b / c := Nat.div_le_div_right (Nat.mul_le_mul_left a (Nat.div_le_self b _))

set_option maxHeartbeats 1000000 in
theorem partOf_any (a b c : Nat) (ha : a ≤ 1152921504606846976) (hb : b ≤ 1099511627776) (hc : 1 ≤ c) (hc' : c ≤ 70368744177664) (w : World) :
    Calls Try.prog 61 #[.int .i64 a, .int .i64 b, .int .i64 c] w (SomePart a b c w) := by
  go_enter Try.func61, Try.ntmps61
  go_wp2
  go_loop [8, 9, 10] (fun s t i => ∃ k q r : Nat, k ≤ 41 ∧ i = .int .i64 ((k : Int) - 1) ∧ s = .int .i64 q ∧ t = .int .i64 r ∧ q ≤ 2305843009213693952 ∧ Hid (q = a * (b / 2 ^ k) / c) ∧ Hid (r = a * (b / 2 ^ k) % c)) (fun _ _ i => (intOf i + 1).toNat)
  case atStart =>
    have h41 : b / 2 ^ 41 = 0 := Nat.div_eq_of_lt (by omega)
    exact ⟨41, 0, 0, by omega, rfl, rfl, rfl, by omega, by unfold Hid; rw [h41]; simp, by unfold Hid; rw [h41]; simp⟩
  case round =>
    obtain ⟨k, q, r, hk, rfl, rfl, rfl, hq, HQ, HR⟩ := hrel
    by_cases h0 : 0 < k
    · obtain ⟨m, rfl⟩ : ∃ m, k = m + 1 := ⟨k - 1, by omega⟩
      have em : ((m + 1 : Nat) : Int) - 1 = (m : Int) := by omega
      obtain ⟨B, x, y, d0, r0, d1, r1, e1, e2, e3, e4, e5, e6, e7, hx, hy, hd0, hd1, hr0, hr1, hr, hB, hs0, hs1⟩ := part_step hc hc' ha HQ.out HR.out
      have HB := Lib.hid hB
      clear hB HQ HR
      rcases dec_of (B % 2 = 0) with ⟨-, hb2⟩ | ⟨-, hb2⟩
      · have HS := Lib.hid (hs1 hb2)
        have t1 : ((B : Int) % 2 == 1) = true := by simp; omega
        clear hs0 hs1 hb2
        rcases dec_of (2305843009213693952 < 2 * (q : Int) + (x : Int) + (d1 : Int)) with ⟨hdd, hd⟩ | ⟨hdd, hd⟩
        · go_wp2
          go_round
          case rel => exact ⟨m, 2 * q + x + d1, r1, by omega, rfl, by go_num, by rw [e7], by omega, by unfold Hid; rw [HS.out.1, HB.out], by unfold Hid; rw [HS.out.2, HB.out]⟩
          case measure => simp [intOf]
        · have HG : Hid (2305843009213693952 < a * b / c) := (by
            have h1 := HS.out.1
            have h2 := part_grows (a := a) (b := b) (c := c) (m := m)
            rw [← HB.out, ← h1] at h2
            omega : 2305843009213693952 < a * b / c)
          go_wp2
          go_ret2
          exact ⟨⟨-1, 0, rfl, .inr ⟨HG.out, rfl, rfl⟩⟩, rfl⟩
      · have HS := Lib.hid (hs0 hb2)
        have t1 : ((B : Int) % 2 == 1) = false := by simp; omega
        clear hs0 hs1 hb2
        rcases dec_of (2305843009213693952 < 2 * (q : Int) + (d0 : Int)) with ⟨hdd, hd⟩ | ⟨hdd, hd⟩
        · go_wp2
          go_round
          case rel => exact ⟨m, 2 * q + d0, r0, by omega, rfl, by go_num, by rw [e5], by omega, by unfold Hid; rw [HS.out.1, HB.out], by unfold Hid; rw [HS.out.2, HB.out]⟩
          case measure => simp [intOf]
        · have HG : Hid (2305843009213693952 < a * b / c) := (by
            have h1 := HS.out.1
            have h2 := part_grows (a := a) (b := b) (c := c) (m := m)
            rw [← HB.out, ← h1] at h2
            omega : 2305843009213693952 < a * b / c)
          go_wp2
          go_ret2
          exact ⟨⟨-1, 0, rfl, .inr ⟨HG.out, rfl, rfl⟩⟩, rfl⟩
    · obtain rfl : k = 0 := by omega
      have h1 := HQ.out
      have h2 := HR.out
      rw [Nat.pow_zero, Nat.div_one] at h1 h2
      have H1 := Lib.hid h1
      have H2 := Lib.hid h2
      clear h1 h2 HQ HR
      go_wp2
      go_ret2
      exact ⟨⟨q, r, rfl, .inl ⟨by rw [← H1.out]; exact hq, by rw [← H1.out], by rw [← H2.out]⟩⟩, rfl⟩

end Go.Proofs.Ytagmgpdgiphhbaa

-- RefPart2
namespace Go.Proofs.Ytagmgpdgiphhbaa
open Go.RowKit
set_option linter.unusedVariables false

theorem partOf_ok (a b c q r : Nat) (hq : q = a * b / c) (hr : r = a * b % c) (ha : a ≤ 1152921504606846976) (hb : b ≤ 1099511627776) (hc : 1 ≤ c) (hc' : c ≤ 70368744177664) (h : q ≤ 2305843009213693952) (w : World) :
    Calls Try.prog 61 #[.int .i64 a, .int .i64 b, .int .i64 c] w fun e w' => e = .returned (.tuple #[.int .i64 q, .int .i64 r]) ∧ w = w' := by
  refine (partOf_any a b c ha hb hc hc' w).mono ?_
  rintro e w' ⟨⟨q', r', rfl, h'⟩, rfl⟩
  rcases h' with ⟨_, h1, h2⟩ | ⟨h1, _⟩
  · exact ⟨by rw [h1, h2, ← hq, ← hr], rfl⟩
  · rw [← hq] at h1; omega
theorem partOf_no (a b c : Nat) (ha : a ≤ 1152921504606846976) (hb : b ≤ 1099511627776) (hc : 1 ≤ c) (hc' : c ≤ 70368744177664) (h : 2305843009213693952 < a * b / c) (w : World) :
    Calls Try.prog 61 #[.int .i64 a, .int .i64 b, .int .i64 c] w fun e w' => e = .returned (.tuple #[.int .i64 (-1), .int .i64 0]) ∧ w = w' := by
  refine (partOf_any a b c ha hb hc hc' w).mono ?_
  rintro e w' ⟨⟨q', r', rfl, h'⟩, rfl⟩
  rcases h' with ⟨h1, _⟩ | ⟨_, h1, h2⟩
  · omega
  · exact ⟨by rw [h1, h2], rfl⟩

theorem far_amt {q : Nat} (h : 2305843009213693952 < q) : amtB (q : Int) = false ∧ amtB (-(q : Int)) = false ∧ amtB (-(q : Int) - 1) = false := ⟨amt_no (by omega), amt_no (by omega), amt_no (by omega)⟩

end Go.Proofs.Ytagmgpdgiphhbaa

-- RefFail
namespace Go.Proofs.Ytagmgpdgiphhbaa
open Go.RowKit
set_option linter.unusedVariables false

theorem rbt_any (n l h : Int) (B : Bool) (hB : btw l h n = B) (w : World) :
    Calls Try.prog 30 #[.int .i64 n, .int .i64 l, .int .i64 h] w fun e w' => e = .returned (.bool B) ∧ w = w' := by
  cases B with
  | true =>
    obtain ⟨h1, h2⟩ := btw_t hB
    clear hB
    go_enter Try.func30, Try.ntmps30
    go_wp2
    go_ret
    exact ⟨rfl, rfl⟩
  | false =>
    have hB := btw_f hB
    by_cases h2 : n < l
    · clear hB
      go_enter Try.func30, Try.ntmps30
      go_wp2
      go_ret
      exact ⟨rfl, rfl⟩
    · have h3 : decide (n ≤ h) = false := decide_eq_false (by omega)
      have h4 : decide (l ≤ n) = true := decide_eq_true (by omega)
      have h5 : ¬ n ≤ h := by omega
      have h6 : l ≤ n := by omega
      clear hB h2
      go_enter Try.func30, Try.ntmps30
      go_wp2
      go_ret
      exact ⟨rfl, rfl⟩
theorem rfo_run (i f t c p d u x b y : Int) (w : World) (hu : 1 ≤ u ∧ u ≤ 1073741824) (hx : 0 ≤ x ∧ x ≤ u) (hb : 0 ≤ b ∧ b ≤ u) (hy : 0 ≤ y ∧ y ≤ u) :
    Calls Try.prog 10 #[.agg #[.int .i64 i, .int .i64 f, .int .i64 t, .int .i64 c, .int .i64 p, .int .i64 d, .int .i64 u, .int .i64 x, .int .i64 b, .int .i64 y]] w fun e w' => e = .returned (.int .i64 (u - x - b - y)) ∧ Kpt w w' := by
  go_enter Try.func10, Try.ntmps10
  go_wp2
  go_ret
  exact ⟨ret_int (by omega), (Kpt.refl w).alloc _⟩

set_option maxHeartbeats 2000000 in
theorem rfc_0 (i f t c p d u x b y : Int) (Y0 : btw 1 1099511627776 i = false) (w : World) :
    Calls Try.prog 32 #[.agg #[.int .i64 i, .int .i64 f, .int .i64 t, .int .i64 c, .int .i64 p, .int .i64 d, .int .i64 u, .int .i64 x, .int .i64 b, .int .i64 y]] w fun e w' => e = .returned (.int .i64 3) ∧ Kpt w w' := by
  go_enter Try.func32, Try.ntmps32
  go_wp2_with (first
    | (go_at_call 30; (with_reducible refine (rbt_any _ _ _ _ Y0 _).mono ?_); rintro e w9 ⟨rfl, rfl⟩))
  go_ret
  exact ⟨rfl, ((Kpt.refl w).alloc _)⟩

set_option maxHeartbeats 2000000 in
theorem rfc_1 (i f t c p d u x b y : Int) (Y0 : btw 1 1099511627776 i = true) (Y1 : btw 0 30 f = false) (w : World) :
    Calls Try.prog 32 #[.agg #[.int .i64 i, .int .i64 f, .int .i64 t, .int .i64 c, .int .i64 p, .int .i64 d, .int .i64 u, .int .i64 x, .int .i64 b, .int .i64 y]] w fun e w' => e = .returned (.int .i64 3) ∧ Kpt w w' := by
  go_enter Try.func32, Try.ntmps32
  go_wp2_with (first
    | (go_at_call 30; (with_reducible refine (rbt_any _ _ _ _ Y0 _).mono ?_); rintro e w9 ⟨rfl, rfl⟩)
    | (go_at_call 30; (with_reducible refine (rbt_any _ _ _ _ Y1 _).mono ?_); rintro e w9 ⟨rfl, rfl⟩))
  go_ret
  exact ⟨rfl, ((Kpt.refl w).alloc _)⟩

set_option maxHeartbeats 2000000 in
theorem rfc_2 (i f t c p d u x b y : Int) (Y0 : btw 1 1099511627776 i = true) (Y1 : btw 0 30 f = true) (Y2 : btw 0 30 t = false) (w : World) :
    Calls Try.prog 32 #[.agg #[.int .i64 i, .int .i64 f, .int .i64 t, .int .i64 c, .int .i64 p, .int .i64 d, .int .i64 u, .int .i64 x, .int .i64 b, .int .i64 y]] w fun e w' => e = .returned (.int .i64 3) ∧ Kpt w w' := by
  go_enter Try.func32, Try.ntmps32
  go_wp2_with (first
    | (go_at_call 30; (with_reducible refine (rbt_any _ _ _ _ Y0 _).mono ?_); rintro e w9 ⟨rfl, rfl⟩)
    | (go_at_call 30; (with_reducible refine (rbt_any _ _ _ _ Y1 _).mono ?_); rintro e w9 ⟨rfl, rfl⟩)
    | (go_at_call 30; (with_reducible refine (rbt_any _ _ _ _ Y2 _).mono ?_); rintro e w9 ⟨rfl, rfl⟩))
  go_ret
  exact ⟨rfl, ((Kpt.refl w).alloc _)⟩

set_option maxHeartbeats 2000000 in
theorem rfc_3 (i f t c p d u x b y : Int) (Y0 : btw 1 1099511627776 i = true) (Y1 : btw 0 30 f = true) (Y2 : btw 0 30 t = true) (Y3 : btw 0 5 c = false) (w : World) :
    Calls Try.prog 32 #[.agg #[.int .i64 i, .int .i64 f, .int .i64 t, .int .i64 c, .int .i64 p, .int .i64 d, .int .i64 u, .int .i64 x, .int .i64 b, .int .i64 y]] w fun e w' => e = .returned (.int .i64 3) ∧ Kpt w w' := by
  go_enter Try.func32, Try.ntmps32
  go_wp2_with (first
    | (go_at_call 30; (with_reducible refine (rbt_any _ _ _ _ Y0 _).mono ?_); rintro e w9 ⟨rfl, rfl⟩)
    | (go_at_call 30; (with_reducible refine (rbt_any _ _ _ _ Y1 _).mono ?_); rintro e w9 ⟨rfl, rfl⟩)
    | (go_at_call 30; (with_reducible refine (rbt_any _ _ _ _ Y2 _).mono ?_); rintro e w9 ⟨rfl, rfl⟩)
    | (go_at_call 30; (with_reducible refine (rbt_any _ _ _ _ Y3 _).mono ?_); rintro e w9 ⟨rfl, rfl⟩))
  go_ret
  exact ⟨rfl, ((Kpt.refl w).alloc _)⟩

set_option maxHeartbeats 2000000 in
theorem rfc_4 (i f t c p d u x b y : Int) (Y0 : btw 1 1099511627776 i = true) (Y1 : btw 0 30 f = true) (Y2 : btw 0 30 t = true) (Y3 : btw 0 5 c = true) (Y4 : btw 1 20 p = false) (w : World) :
    Calls Try.prog 32 #[.agg #[.int .i64 i, .int .i64 f, .int .i64 t, .int .i64 c, .int .i64 p, .int .i64 d, .int .i64 u, .int .i64 x, .int .i64 b, .int .i64 y]] w fun e w' => e = .returned (.int .i64 3) ∧ Kpt w w' := by
  go_enter Try.func32, Try.ntmps32
  go_wp2_with (first
    | (go_at_call 30; (with_reducible refine (rbt_any _ _ _ _ Y0 _).mono ?_); rintro e w9 ⟨rfl, rfl⟩)
    | (go_at_call 30; (with_reducible refine (rbt_any _ _ _ _ Y1 _).mono ?_); rintro e w9 ⟨rfl, rfl⟩)
    | (go_at_call 30; (with_reducible refine (rbt_any _ _ _ _ Y2 _).mono ?_); rintro e w9 ⟨rfl, rfl⟩)
    | (go_at_call 30; (with_reducible refine (rbt_any _ _ _ _ Y3 _).mono ?_); rintro e w9 ⟨rfl, rfl⟩)
    | (go_at_call 30; (with_reducible refine (rbt_any _ _ _ _ Y4 _).mono ?_); rintro e w9 ⟨rfl, rfl⟩))
  go_ret
  exact ⟨rfl, ((Kpt.refl w).alloc _)⟩

set_option maxHeartbeats 2000000 in
theorem rfc_5 (i f t c p d u x b y : Int) (Y0 : btw 1 1099511627776 i = true) (Y1 : btw 0 30 f = true) (Y2 : btw 0 30 t = true) (Y3 : btw 0 5 c = true) (Y4 : btw 1 20 p = true) (Y5 : btw 0 3652058 d = false) (w : World) :
    Calls Try.prog 32 #[.agg #[.int .i64 i, .int .i64 f, .int .i64 t, .int .i64 c, .int .i64 p, .int .i64 d, .int .i64 u, .int .i64 x, .int .i64 b, .int .i64 y]] w fun e w' => e = .returned (.int .i64 3) ∧ Kpt w w' := by
  go_enter Try.func32, Try.ntmps32
  go_wp2_with (first
    | (go_at_call 30; (with_reducible refine (rbt_any _ _ _ _ Y0 _).mono ?_); rintro e w9 ⟨rfl, rfl⟩)
    | (go_at_call 30; (with_reducible refine (rbt_any _ _ _ _ Y1 _).mono ?_); rintro e w9 ⟨rfl, rfl⟩)
    | (go_at_call 30; (with_reducible refine (rbt_any _ _ _ _ Y2 _).mono ?_); rintro e w9 ⟨rfl, rfl⟩)
    | (go_at_call 30; (with_reducible refine (rbt_any _ _ _ _ Y3 _).mono ?_); rintro e w9 ⟨rfl, rfl⟩)
    | (go_at_call 30; (with_reducible refine (rbt_any _ _ _ _ Y4 _).mono ?_); rintro e w9 ⟨rfl, rfl⟩)
    | (go_at_call 30; (with_reducible refine (rbt_any _ _ _ _ Y5 _).mono ?_); rintro e w9 ⟨rfl, rfl⟩))
  go_ret
  exact ⟨rfl, ((Kpt.refl w).alloc _)⟩

set_option maxHeartbeats 2000000 in
theorem rfc_6 (i f t c p d u x b y : Int) (Y0 : btw 1 1099511627776 i = true) (Y1 : btw 0 30 f = true) (Y2 : btw 0 30 t = true) (Y3 : btw 0 5 c = true) (Y4 : btw 1 20 p = true) (Y5 : btw 0 3652058 d = true) (Y6 : btw 1 1073741824 u = false) (w : World) :
    Calls Try.prog 32 #[.agg #[.int .i64 i, .int .i64 f, .int .i64 t, .int .i64 c, .int .i64 p, .int .i64 d, .int .i64 u, .int .i64 x, .int .i64 b, .int .i64 y]] w fun e w' => e = .returned (.int .i64 3) ∧ Kpt w w' := by
  go_enter Try.func32, Try.ntmps32
  go_wp2_with (first
    | (go_at_call 30; (with_reducible refine (rbt_any _ _ _ _ Y0 _).mono ?_); rintro e w9 ⟨rfl, rfl⟩)
    | (go_at_call 30; (with_reducible refine (rbt_any _ _ _ _ Y1 _).mono ?_); rintro e w9 ⟨rfl, rfl⟩)
    | (go_at_call 30; (with_reducible refine (rbt_any _ _ _ _ Y2 _).mono ?_); rintro e w9 ⟨rfl, rfl⟩)
    | (go_at_call 30; (with_reducible refine (rbt_any _ _ _ _ Y3 _).mono ?_); rintro e w9 ⟨rfl, rfl⟩)
    | (go_at_call 30; (with_reducible refine (rbt_any _ _ _ _ Y4 _).mono ?_); rintro e w9 ⟨rfl, rfl⟩)
    | (go_at_call 30; (with_reducible refine (rbt_any _ _ _ _ Y5 _).mono ?_); rintro e w9 ⟨rfl, rfl⟩)
    | (go_at_call 30; (with_reducible refine (rbt_any _ _ _ _ Y6 _).mono ?_); rintro e w9 ⟨rfl, rfl⟩))
  go_ret
  exact ⟨rfl, ((Kpt.refl w).alloc _)⟩

set_option maxHeartbeats 2000000 in
theorem rfc_eq (i f t c p d u x b y : Int) (Y0 : btw 1 1099511627776 i = true) (Y1 : btw 0 30 f = true) (Y2 : btw 0 30 t = true) (Y3 : btw 0 5 c = true) (Y4 : btw 1 20 p = true) (Y5 : btw 0 3652058 d = true) (Y6 : btw 1 1073741824 u = true) (h : (f == t) = true) (w : World) :
    Calls Try.prog 32 #[.agg #[.int .i64 i, .int .i64 f, .int .i64 t, .int .i64 c, .int .i64 p, .int .i64 d, .int .i64 u, .int .i64 x, .int .i64 b, .int .i64 y]] w fun e w' => e = .returned (.int .i64 1) ∧ Kpt w w' := by
  go_enter Try.func32, Try.ntmps32
  go_wp2_with (first
    | (go_at_call 30; (with_reducible refine (rbt_any _ _ _ _ Y0 _).mono ?_); rintro e w9 ⟨rfl, rfl⟩)
    | (go_at_call 30; (with_reducible refine (rbt_any _ _ _ _ Y1 _).mono ?_); rintro e w9 ⟨rfl, rfl⟩)
    | (go_at_call 30; (with_reducible refine (rbt_any _ _ _ _ Y2 _).mono ?_); rintro e w9 ⟨rfl, rfl⟩)
    | (go_at_call 30; (with_reducible refine (rbt_any _ _ _ _ Y3 _).mono ?_); rintro e w9 ⟨rfl, rfl⟩)
    | (go_at_call 30; (with_reducible refine (rbt_any _ _ _ _ Y4 _).mono ?_); rintro e w9 ⟨rfl, rfl⟩)
    | (go_at_call 30; (with_reducible refine (rbt_any _ _ _ _ Y5 _).mono ?_); rintro e w9 ⟨rfl, rfl⟩)
    | (go_at_call 30; (with_reducible refine (rbt_any _ _ _ _ Y6 _).mono ?_); rintro e w9 ⟨rfl, rfl⟩))
  go_ret
  exact ⟨rfl, ((Kpt.refl w).alloc _)⟩

set_option maxHeartbeats 2000000 in
theorem rfc_t0 (i f t c p d u x b y : Int) (Y0 : btw 1 1099511627776 i = true) (Y1 : btw 0 30 f = true) (Y2 : btw 0 30 t = true) (Y3 : btw 0 5 c = true) (Y4 : btw 1 20 p = true) (Y5 : btw 0 3652058 d = true) (Y6 : btw 1 1073741824 u = true) (h : (f == t) = false) (Y7 : btw 0 u x = false) (w : World) :
    Calls Try.prog 32 #[.agg #[.int .i64 i, .int .i64 f, .int .i64 t, .int .i64 c, .int .i64 p, .int .i64 d, .int .i64 u, .int .i64 x, .int .i64 b, .int .i64 y]] w fun e w' => e = .returned (.int .i64 3) ∧ Kpt w w' := by
  go_enter Try.func32, Try.ntmps32
  go_wp2_with (first
    | (go_at_call 30; (with_reducible refine (rbt_any _ _ _ _ Y0 _).mono ?_); rintro e w9 ⟨rfl, rfl⟩)
    | (go_at_call 30; (with_reducible refine (rbt_any _ _ _ _ Y1 _).mono ?_); rintro e w9 ⟨rfl, rfl⟩)
    | (go_at_call 30; (with_reducible refine (rbt_any _ _ _ _ Y2 _).mono ?_); rintro e w9 ⟨rfl, rfl⟩)
    | (go_at_call 30; (with_reducible refine (rbt_any _ _ _ _ Y3 _).mono ?_); rintro e w9 ⟨rfl, rfl⟩)
    | (go_at_call 30; (with_reducible refine (rbt_any _ _ _ _ Y4 _).mono ?_); rintro e w9 ⟨rfl, rfl⟩)
    | (go_at_call 30; (with_reducible refine (rbt_any _ _ _ _ Y5 _).mono ?_); rintro e w9 ⟨rfl, rfl⟩)
    | (go_at_call 30; (with_reducible refine (rbt_any _ _ _ _ Y6 _).mono ?_); rintro e w9 ⟨rfl, rfl⟩)
    | (go_at_call 30; (with_reducible refine (rbt_any _ _ _ _ Y7 _).mono ?_); rintro e w9 ⟨rfl, rfl⟩))
  go_ret
  exact ⟨rfl, ((Kpt.refl w).alloc _)⟩

set_option maxHeartbeats 2000000 in
theorem rfc_t1 (i f t c p d u x b y : Int) (Y0 : btw 1 1099511627776 i = true) (Y1 : btw 0 30 f = true) (Y2 : btw 0 30 t = true) (Y3 : btw 0 5 c = true) (Y4 : btw 1 20 p = true) (Y5 : btw 0 3652058 d = true) (Y6 : btw 1 1073741824 u = true) (h : (f == t) = false) (Y7 : btw 0 u x = true) (Y8 : btw 0 u b = false) (w : World) :
    Calls Try.prog 32 #[.agg #[.int .i64 i, .int .i64 f, .int .i64 t, .int .i64 c, .int .i64 p, .int .i64 d, .int .i64 u, .int .i64 x, .int .i64 b, .int .i64 y]] w fun e w' => e = .returned (.int .i64 3) ∧ Kpt w w' := by
  go_enter Try.func32, Try.ntmps32
  go_wp2_with (first
    | (go_at_call 30; (with_reducible refine (rbt_any _ _ _ _ Y0 _).mono ?_); rintro e w9 ⟨rfl, rfl⟩)
    | (go_at_call 30; (with_reducible refine (rbt_any _ _ _ _ Y1 _).mono ?_); rintro e w9 ⟨rfl, rfl⟩)
    | (go_at_call 30; (with_reducible refine (rbt_any _ _ _ _ Y2 _).mono ?_); rintro e w9 ⟨rfl, rfl⟩)
    | (go_at_call 30; (with_reducible refine (rbt_any _ _ _ _ Y3 _).mono ?_); rintro e w9 ⟨rfl, rfl⟩)
    | (go_at_call 30; (with_reducible refine (rbt_any _ _ _ _ Y4 _).mono ?_); rintro e w9 ⟨rfl, rfl⟩)
    | (go_at_call 30; (with_reducible refine (rbt_any _ _ _ _ Y5 _).mono ?_); rintro e w9 ⟨rfl, rfl⟩)
    | (go_at_call 30; (with_reducible refine (rbt_any _ _ _ _ Y6 _).mono ?_); rintro e w9 ⟨rfl, rfl⟩)
    | (go_at_call 30; (with_reducible refine (rbt_any _ _ _ _ Y7 _).mono ?_); rintro e w9 ⟨rfl, rfl⟩)
    | (go_at_call 30; (with_reducible refine (rbt_any _ _ _ _ Y8 _).mono ?_); rintro e w9 ⟨rfl, rfl⟩))
  go_ret
  exact ⟨rfl, ((Kpt.refl w).alloc _)⟩

set_option maxHeartbeats 2000000 in
theorem rfc_t2 (i f t c p d u x b y : Int) (Y0 : btw 1 1099511627776 i = true) (Y1 : btw 0 30 f = true) (Y2 : btw 0 30 t = true) (Y3 : btw 0 5 c = true) (Y4 : btw 1 20 p = true) (Y5 : btw 0 3652058 d = true) (Y6 : btw 1 1073741824 u = true) (h : (f == t) = false) (Y7 : btw 0 u x = true) (Y8 : btw 0 u b = true) (Y9 : btw 0 u y = false) (w : World) :
    Calls Try.prog 32 #[.agg #[.int .i64 i, .int .i64 f, .int .i64 t, .int .i64 c, .int .i64 p, .int .i64 d, .int .i64 u, .int .i64 x, .int .i64 b, .int .i64 y]] w fun e w' => e = .returned (.int .i64 3) ∧ Kpt w w' := by
  go_enter Try.func32, Try.ntmps32
  go_wp2_with (first
    | (go_at_call 30; (with_reducible refine (rbt_any _ _ _ _ Y0 _).mono ?_); rintro e w9 ⟨rfl, rfl⟩)
    | (go_at_call 30; (with_reducible refine (rbt_any _ _ _ _ Y1 _).mono ?_); rintro e w9 ⟨rfl, rfl⟩)
    | (go_at_call 30; (with_reducible refine (rbt_any _ _ _ _ Y2 _).mono ?_); rintro e w9 ⟨rfl, rfl⟩)
    | (go_at_call 30; (with_reducible refine (rbt_any _ _ _ _ Y3 _).mono ?_); rintro e w9 ⟨rfl, rfl⟩)
    | (go_at_call 30; (with_reducible refine (rbt_any _ _ _ _ Y4 _).mono ?_); rintro e w9 ⟨rfl, rfl⟩)
    | (go_at_call 30; (with_reducible refine (rbt_any _ _ _ _ Y5 _).mono ?_); rintro e w9 ⟨rfl, rfl⟩)
    | (go_at_call 30; (with_reducible refine (rbt_any _ _ _ _ Y6 _).mono ?_); rintro e w9 ⟨rfl, rfl⟩)
    | (go_at_call 30; (with_reducible refine (rbt_any _ _ _ _ Y7 _).mono ?_); rintro e w9 ⟨rfl, rfl⟩)
    | (go_at_call 30; (with_reducible refine (rbt_any _ _ _ _ Y8 _).mono ?_); rintro e w9 ⟨rfl, rfl⟩)
    | (go_at_call 30; (with_reducible refine (rbt_any _ _ _ _ Y9 _).mono ?_); rintro e w9 ⟨rfl, rfl⟩))
  go_ret
  exact ⟨rfl, ((Kpt.refl w).alloc _)⟩

set_option maxHeartbeats 2000000 in
theorem rfc_neg (i f t c p d u x b y : Int) (Y0 : btw 1 1099511627776 i = true) (Y1 : btw 0 30 f = true) (Y2 : btw 0 30 t = true) (Y3 : btw 0 5 c = true) (Y4 : btw 1 20 p = true) (Y5 : btw 0 3652058 d = true) (Y6 : btw 1 1073741824 u = true) (h : (f == t) = false) (Y7 : btw 0 u x = true) (Y8 : btw 0 u b = true) (Y9 : btw 0 u y = true) (ho : decide (u - x - b - y < 0) = true) (w : World) :
    Calls Try.prog 32 #[.agg #[.int .i64 i, .int .i64 f, .int .i64 t, .int .i64 c, .int .i64 p, .int .i64 d, .int .i64 u, .int .i64 x, .int .i64 b, .int .i64 y]] w fun e w' => e = .returned (.int .i64 4) ∧ Kpt w w' := by
  have OP := Lib.hid (fun w' => rfo_run i f t c p d u x b y w' (btw_t Y6) (btw_t Y7) (btw_t Y8) (btw_t Y9))
  generalize u - x - b - y = O at *
  go_enter Try.func32, Try.ntmps32
  go_wp2_with (first
    | (go_at_call 30; (with_reducible refine (rbt_any _ _ _ _ Y0 _).mono ?_); rintro e w9 ⟨rfl, rfl⟩)
    | (go_at_call 30; (with_reducible refine (rbt_any _ _ _ _ Y1 _).mono ?_); rintro e w9 ⟨rfl, rfl⟩)
    | (go_at_call 30; (with_reducible refine (rbt_any _ _ _ _ Y2 _).mono ?_); rintro e w9 ⟨rfl, rfl⟩)
    | (go_at_call 30; (with_reducible refine (rbt_any _ _ _ _ Y3 _).mono ?_); rintro e w9 ⟨rfl, rfl⟩)
    | (go_at_call 30; (with_reducible refine (rbt_any _ _ _ _ Y4 _).mono ?_); rintro e w9 ⟨rfl, rfl⟩)
    | (go_at_call 30; (with_reducible refine (rbt_any _ _ _ _ Y5 _).mono ?_); rintro e w9 ⟨rfl, rfl⟩)
    | (go_at_call 30; (with_reducible refine (rbt_any _ _ _ _ Y6 _).mono ?_); rintro e w9 ⟨rfl, rfl⟩)
    | (go_at_call 30; (with_reducible refine (rbt_any _ _ _ _ Y7 _).mono ?_); rintro e w9 ⟨rfl, rfl⟩)
    | (go_at_call 30; (with_reducible refine (rbt_any _ _ _ _ Y8 _).mono ?_); rintro e w9 ⟨rfl, rfl⟩)
    | (go_at_call 30; (with_reducible refine (rbt_any _ _ _ _ Y9 _).mono ?_); rintro e w9 ⟨rfl, rfl⟩)
    | (refine wp_loadF rfl (.tmp 1) rfl w.heap.size _ rfl (Blk.made w #[.int .i64 i, .int .i64 f, .int .i64 t, .int .i64 c, .int .i64 p, .int .i64 d, .int .i64 u, .int .i64 x, .int .i64 b, .int .i64 y] 38) rfl ?_)
    | (go_at_call 10; (with_reducible refine (OP.out _).mono ?_); rintro e w3 ⟨rfl, k3⟩; have K3 := Lib.hid (ktr ((Kpt.refl w).alloc (.cells #[.int .i64 i, .int .i64 f, .int .i64 t, .int .i64 c, .int .i64 p, .int .i64 d, .int .i64 u, .int .i64 x, .int .i64 b, .int .i64 y] 38)) k3); clear k3))
  go_ret
  exact ⟨rfl, K3.out⟩

set_option maxHeartbeats 2000000 in
theorem rfc_ok (i f t c p d u x b y : Int) (Y0 : btw 1 1099511627776 i = true) (Y1 : btw 0 30 f = true) (Y2 : btw 0 30 t = true) (Y3 : btw 0 5 c = true) (Y4 : btw 1 20 p = true) (Y5 : btw 0 3652058 d = true) (Y6 : btw 1 1073741824 u = true) (h : (f == t) = false) (Y7 : btw 0 u x = true) (Y8 : btw 0 u b = true) (Y9 : btw 0 u y = true) (ho : decide (u - x - b - y < 0) = false) (w : World) :
    Calls Try.prog 32 #[.agg #[.int .i64 i, .int .i64 f, .int .i64 t, .int .i64 c, .int .i64 p, .int .i64 d, .int .i64 u, .int .i64 x, .int .i64 b, .int .i64 y]] w fun e w' => e = .returned (.int .i64 0) ∧ Kpt w w' := by
  have OP := Lib.hid (fun w' => rfo_run i f t c p d u x b y w' (btw_t Y6) (btw_t Y7) (btw_t Y8) (btw_t Y9))
  generalize u - x - b - y = O at *
  go_enter Try.func32, Try.ntmps32
  go_wp2_with (first
    | (go_at_call 30; (with_reducible refine (rbt_any _ _ _ _ Y0 _).mono ?_); rintro e w9 ⟨rfl, rfl⟩)
    | (go_at_call 30; (with_reducible refine (rbt_any _ _ _ _ Y1 _).mono ?_); rintro e w9 ⟨rfl, rfl⟩)
    | (go_at_call 30; (with_reducible refine (rbt_any _ _ _ _ Y2 _).mono ?_); rintro e w9 ⟨rfl, rfl⟩)
    | (go_at_call 30; (with_reducible refine (rbt_any _ _ _ _ Y3 _).mono ?_); rintro e w9 ⟨rfl, rfl⟩)
    | (go_at_call 30; (with_reducible refine (rbt_any _ _ _ _ Y4 _).mono ?_); rintro e w9 ⟨rfl, rfl⟩)
    | (go_at_call 30; (with_reducible refine (rbt_any _ _ _ _ Y5 _).mono ?_); rintro e w9 ⟨rfl, rfl⟩)
    | (go_at_call 30; (with_reducible refine (rbt_any _ _ _ _ Y6 _).mono ?_); rintro e w9 ⟨rfl, rfl⟩)
    | (go_at_call 30; (with_reducible refine (rbt_any _ _ _ _ Y7 _).mono ?_); rintro e w9 ⟨rfl, rfl⟩)
    | (go_at_call 30; (with_reducible refine (rbt_any _ _ _ _ Y8 _).mono ?_); rintro e w9 ⟨rfl, rfl⟩)
    | (go_at_call 30; (with_reducible refine (rbt_any _ _ _ _ Y9 _).mono ?_); rintro e w9 ⟨rfl, rfl⟩)
    | (refine wp_loadF rfl (.tmp 1) rfl w.heap.size _ rfl (Blk.made w #[.int .i64 i, .int .i64 f, .int .i64 t, .int .i64 c, .int .i64 p, .int .i64 d, .int .i64 u, .int .i64 x, .int .i64 b, .int .i64 y] 38) rfl ?_)
    | (go_at_call 10; (with_reducible refine (OP.out _).mono ?_); rintro e w3 ⟨rfl, k3⟩; have K3 := Lib.hid (ktr ((Kpt.refl w).alloc (.cells #[.int .i64 i, .int .i64 f, .int .i64 t, .int .i64 c, .int .i64 p, .int .i64 d, .int .i64 u, .int .i64 x, .int .i64 b, .int .i64 y] 38)) k3); clear k3))
  go_ret
  exact ⟨rfl, K3.out⟩

theorem rfc_run (i f t c p d u x b y : Int) (w : World) :
    Calls Try.prog 32 #[.agg #[.int .i64 i, .int .i64 f, .int .i64 t, .int .i64 c, .int .i64 p, .int .i64 d, .int .i64 u, .int .i64 x, .int .i64 b, .int .i64 y]] w fun e w' => e = .returned (.int .i64 (failE i f t c p d u x b y)) ∧ Kpt w w' := by
  have bad : fdue i f t c p d u = false → failE i f t c p d u x b y = 3 := fun h => by unfold failE; rw [h]; rfl
  cases Y0 : btw 1 1099511627776 i with
  | false =>
    rw [bad (by cases hq : fdue i f t c p d u with
      | false => rfl
      | true => exact absurd (fdue_t hq) (by have := btw_f Y0; omega))]
    exact rfc_0 i f t c p d u x b y Y0 w
  | true =>
    cases Y1 : btw 0 30 f with
    | false =>
      rw [bad (by cases hq : fdue i f t c p d u with
        | false => rfl
        | true => exact absurd (fdue_t hq) (by have := btw_f Y1; omega))]
      exact rfc_1 i f t c p d u x b y Y0 Y1 w
    | true =>
      cases Y2 : btw 0 30 t with
      | false =>
        rw [bad (by cases hq : fdue i f t c p d u with
          | false => rfl
          | true => exact absurd (fdue_t hq) (by have := btw_f Y2; omega))]
        exact rfc_2 i f t c p d u x b y Y0 Y1 Y2 w
      | true =>
        cases Y3 : btw 0 5 c with
        | false =>
          rw [bad (by cases hq : fdue i f t c p d u with
            | false => rfl
            | true => exact absurd (fdue_t hq) (by have := btw_f Y3; omega))]
          exact rfc_3 i f t c p d u x b y Y0 Y1 Y2 Y3 w
        | true =>
          cases Y4 : btw 1 20 p with
          | false =>
            rw [bad (by cases hq : fdue i f t c p d u with
              | false => rfl
              | true => exact absurd (fdue_t hq) (by have := btw_f Y4; omega))]
            exact rfc_4 i f t c p d u x b y Y0 Y1 Y2 Y3 Y4 w
          | true =>
            cases Y5 : btw 0 3652058 d with
            | false =>
              rw [bad (by cases hq : fdue i f t c p d u with
                | false => rfl
                | true => exact absurd (fdue_t hq) (by have := btw_f Y5; omega))]
              exact rfc_5 i f t c p d u x b y Y0 Y1 Y2 Y3 Y4 Y5 w
            | true =>
              cases Y6 : btw 1 1073741824 u with
              | false =>
                rw [bad (by cases hq : fdue i f t c p d u with
                  | false => rfl
                  | true => exact absurd (fdue_t hq) (by have := btw_f Y6; omega))]
                exact rfc_6 i f t c p d u x b y Y0 Y1 Y2 Y3 Y4 Y5 Y6 w
              | true =>
                have Y : fdue i f t c p d u = true := fdue_mk ⟨btw_t Y5, btw_t Y0, ⟨btw_t Y1, btw_t Y2⟩, btw_t Y3, btw_t Y4, btw_t Y6⟩
                by_cases h : f = t
                · rw [show failE i f t c p d u x b y = 1 by unfold failE; rw [if_pos Y, if_pos h]]
                  exact rfc_eq i f t c p d u x b y Y0 Y1 Y2 Y3 Y4 Y5 Y6 (beq_iff_eq.2 h) w
                · have hn : (f == t) = false := beq_eq_false_iff_ne.2 h
                  cases Y7 : btw 0 u x with
                  | false =>
                    rw [show failE i f t c p d u x b y = 3 by unfold failE; rw [if_pos Y, if_neg h, if_neg (fun hq => absurd (ftk_t hq) (by have := btw_f Y7; omega))]]
                    exact rfc_t0 i f t c p d u x b y Y0 Y1 Y2 Y3 Y4 Y5 Y6 hn Y7 w
                  | true =>
                    cases Y8 : btw 0 u b with
                    | false =>
                      rw [show failE i f t c p d u x b y = 3 by unfold failE; rw [if_pos Y, if_neg h, if_neg (fun hq => absurd (ftk_t hq) (by have := btw_f Y8; omega))]]
                      exact rfc_t1 i f t c p d u x b y Y0 Y1 Y2 Y3 Y4 Y5 Y6 hn Y7 Y8 w
                    | true =>
                      cases Y9 : btw 0 u y with
                      | false =>
                        rw [show failE i f t c p d u x b y = 3 by unfold failE; rw [if_pos Y, if_neg h, if_neg (fun hq => absurd (ftk_t hq) (by have := btw_f Y9; omega))]]
                        exact rfc_t2 i f t c p d u x b y Y0 Y1 Y2 Y3 Y4 Y5 Y6 hn Y7 Y8 Y9 w
                      | true =>
                        have YT : ftk u x b y = true := ftk_mk ⟨btw_t Y7, btw_t Y8, btw_t Y9⟩
                        by_cases ho : u - x - b - y < 0
                        · rw [show failE i f t c p d u x b y = 4 by unfold failE; rw [if_pos Y, if_neg h, if_pos YT, if_pos ho]]
                          exact rfc_neg i f t c p d u x b y Y0 Y1 Y2 Y3 Y4 Y5 Y6 hn Y7 Y8 Y9 (decide_eq_true ho) w
                        · rw [show failE i f t c p d u x b y = 0 by unfold failE; rw [if_pos Y, if_neg h, if_pos YT, if_neg ho]]
                          exact rfc_ok i f t c p d u x b y Y0 Y1 Y2 Y3 Y4 Y5 Y6 hn Y7 Y8 Y9 (decide_eq_false ho) w

end Go.Proofs.Ytagmgpdgiphhbaa

-- RefFail2
namespace Go.Proofs.Ytagmgpdgiphhbaa
open Go.RowKit
set_option linter.unusedVariables false

end Go.Proofs.Ytagmgpdgiphhbaa

-- RefFail3
namespace Go.Proofs.Ytagmgpdgiphhbaa
open Go.RowKit
set_option linter.unusedVariables false

theorem mem_ids {fs : List (List Int)} {k : Nat} (hk : k ≤ fs.length) {id : Int} : id ∈ idsOf (fs.take k) ↔ ∃ j, j < k ∧ (fs.getD j []).getD 0 0 = id := by
  unfold idsOf
  rw [List.mem_map]
  constructor
  · rintro ⟨l, hl, rfl⟩
    obtain ⟨j, hj, rfl⟩ := List.mem_iff_getElem.1 hl
    rw [List.length_take] at hj
    refine ⟨j, by omega, ?_⟩
    rw [List.getElem_take, List.getD_eq_getElem?_getD (l := fs), List.getElem?_eq_getElem (by omega)]; rfl
  · rintro ⟨j, hj, rfl⟩
    refine ⟨fs[j]'(by omega), ?_, ?_⟩
    · exact List.mem_iff_getElem.2 ⟨j, by rw [List.length_take]; omega, by rw [List.getElem_take]⟩
    · rw [List.getD_eq_getElem?_getD (l := fs), List.getElem?_eq_getElem (by omega)]; rfl

set_option maxRecDepth 100000 in
set_option maxHeartbeats 4000000 in
theorem rfcs_run (v : Value) (fs : List (List Int)) (w : World) (hr : ReadsF w v fs) :
    Calls Try.prog 9 #[v] w fun e w' => e = .returned (.int .i64 (checksE fs)) ∧ Kpt w w' := by
  obtain ⟨a, cap, rfl, hm, -, hc⟩ := hr
  unfold maxLen at hm
  have HC := Lib.hid hc
  obtain ⟨n, hn⟩ : ∃ n, n = fs.length := ⟨_, rfl⟩
  by_cases h60 : 60 < fs.length
  · have HX : Hid (checksE fs = 2) := by unfold Hid checksE; rw [if_pos h60]
    rw [← hn] at h60 HC hm ⊢
    have y1 : decide ((60 : Int) < (n : Int)) = true := decide_eq_true (by omega)
    have y2 : (60 : Int) < (n : Int) := by omega
    clear hc hn
    go_enter Try.func9, Try.ntmps9
    go_wp2
    go_ret
    exact ⟨ret_int HX.out.symm, Kpt.refl _⟩
  have HX : Hid (checksE fs = idsE (idsOf (fs.take 0)) (fs.drop 0)) := by unfold Hid checksE; rw [if_neg h60]; rfl
  have DR := Lib.hid (fun k (h : k < fs.length) => drop_at h)
  have IS := Lib.hid (fun k (h : k < fs.length) => idsOf_s h)
  have MI := Lib.hid (fun k (h : k ≤ fs.length) id => mem_ids (fs := fs) h (id := id))
  have DA : Hid (fs.drop n = []) := by unfold Hid; rw [hn, List.drop_length]
  rw [← hn] at h60 HC hm DR IS MI ⊢
  have y1 : decide ((60 : Int) < (n : Int)) = false := decide_eq_false (by omega)
  have y2 : ¬ (60 : Int) < (n : Int) := by omega
  clear hc hn
  go_enter Try.func9, Try.ntmps9
  go_wp2
  go_loopw [3, 4, 5] (fun ii _ _ wr => ∃ k : Nat, k ≤ n ∧ ii = .int .i64 (k : Int) ∧ Hid (checksE fs = idsE (idsOf (fs.take k)) (fs.drop k)) ∧ Hid (Kpt w wr)) (fun ii _ _ _ => n - (intOf ii).toNat)
  case atStart => exact ⟨0, Nat.zero_le _, rfl, HX.out, Kpt.refl _⟩
  case round =>
    obtain ⟨k, hk, rfl, HE, HK⟩ := hrel
    by_cases hlt : k < n
    · obtain ⟨g, off, rfl, hfl⟩ := HC.out k hlt
      have HQ : Hid (∀ j, j < n → FlAt w g (off + j * 10) (fs.getD j [])) := fun j hj => by
        obtain ⟨b', off', e, h'⟩ := HC.out j hj
        simp only [Option.some.injEq, Addr.mk.injEq] at e
        obtain ⟨rfl, rfl, -⟩ := e
        exact h'
      have hf := hfl.kpt HK.out
      have dr := DR.out k hlt
      have is' := IS.out k hlt
      have mi := MI.out k (by omega) ((fs.getD k []).getD 0 0)
      have he := HE.out
      rw [dr] at he
      unfold idsE failEL at he
      have H0 : Hid (FlAt w g (off + k * 10) (fs.getD k [])) := hfl
      clear hfl HE
      obtain ⟨ID, hID⟩ : ∃ ID, ID = (fs.getD k []).getD 0 0 := ⟨_, rfl⟩
      have d0 : Hid (w.cell? ⟨g, off + k * 10, none⟩ = some (.int .i64 ID)) := by rw [hID]; exact H0.out 0 (by omega)
      clear H0
      rw [← hID] at he mi is'
      rw [is'.symm] at he
      have CK := Lib.hid (fun w' => rfc_run ID ((fs.getD k []).getD 1 0) ((fs.getD k []).getD 2 0) ((fs.getD k []).getD 3 0) ((fs.getD k []).getD 4 0) ((fs.getD k []).getD 5 0) ((fs.getD k []).getD 6 0) ((fs.getD k []).getD 7 0) ((fs.getD k []).getD 8 0) ((fs.getD k []).getD 9 0) w')
      have c0 : wr.cell? ⟨g, off + k * 10, none⟩ = _ := hf 0 (by omega)
      have c1 : wr.cell? ⟨g, off + k * 10 + 1, none⟩ = _ := hf 1 (by omega)
      have c2 : wr.cell? ⟨g, off + k * 10 + 2, none⟩ = _ := hf 2 (by omega)
      have c3 : wr.cell? ⟨g, off + k * 10 + 3, none⟩ = _ := hf 3 (by omega)
      have c4 : wr.cell? ⟨g, off + k * 10 + 4, none⟩ = _ := hf 4 (by omega)
      have c5 : wr.cell? ⟨g, off + k * 10 + 5, none⟩ = _ := hf 5 (by omega)
      have c6 : wr.cell? ⟨g, off + k * 10 + 6, none⟩ = _ := hf 6 (by omega)
      have c7 : wr.cell? ⟨g, off + k * 10 + 7, none⟩ = _ := hf 7 (by omega)
      have c8 : wr.cell? ⟨g, off + k * 10 + 8, none⟩ = _ := hf 8 (by omega)
      have c9 : wr.cell? ⟨g, off + k * 10 + 9, none⟩ = _ := hf 9 (by omega)
      rw [← hID] at c0
      clear hID hf dr is'
      generalize (fs.getD k []).getD 1 0 = f at *
      generalize (fs.getD k []).getD 2 0 = t at *
      generalize (fs.getD k []).getD 3 0 = c at *
      generalize (fs.getD k []).getD 4 0 = p at *
      generalize (fs.getD k []).getD 5 0 = d at *
      generalize (fs.getD k []).getD 6 0 = u at *
      generalize (fs.getD k []).getD 7 0 = x at *
      generalize (fs.getD k []).getD 8 0 = b at *
      generalize (fs.getD k []).getD 9 0 = y at *
      generalize failE ID f t c p d u x b y = E at *
      by_cases h1 : E = 0
      · have z1 : (E != 0) = false := by rw [h1]; rfl
        rw [if_neg (by omega)] at he
        have HE1 := Lib.hid he
        have HMI := Lib.hid mi
        clear he h1 mi
        go_wp2_with (go_at_call 32; (with_reducible refine (CK.out _).mono ?_); rintro e w1 ⟨rfl, k1⟩; have K1 := Lib.hid (ktr HK.out k1); clear k1)
        clear c0 c1 c2 c3 c4 c5 c6 c7 c8 c9
        go_loopw [5] (fun jj wr => ∃ j : Nat, j ≤ k ∧ jj = .int .i64 (j : Int) ∧ Hid (∀ j', j' < j → (fs.getD j' []).getD 0 0 ≠ ID) ∧ Hid (Kpt w wr)) (fun jj _ => k - (intOf jj).toNat)
        case atStart => exact ⟨0, Nat.zero_le _, rfl, (fun j' h => absurd h (Nat.not_lt_zero _)), K1.out⟩
        case round =>
          obtain ⟨j, hj, rfl, HN, HK2⟩ := hrel
          by_cases hlt2 : j < k
          · have d1 := HK2.out.cell d0.out
            have d2 : World.cell? _ ⟨g, off + j * 10, none⟩ = _ := ((HQ.out j (by omega)).kpt HK2.out) 0 (by omega)
            have HM2 : Hid ((fs.getD j []).getD 0 0 = ID → ID ∈ idsOf (fs.take k)) := fun e => HMI.out.2 ⟨j, hlt2, e⟩
            have HN2 : Hid ((fs.getD j []).getD 0 0 ≠ ID → ∀ j', j' < j + 1 → (fs.getD j' []).getD 0 0 ≠ ID) := fun e j' hj' => by
              rcases Nat.lt_or_ge j' j with q | q
              · exact HN.out j' q
              · obtain rfl : j' = j := by omega
                exact e
            generalize (fs.getD j []).getD 0 0 = id2 at *
            have jn : (j : Int) < (n : Int) := by omega
            have kn : (k : Int) < (n : Int) := by omega
            by_cases h2 : id2 = ID
            · have z2 : (id2 == ID) = true := beq_iff_eq.2 h2
              have HR : Hid (checksE fs = 6) := by
                have := HE1.out; rw [if_pos (HM2.out h2)] at this; exact this
              clear h2
              go_wp2
              go_quiet (fail)
              go_wp2
              go_ret
              exact ⟨ret_int HR.out.symm, HK2.out.drewN _⟩
            · have z2 : (id2 == ID) = false := beq_eq_false_iff_ne.2 h2
              have HN3 := Lib.hid (HN2.out h2)
              clear h2
              go_wp2
              go_quiet (fail)
              go_wp2
              go_roundw
              case rel => exact ⟨j + 1, by omega, by go_num, HN3.out, HK2.out.drewN _⟩
              case measure => simp [intOf]; omega
          · obtain rfl : j = k := by omega
            have HR : Hid (checksE fs = idsE (idsOf (fs.take (j + 1))) (fs.drop (j + 1))) := by
              have := HE1.out
              rw [if_neg (fun hm => by obtain ⟨j', h1, h2⟩ := HMI.out.1 hm; exact HN.out j' h1 h2)] at this
              exact this
            go_wp2
            go_roundw
            case rel => exact ⟨j + 1, by omega, by go_num, HR.out, HK2.out⟩
            case measure => simp [intOf]; omega
      · have z1 : (E != 0) = true := bne_iff_ne.2 h1
        rw [if_pos h1] at he
        have HE1 := Lib.hid he
        clear he h1 mi
        go_wp2_with (go_at_call 32; (with_reducible refine (CK.out _).mono ?_); rintro e w1 ⟨rfl, k1⟩; have K1 := Lib.hid (ktr HK.out k1); clear k1)
        go_ret
        exact ⟨ret_int HE1.out.symm, K1.out⟩
    · obtain rfl : k = n := by omega
      rw [DA.out] at HE
      go_wp2
      go_ret
      exact ⟨ret_int HE.out.symm, HK.out⟩

end Go.Proofs.Ytagmgpdgiphhbaa

-- QuietK
namespace Go.Proofs.Ytagmgpdgiphhbaa
open Go.RowKit
set_option linter.unusedVariables false

structure KptTo (q : World) where
  w : World
  h : Kpt q w
instance (q : World) : Inhabited (KptTo q) := ⟨⟨q, Kpt.refl q⟩⟩
theorem quiet_k {P : Program} {id : Nat} {Q : Exit → Act → World → Prop} {a : Act} {q : World} {l : List Oper} (hm : P.follows .mixedOrders = true) (hB : Region.lexB .any l.toArray = true)
    (h : wpQuiet P l.toArray (fun w' => ∃ p : KptTo q, w' = p.w) (fun a' => ∀ w', (∃ p : KptTo q, w' = p.w) → Q .normal a' w') l a) : (Code.region id l.toArray true).wp P Q a q :=
  wp_region_quiet (C := fun w' => ∃ p : KptTo q, w' = p.w) hm hB ⟨⟨_, (Kpt.refl q).drewN 1⟩, rfl⟩ (by simpa using h)
theorem cell_k {q : World} {a : Addr} {v : Value} (h : q.cell? a = some v) (p : KptTo q) : p.w.cell? a = some v := p.h.cell h
theorem calls_k {P : Program} {f : FuncId} {args : Array Value} {q : World} {p : KptTo q} {v : Value} (h : Calls P f args p.w fun e w' => e = .returned v ∧ Kpt p.w w') : Calls P f args p.w fun e w'' => e = .returned v ∧ ∃ p' : KptTo q, w'' = p'.w :=
  h.mono fun _ w' ⟨he, hk⟩ => ⟨he, ⟨w', ktr p.h hk⟩, rfl⟩
theorem calls_same {P : Program} {f : FuncId} {args : Array Value} {q : World} {p : KptTo q} {v : Value} (h : Calls P f args p.w fun e w' => e = .returned v ∧ p.w = w') : Calls P f args p.w fun e w'' => e = .returned v ∧ ∃ p' : KptTo q, w'' = p'.w :=
  h.mono fun _ w' ⟨he, hk⟩ => ⟨he, p, hk.symm⟩

end Go.Proofs.Ytagmgpdgiphhbaa

-- RefTop
namespace Go.Proofs.Ytagmgpdgiphhbaa
open Go.RowKit
set_option linter.unusedVariables false

theorem wpart {U p : Int} (h1 : 0 ≤ U ∧ U ≤ 1073741824) (h3 : 0 ≤ p ∧ p ≤ 1099511627776) (w : World) :
    Calls Try.prog 61 #[.int .i64 U, .int .i64 p, .int .i64 10000] w fun e w' => e = .returned (.tuple #[.int .i64 (U * p / 10000), .int .i64 (U * p % 10000)]) ∧ w = w' := by
  obtain ⟨a, rfl⟩ : ∃ a : Nat, U = (a : Int) := ⟨U.toNat, by omega⟩
  obtain ⟨b, rfl⟩ : ∃ b : Nat, p = (b : Int) := ⟨p.toNat, by omega⟩
  have hab : a * b ≤ 1073741824 * 1099511627776 := Nat.mul_le_mul (by omega) (by omega)
  have hq : a * b / 10000 ≤ 1180591620717411303424 / 10000 := Nat.div_le_div_right hab
  have e1 : ((a * b / 10000 : Nat) : Int) = (a : Int) * (b : Int) / 10000 := by rw [Int.natCast_ediv, Int.natCast_mul]; rfl
  have e2 : ((a * b % 10000 : Nat) : Int) = (a : Int) * (b : Int) % 10000 := by rw [Int.natCast_emod, Int.natCast_mul]; rfl
  have := partOf_ok a b 10000 _ _ rfl rfl (by omega) (by omega) (by decide) (by decide) (by omega) w
  rw [e1, e2] at this
  exact this

set_option maxRecDepth 100000 in
set_option maxHeartbeats 4000000 in
theorem wor_run (l ps : List Int) (pv : Value) (w : World) (hl : failEL l = 0) (h20 : ps.length = 20) (hp : ∀ j, j < 20 → 0 ≤ ps.getD j 0 ∧ ps.getD j 0 ≤ 1099511627776) (hr : Reads w pv ps) :
    Calls Try.prog 35 #[.agg (flC l), pv] w fun e w' => e = .returned (.int .i64 (openL l * ps.getD (l.getD 4 0 - 1).toNat 0 / 10000)) ∧ Kpt w w' := by
  have fb := fail_bd hl
  have hU := openL_bd l
  obtain ⟨k4, e4⟩ : ∃ k : Nat, l.getD 4 0 = (k : Int) + 1 := ⟨(l.getD 4 0 - 1).toNat, by omega⟩
  have e5 : (l.getD 4 0 - 1).toNat = k4 := by omega
  have hb := hp k4 (by omega)
  have FO := Lib.hid (fun w' => rfo_run (l.getD 0 0) (l.getD 1 0) (l.getD 2 0) (l.getD 3 0) (l.getD 4 0) (l.getD 5 0) (l.getD 6 0) (l.getD 7 0) (l.getD 8 0) (l.getD 9 0) w' fb.1 (by omega) (by omega) (by omega))
  rw [← fb.2.2.2.2.2.2.2] at FO
  have HP := Lib.hid (fun w' => wpart hU hb w')
  have hk : k4 < ps.length := by omega
  obtain ⟨b, off, cap, rfl, hc⟩ : ∃ b off cap, pv = .slice (some ⟨b, off, none⟩) ps.length cap ∧ ∀ j, j < ps.length → w.cell? ⟨b, off + j, none⟩ = some (.int .i64 (ps.getD j 0)) := by
    rcases hr.cell with ⟨e, _⟩ | ⟨_, b', off', cap', e, hc⟩
    · rw [e] at hk; simp at hk
    · exact ⟨_, _, _, e, hc⟩
  have cp := hc k4 hk
  rw [e5]
  have H20 := Lib.hid h20
  have i0 : (0 : Int) ≤ (k4 : Int) := by omega
  have i1 : (k4 : Int) < (ps.length : Int) := by omega
  have h5 : (k4 : Int) + 1 - 1 = k4 := by omega
  have h6 : IntKind.i64.wrap (k4 : Int) = k4 := IntWalk.i64_in _ (by omega)
  rw [e4] at FO
  unfold flC
  rw [e4]
  clear hc hp hb h20 fb hl e5
  generalize l.getD 0 0 = z0 at *
  generalize l.getD 1 0 = z1 at *
  generalize l.getD 2 0 = z2 at *
  generalize l.getD 3 0 = z3 at *
  generalize l.getD 5 0 = z5 at *
  generalize l.getD 6 0 = z6 at *
  generalize l.getD 7 0 = z7 at *
  generalize l.getD 8 0 = z8 at *
  generalize l.getD 9 0 = z9 at *
  clear e4
  obtain ⟨V, hV⟩ : ∃ V, openL l * ps.getD k4 0 / 10000 = V := ⟨_, rfl⟩
  obtain ⟨R, hR⟩ : ∃ R, openL l * ps.getD k4 0 % 10000 = R := ⟨_, rfl⟩
  rw [hR] at HP
  clear hR
  rw [hV] at HP ⊢
  generalize openL l = U at *
  generalize ps.getD k4 0 = PR at *
  clear hV
  have BF : Hid (Blk (w.alloc (.cells #[.int .i64 z0, .int .i64 z1, .int .i64 z2, .int .i64 z3, .int .i64 ((k4 : Int) + 1), .int .i64 z5, .int .i64 z6, .int .i64 z7, .int .i64 z8, .int .i64 z9] 38)) w.heap.size #[.int .i64 z0, .int .i64 z1, .int .i64 z2, .int .i64 z3, .int .i64 ((k4 : Int) + 1), .int .i64 z5, .int .i64 z6, .int .i64 z7, .int .i64 z8, .int .i64 z9] 38) := Blk.made _ _ _
  have K0 : Hid (Kpt w (w.alloc (.cells #[.int .i64 z0, .int .i64 z1, .int .i64 z2, .int .i64 z3, .int .i64 ((k4 : Int) + 1), .int .i64 z5, .int .i64 z6, .int .i64 z7, .int .i64 z8, .int .i64 z9] 38))) := (Kpt.refl w).alloc _
  go_enter Try.func35, Try.ntmps35
  go_upto_region 1 with fail
  have cq := K0.out.cell cp
  generalize w.alloc (.cells #[.int .i64 z0, .int .i64 z1, .int .i64 z2, .int .i64 z3, .int .i64 ((k4 : Int) + 1), .int .i64 z5, .int .i64 z6, .int .i64 z7, .int .i64 z8, .int .i64 z9] 38) = W0 at BF K0 cq ⊢
  have f0 := cell_k (q := W0) (a := ⟨w.heap.size, 0, none⟩) (v := .int .i64 z0) (BF.out.cell 0)
  have f1 := cell_k (q := W0) (a := ⟨w.heap.size, 1, none⟩) (v := .int .i64 z1) (BF.out.cell 1)
  have f2 := cell_k (q := W0) (a := ⟨w.heap.size, 2, none⟩) (v := .int .i64 z2) (BF.out.cell 2)
  have f3 := cell_k (q := W0) (a := ⟨w.heap.size, 3, none⟩) (v := .int .i64 z3) (BF.out.cell 3)
  have f4 := cell_k (q := W0) (a := ⟨w.heap.size, 4, none⟩) (v := .int .i64 ((k4 : Int) + 1)) (BF.out.cell 4)
  have f5 := cell_k (q := W0) (a := ⟨w.heap.size, 5, none⟩) (v := .int .i64 z5) (BF.out.cell 5)
  have f6 := cell_k (q := W0) (a := ⟨w.heap.size, 6, none⟩) (v := .int .i64 z6) (BF.out.cell 6)
  have f7 := cell_k (q := W0) (a := ⟨w.heap.size, 7, none⟩) (v := .int .i64 z7) (BF.out.cell 7)
  have f8 := cell_k (q := W0) (a := ⟨w.heap.size, 8, none⟩) (v := .int .i64 z8) (BF.out.cell 8)
  have f9 := cell_k (q := W0) (a := ⟨w.heap.size, 9, none⟩) (v := .int .i64 z9) (BF.out.cell 9)
  have fp := cell_k (q := W0) cq
  have mixed : Try.prog.follows .mixedOrders = true := by kernel_rfl
  refine quiet_k (q := W0) mixed (by kernel_rfl) ?_
  repeat (quiet_step (first | (go_at_call 10; with_reducible refine calls_k (FO.out _)) | (go_at_call 61; with_reducible refine calls_same (HP.out _))))
  refine wpQuiet_nil ?_
  intro w8 hw1
  obtain ⟨⟨wz, kz⟩, hw2⟩ := hw1
  have hw3 : w8 = wz := hw2
  clear hw2
  subst hw3
  go_wp2
  go_ret
  exact ⟨rfl, ktr K0.out kz⟩

end Go.Proofs.Ytagmgpdgiphhbaa

-- IdsOk
namespace Go.Proofs.Ytagmgpdgiphhbaa
open Go.RowKit
set_option linter.unusedVariables false

theorem ids_ok {ids : List Int} {fs : List (List Int)} : idsE ids fs = 0 ↔ (∀ l ∈ fs, failEL l = 0) ∧ (idsOf fs).Nodup ∧ ∀ l ∈ fs, l.getD 0 0 ∉ ids := by
  induction fs generalizing ids with
  | nil => simp [idsE, idsOf]
  | cons l fs ih =>
    unfold idsE
    have e : idsOf (l :: fs) = l.getD 0 0 :: idsOf fs := rfl
    rw [e, List.nodup_cons]
    by_cases h1 : failEL l ≠ 0
    · rw [if_pos h1]
      constructor
      · exact fun h => absurd h h1
      · exact fun h => absurd (h.1 l (by simp)) h1
    · rw [if_neg h1]
      have h1 : failEL l = 0 := by omega
      by_cases h2 : l.getD 0 0 ∈ ids
      · rw [if_pos h2]
        constructor
        · intro h; omega
        · exact fun h => absurd h2 (h.2.2 l (by simp))
      · rw [if_neg h2, ih]
        constructor
        · rintro ⟨a, b, c⟩
          refine ⟨fun m hm => ?_, ⟨fun hm => ?_, b⟩, fun m hm => ?_⟩
          · rcases List.mem_cons.1 hm with rfl | hm
            · exact h1
            · exact a m hm
          · obtain ⟨m, hm, e⟩ := List.mem_map.1 hm
            exact c m hm (by rw [e]; simp)
          · rcases List.mem_cons.1 hm with rfl | hm
            · exact h2
            · exact fun h => c m hm (List.mem_append_left _ h)
        · rintro ⟨a, ⟨b1, b2⟩, c⟩
          refine ⟨fun m hm => a m (by simp [hm]), b2, fun m hm h => ?_⟩
          rcases List.mem_append.1 h with h | h
          · exact c m (by simp [hm]) h
          · exact b1 (List.mem_map.2 ⟨m, hm, by simpa using h⟩)
theorem checks_sub {fs gs : List (List Int)} (s : gs.Sublist fs) (h : checksE fs = 0) : checksE gs = 0 := by
  have hl := s.length_le
  unfold checksE at h ⊢
  split at h
  · cases h
  · rename_i h6
    rw [if_neg (by omega)]
    obtain ⟨h1, h2, h3⟩ := ids_ok.1 h
    exact ids_ok.2 ⟨fun l hl => h1 l (s.subset hl), (s.map fun l : List Int => l.getD 0 0).nodup (show (fs.map fun l => l.getD 0 0).Nodup from h2), fun l hl => h3 l (s.subset hl)⟩
theorem checks_one {l : List Int} (h : failEL l = 0) : checksE [l] = 0 := by
  unfold checksE
  rw [if_neg (by simp)]
  exact ids_ok.2 ⟨fun m hm => by simp at hm; subst hm; exact h, by simp [idsOf], fun m hm => by simp⟩
/-- those ahead of a place, and those from it on -/
theorem ReadsF.take {w : World} {a : Option Addr} {n cap : Nat} {fs : List (List Int)} (h : ReadsF w (.slice a n cap) fs) (k : Nat) (hk : k ≤ fs.length) : ReadsF w (.slice a k cap) (fs.take k) := by
  obtain ⟨a', cap', e, hm, hb, hc⟩ := h
  injection e with e1 e2 e3
  subst e1; subst e3
  have hl : (fs.take k).length = k := by rw [List.length_take]; omega
  refine ⟨_, cap, by rw [hl], by omega, fun p hp => hb p (List.mem_of_mem_take hp), fun j hj => ?_⟩
  obtain ⟨b, off, e, h⟩ := hc j (by omega)
  refine ⟨b, off, e, ?_⟩
  have : (fs.take k).getD j [] = fs.getD j [] := by
    rw [List.getD_eq_getElem?_getD, List.getD_eq_getElem?_getD, List.getElem?_take_of_lt (by omega)]
  rw [this]
  exact h
theorem ReadsF.drop {w : World} {b off n cap : Nat} {fs : List (List Int)} (h : ReadsF w (.slice (some ⟨b, off, none⟩) n cap) fs) (k : Nat) (hk : k ≤ fs.length) : ReadsF w (.slice (some ⟨b, off + k * 10, none⟩) (n - k) (cap - k)) (fs.drop k) := by
  obtain ⟨a', cap', e, hm, hb, hc⟩ := h
  injection e with e1 e2 e3
  subst e1; subst e3; subst e2
  have hl : (fs.drop k).length = fs.length - k := List.length_drop
  refine ⟨_, cap - k, by rw [hl], by omega, fun p hp => hb p (List.mem_of_mem_drop hp), fun j hj => ?_⟩
  obtain ⟨b', off', e, h⟩ := hc (k + j) (by omega)
  simp only [Option.some.injEq, Addr.mk.injEq] at e
  obtain ⟨rfl, rfl, -⟩ := e
  refine ⟨b, off + k * 10, rfl, ?_⟩
  have : (fs.drop k).getD j [] = fs.getD (k + j) [] := by
    rw [List.getD_eq_getElem?_getD, List.getD_eq_getElem?_getD, List.getElem?_drop]
  rw [this, show off + k * 10 + j * 10 = off + (k + j) * 10 by omega]
  exact h
theorem readsF_nil (w : World) (a : Option Addr) (cap : Nat) : ReadsF w (.slice a 0 cap) [] := ⟨a, cap, rfl, Nat.zero_le _, fun l hl => absurd hl (by simp), fun k hk => absurd hk (Nat.not_lt_zero k)⟩

end Go.Proofs.Ytagmgpdgiphhbaa

-- LawRT
namespace Go.Proofs.Ytagmgpdgiphhbaa
open Go.RowKit
set_option linter.unusedVariables false

def worL (ps l : List Int) : Int := openL l * ps.getD (l.getD 4 0 - 1).toNat 0 / 10000
theorem idxF_at {fs : List (List Int)} (hn : (idsOf fs).Nodup) {x k : Nat} (hx : x < fs.length) : idxF ((fs.getD x []).getD 0 0) fs k = ((k + x : Nat) : Int) := by
  induction fs generalizing x k with
  | nil => simp at hx
  | cons l fs ih =>
    have e : idsOf (l :: fs) = l.getD 0 0 :: idsOf fs := rfl
    rw [e, List.nodup_cons] at hn
    unfold idxF
    cases x with
    | zero => rw [List.getD_cons_zero, if_pos rfl]; simp
    | succ x =>
      have hx' : x < fs.length := by simpa using hx
      rw [List.getD_cons_succ, if_neg, ih hn.2 hx']
      · congr 1; omega
      · intro e
        exact hn.1 (by rw [e]; exact List.mem_map.2 ⟨_, getF_mem hx', rfl⟩)
theorem checks_nodup {fs : List (List Int)} (h : checksE fs = 0) : (idsOf fs).Nodup := by
  unfold checksE at h
  split at h
  · cases h
  · exact (ids_ok.1 h).2.1
theorem opn_mem {fs : List (List Int)} (x : Fin fs.length) : x ∈ opn fs fs.length ↔ 0 < openL (fs.getD x.1 []) := by
  unfold opn
  rw [List.take_of_length_le (by simp), List.mem_filter]
  simp
theorem srt_uniq {ps : List Int} {fs : List (List Int)} : ∀ {p q : List (List Int)}, p.Perm q → (∀ a ∈ p, ∃ i v : Int, a = [i, v]) → p.Pairwise (fun x y => ¬ ahdW y x) → q.Pairwise (fun x y => ¬ ahdW y x) → p = q
  | [], q, h, _, _, _ => (List.perm_nil.1 h.symm).symm
  | a :: p, [], h, _, _, _ => absurd h.length_eq (by simp)
  | a :: p, b :: q, h, hf, h1, h2 => by
    have hab : a = b := by
      have m1 : a ∈ b :: q := h.mem_iff.1 (by simp)
      have m2 : b ∈ a :: p := h.mem_iff.2 (by simp)
      rcases List.mem_cons.1 m1 with e | m1
      · exact e
      · rcases List.mem_cons.1 m2 with e | m2
        · exact e.symm
        · have n1 := (List.pairwise_cons.1 h1).1 b m2
          have n2 := (List.pairwise_cons.1 h2).1 a m1
          obtain ⟨i, v, rfl⟩ := hf a (by simp)
          obtain ⟨j, u, rfl⟩ := hf b (by simp [m2])
          unfold ahdW at n1 n2
          simp only [List.getD_cons_succ, List.getD_cons_zero] at n1 n2
          obtain rfl : i = j := by omega
          obtain rfl : v = u := by omega
          rfl
    subst hab
    rw [srt_uniq (ps := ps) (fs := fs) ((List.perm_cons a).1 h) (fun c hc => hf c (by simp [hc])) (List.pairwise_cons.1 h1).2 (List.pairwise_cons.1 h2).2]
/-- what Top answers, of sorted values: the numbers; and the value at a place -/
def topN (qs : List (List Int)) (m : Int) : List Int := (qs.take m.toNat).map fun l => l.getD 0 0
def topV (qs : List (List Int)) (j : Nat) : Int := (qs.getD j []).getD 1 0
def lastV (V : Nat → Int) (k : Nat) : Int := if k = 0 then -1 else V (k - 1)
structure TopOk (ps : List Int) (fs : List (List Int)) (m : Int) (TL : List Int) (V : Nat → Int) : Prop where
  len : (TL.length : Int) ≤ m
  l60 : TL.length ≤ 60
  at' : ∀ i, i < TL.length → ∃ kx, kx < fs.length ∧ idxF (TL.getD i 0) fs 0 = ((kx : Nat) : Int) ∧ 0 < openL (fs.getD kx []) ∧ worL ps (fs.getD kx []) = V i
  dn : ∀ i, i + 1 < TL.length → V (i + 1) ≤ V i
  ge : ∀ i, i < TL.length → 0 ≤ V i
  out : ∀ x, x < fs.length → 0 < openL (fs.getD x []) → TL.contains ((fs.getD x []).getD 0 0) = false → ¬ (TL.length : Int) < m ∧ (0 < m → worL ps (fs.getD x []) ≤ lastV V TL.length)
theorem worL_ge {ps l : List Int} (hp : ∀ j, j < 20 → 0 ≤ ps.getD j 0 ∧ ps.getD j 0 ≤ 1099511627776) (hl : failEL l = 0) : 0 ≤ worL ps l := by
  have fb := fail_bd hl
  have := hp (l.getD 4 0 - 1).toNat (by omega)
  exact Int.ediv_nonneg (Int.mul_nonneg (openL_bd l).1 this.1) (by decide)
theorem top_is {ps : List Int} {fs : List (List Int)} {m : Int} (hE : topE fs ps m = 0) {qs : List (List Int)} (hp : qs.Perm (wortT ps fs (opn fs fs.length))) (hs : qs.Pairwise (fun x y => ¬ ahdW y x)) : TopOk ps fs m (topN qs m) (topV qs) := by
  obtain ⟨h1, h2, h3, h4⟩ := topE_0 hE
  obtain ⟨h60, hfl⟩ := checksE_0 h1
  obtain ⟨h20, hpr⟩ := prsE_0 h2
  have hn := checks_nodup h1
  have hql : qs.length ≤ 60 := by
    rw [hp.length_eq]; unfold wortT; rw [List.length_map]; have := opn_len fs fs.length; omega
  have hl : (topN qs m).length = min m.toNat qs.length := by unfold topN; rw [List.length_map, List.length_take]
  have hat : ∀ i, i < qs.length → ∃ x : Fin fs.length, 0 < openL (fs.getD x.1 []) ∧ qs.getD i [] = wortL ps (fs.getD x.1 []) := by
    intro i hi
    have hm : qs.getD i [] ∈ qs := getF_mem hi
    obtain ⟨x, hx, e⟩ := List.mem_map.1 (hp.mem_iff.1 hm)
    exact ⟨x, (opn_mem x).1 hx, e.symm⟩
  have hord : ∀ i j, i < j → j < qs.length → topV qs j ≤ topV qs i := by
    intro i j hij hj
    have := (List.pairwise_iff_getElem.1 hs) i j (by omega) hj hij
    unfold topV
    rw [List.getD_eq_getElem?_getD (l := qs), List.getElem?_eq_getElem hj, List.getD_eq_getElem?_getD (l := qs) (i := i), List.getElem?_eq_getElem (by omega : i < qs.length)]
    unfold ahdW at this
    simp only [Option.getD_some]
    omega
  have hT : ∀ i, i < (topN qs m).length → (topN qs m).getD i 0 = (qs.getD i []).getD 0 0 := by
    intro i hi
    rw [hl] at hi
    unfold topN
    rw [List.getD_eq_getElem?_getD, List.getElem?_map, List.getElem?_take_of_lt (by omega), List.getD_eq_getElem?_getD (l := qs), List.getElem?_eq_getElem (by omega : i < qs.length)]
    rfl
  refine ⟨by omega, by omega, fun i hi => ?_, fun i hi => hord i (i + 1) (by omega) (by omega), fun i hi => ?_, fun x hx ho hc => ?_⟩
  · obtain ⟨x, ho, e⟩ := hat i (by omega)
    refine ⟨x.1, x.2, ?_, ho, ?_⟩
    · rw [hT i hi, e]
      have := idxF_at hn (k := 0) x.2
      rw [Nat.zero_add] at this
      exact this
    · unfold topV; rw [e]; rfl
  · obtain ⟨x, ho, e⟩ := hat i (by omega)
    unfold topV; rw [e]
    exact worL_ge hpr (hfl _ (getF_mem x.2))
  · have hm : wortL ps (fs.getD x []) ∈ qs := hp.mem_iff.2 (List.mem_map.2 ⟨⟨x, hx⟩, (opn_mem ⟨x, hx⟩).2 ho, rfl⟩)
    obtain ⟨j, hj, e⟩ := List.mem_iff_getElem.1 hm
    have ej : qs.getD j [] = wortL ps (fs.getD x []) := by rw [List.getD_eq_getElem?_getD, List.getElem?_eq_getElem hj]; exact e
    have hjm : ¬ j < (topN qs m).length := by
      intro hjl
      have h0 : (topN qs m).getD j 0 = (fs.getD x []).getD 0 0 := by rw [hT j hjl, ej]; rfl
      have : (fs.getD x []).getD 0 0 ∈ topN qs m := by
        rw [← h0, List.getD_eq_getElem?_getD, List.getElem?_eq_getElem hjl]; simp
      rw [List.contains_iff_mem.2 this] at hc
      cases hc
    refine ⟨by omega, fun hm0 => ?_⟩
    have : worL ps (fs.getD x []) = topV qs j := by unfold topV; rw [ej]; rfl
    unfold lastV
    rw [this, if_neg (by omega)]
    by_cases e : j = (topN qs m).length - 1
    · omega
    · exact hord _ j (by omega) hj
theorem topN_take {qs : List (List Int)} {m f : Int} (h : f ≤ m) : topN qs f = (topN qs m).take (topN qs f).length ∧ (topN qs f).length ≤ (topN qs m).length := by
  have hl : ∀ m : Int, (topN qs m).length = min m.toNat qs.length := fun m => by unfold topN; rw [List.length_map, List.length_take]
  refine ⟨?_, by rw [hl, hl]; omega⟩
  rw [hl]
  unfold topN
  rw [← List.map_take, List.take_take]
  congr 1
  rw [show min (min f.toNat qs.length) m.toNat = min f.toNat qs.length by omega]
  by_cases e : f.toNat ≤ qs.length
  · rw [Nat.min_eq_left e]
  · rw [Nat.min_eq_right (by omega), List.take_of_length_le (by omega), List.take_length]
theorem reads_take {w : World} {a : Option Addr} {n cap k : Nat} {zs : List Int} (h : Reads w (.slice a n cap) zs) (hk : k ≤ zs.length) : Reads w (.slice a k cap) (zs.take k) := by
  have hl := h.len
  rcases h.cell with ⟨rfl, a', cap', e⟩ | ⟨h0, b, off, cap', e, hc⟩
  · obtain rfl : k = 0 := by simpa using hk
    simpa using reads_nil w a cap
  · injection e with e1 _ e3
    subst e1 e3
    have : (zs.take k).length = k := by rw [List.length_take]; omega
    have r := reads_mk (w := w) (b := b) (off := off) (cap := cap) (zs := zs.take k) rfl (by rw [this]; exact Nat.le_trans hk hl) (fun j hj => by
      rw [this] at hj
      rw [hc j (by omega), List.getD_eq_getElem?_getD, List.getD_eq_getElem?_getD, List.getElem?_take_of_lt hj])
    rw [this] at r
    exact r
theorem wort_form {ps : List Int} {fs : List (List Int)} {xs : List (Fin fs.length)} : ∀ a ∈ wortT ps fs xs, ∃ i v : Int, a = [i, v] := fun a ha => by
  obtain ⟨x, _, rfl⟩ := List.mem_map.1 ha
  exact ⟨_, _, rfl⟩
/-- Top's answers at one order of the values, whatever it is -/
def TopAt (qs : List (List Int)) (fv pv : Value) (ps : List Int) (fs : List (List Int)) : Prop := ∀ (m : Int) (w : World), ReadsF w fv fs → Reads w pv ps → topE fs ps m = 0 → Calls Try.prog 6 #[fv, pv, .int .i64 m] w fun e w' => ∃ a cap, e = .returned (.tuple #[.slice a (topN qs m).length cap, .int .i64 0]) ∧ (topN qs m).length ≤ cap ∧ Reads w' (.slice a (topN qs m).length cap) (topN qs m) ∧ Kpt w w'

def leW (x y : List Int) : Bool := decide (¬ (x.getD 1 0 < y.getD 1 0 ∨ (y.getD 1 0 = x.getD 1 0 ∧ y.getD 0 0 < x.getD 0 0)))
/-- the values in their order -/
def qsO (ps : List Int) (fs : List (List Int)) : List (List Int) := (wortT ps fs (opn fs fs.length)).mergeSort leW
theorem qsO_is (ps : List Int) (fs : List (List Int)) : (qsO ps fs).Perm (wortT ps fs (opn fs fs.length)) ∧ (qsO ps fs).Pairwise (fun x y => ¬ ahdW y x) := by
  refine ⟨List.mergeSort_perm _ _, ?_⟩
  have h := List.pairwise_mergeSort (le := leW) (fun a b c h1 h2 => by
    unfold leW at *
    simp only [decide_eq_true_eq] at *
    omega) (fun a b => by
    unfold leW
    simp only [Bool.or_eq_true, decide_eq_true_eq]
    omega) (wortT ps fs (opn fs fs.length))
  exact h.imp fun h => by unfold leW at h; unfold ahdW; exact of_decide_eq_true h
theorem top_at (fv pv : Value) (ps : List Int) (fs : List (List Int)) : TopAt (qsO ps fs) fv pv ps fs := by
  intro m w hF hP hE
  obtain ⟨a2, cap2, rfl, -⟩ := id hF
  obtain ⟨a3, cap3, rfl, -⟩ := id hP
  refine (top_ok m a2 a3 cap2 cap3 ps fs w hF hP hE).mono ?_
  rintro e w' ⟨⟨v, qs, hp, hs, rfl, ho⟩, hk⟩
  have e : qs = qsO ps fs := srt_uniq (ps := ps) (fs := fs) (hp.trans (qsO_is ps fs).1.symm) (fun a ha => wort_form a (hp.mem_iff.1 ha)) hs (qsO_is ps fs).2
  rw [e] at ho
  obtain ⟨a, cap, rfl, hc, hr⟩ := ho.readsCap
  exact ⟨a, cap, rfl, hc, hr, hk⟩
theorem fl10 {w w' : World} {g o : Nat} {l : List Int} (h : FlAt w g o l) (k : Kpt w w') : w'.cell? ⟨g, o, none⟩ = some (.int .i64 (l.getD 0 0)) ∧ w'.cell? ⟨g, o + 1, none⟩ = some (.int .i64 (l.getD 1 0)) ∧ w'.cell? ⟨g, o + 2, none⟩ = some (.int .i64 (l.getD 2 0)) ∧ w'.cell? ⟨g, o + 3, none⟩ = some (.int .i64 (l.getD 3 0)) ∧ w'.cell? ⟨g, o + 4, none⟩ = some (.int .i64 (l.getD 4 0)) ∧ w'.cell? ⟨g, o + 5, none⟩ = some (.int .i64 (l.getD 5 0)) ∧ w'.cell? ⟨g, o + 6, none⟩ = some (.int .i64 (l.getD 6 0)) ∧ w'.cell? ⟨g, o + 7, none⟩ = some (.int .i64 (l.getD 7 0)) ∧ w'.cell? ⟨g, o + 8, none⟩ = some (.int .i64 (l.getD 8 0)) ∧ w'.cell? ⟨g, o + 9, none⟩ = some (.int .i64 (l.getD 9 0)) := by
  have h' := h.kpt k
  exact ⟨h' 0 (by decide), h' 1 (by decide), h' 2 (by decide), h' 3 (by decide), h' 4 (by decide), h' 5 (by decide), h' 6 (by decide), h' 7 (by decide), h' 8 (by decide), h' 9 (by decide)⟩

end Go.Proofs.Ytagmgpdgiphhbaa
