/-
  Merged: RefPart, RefPart2.
-/
import Derived.Test.YtgccipmeiceonaaRefChk
-- RefPart
namespace Go.Proofs.Ytgccipmeiceonaa
open Go.RowKit
set_option linter.unusedVariables false

/-- what partOf answers -/
def PartOfIs (a b c : Nat) (q r : Int) : Prop := (a * b / c ≤ 2305843009213693952 ∧ q = ((a * b / c : Nat) : Int) ∧ r = ((a * b % c : Nat) : Int)) ∨ (2305843009213693952 < a * b / c ∧ q = -1 ∧ r = 0)
def SomePart (a b c : Nat) (w : World) (e : Ending) (w' : World) : Prop := (∃ q r : Int, e = .returned (.tuple #[.int .i64 q, .int .i64 r]) ∧ PartOfIs a b c q r) ∧ w = w'
theorem part_grows {a b c m : Nat} : a * (b / 2 ^ m) / c ≤ a * b / c := Nat.div_le_div_right (Nat.mul_le_mul_left a (Nat.div_le_self b _))

set_option maxHeartbeats 1000000 in
theorem partOf_any (a b c : Nat) (ha : a ≤ 1152921504606846976) (hb : b ≤ 1099511627776) (hc : 1 ≤ c) (hc' : c ≤ 70368744177664) (w : World) :
    Calls Try.prog 77 #[.int .i64 a, .int .i64 b, .int .i64 c] w (SomePart a b c w) := by
  go_enter Try.func77, Try.ntmps77
  go_wp2
  go_loop [8, 9, 10] (fun s t i => ∃ k q r : Nat, k ≤ 41 ∧ i = .int .i64 ((k : Int) - 1) ∧ s = .int .i64 q ∧ t = .int .i64 r ∧ q ≤ 2305843009213693952 ∧ Hid (q = a * (b / 2 ^ k) / c) ∧ Hid (r = a * (b / 2 ^ k) % c)) (fun _ _ i => (intOf i + 1).toNat)
  case atStart =>
    have h41 : b / 2 ^ 41 = 0 := Nat.div_eq_of_lt (by omega)
    exact ⟨41, 0, 0, by omega, rfl, rfl, rfl, by omega, by unfold Hid; rw [h41]; simp, by unfold Hid; rw [h41]; simp⟩
  case round =>
    obtain ⟨k, q, r, hk, rfl, rfl, rfl, hq, HQ, HR⟩ := hrel
    by_cases h0 : 0 < k
    · obtain ⟨m, rfl⟩ : ∃ m, k = m + 1 := ⟨k - 1, by omega⟩
      have em : ((m + 1 : Nat) : Int) - 1 = (m : Int) := by omega
      obtain ⟨B, x, y, d0, r0, d1, r1, e1, e2, e3, e4, e5, e6, e7, hx, hy, hd0, hd1, hr0, hr1, hr, hB, hs0, hs1⟩ := part_step hc hc' ha HQ.out HR.out
      have HB := Lib.hid hB
      clear hB HQ HR
      rcases dec_of (B % 2 = 0) with ⟨-, hb2⟩ | ⟨-, hb2⟩
      · have HS := Lib.hid (hs1 hb2)
        have t1 : ((B : Int) % 2 == 1) = true := by simp; omega
        clear hs0 hs1 hb2
        rcases dec_of (2305843009213693952 < 2 * (q : Int) + (x : Int) + (d1 : Int)) with ⟨hdd, hd⟩ | ⟨hdd, hd⟩
        · go_wp2
          go_round
          case rel => exact ⟨m, 2 * q + x + d1, r1, by omega, rfl, by go_num, by rw [e7], by omega, by unfold Hid; rw [HS.out.1, HB.out], by unfold Hid; rw [HS.out.2, HB.out]⟩
          case measure => simp [intOf]
        · have HG : Hid (2305843009213693952 < a * b / c) := (by
            have h1 := HS.out.1
            have h2 := part_grows (a := a) (b := b) (c := c) (m := m)
            rw [← HB.out, ← h1] at h2
            omega : 2305843009213693952 < a * b / c)
          go_wp2
          go_ret2
          exact ⟨⟨-1, 0, rfl, .inr ⟨HG.out, rfl, rfl⟩⟩, rfl⟩
      · have HS := Lib.hid (hs0 hb2)
        have t1 : ((B : Int) % 2 == 1) = false := by simp; omega
        clear hs0 hs1 hb2
        rcases dec_of (2305843009213693952 < 2 * (q : Int) + (d0 : Int)) with ⟨hdd, hd⟩ | ⟨hdd, hd⟩
        · go_wp2
          go_round
          case rel => exact ⟨m, 2 * q + d0, r0, by omega, rfl, by go_num, by rw [e5], by omega, by unfold Hid; rw [HS.out.1, HB.out], by unfold Hid; rw [HS.out.2, HB.out]⟩
          case measure => simp [intOf]
        · have HG : Hid (2305843009213693952 < a * b / c) := (by
            have h1 := HS.out.1
            have h2 := part_grows (a := a) (b := b) (c := c) (m := m)
            rw [← HB.out, ← h1] at h2
            omega : 2305843009213693952 < a * b / c)
          go_wp2
          go_ret2
          exact ⟨⟨-1, 0, rfl, .inr ⟨HG.out, rfl, rfl⟩⟩, rfl⟩
    · obtain rfl : k = 0 := by omega
      have h1 := HQ.out
      have h2 := HR.out
      rw [Nat.pow_zero, Nat.div_one] at h1 h2
      have H1 := Lib.hid h1
      have H2 := Lib.hid h2
      clear h1 h2 HQ HR
      go_wp2
      go_ret2
      exact ⟨⟨q, r, rfl, .inl ⟨by rw [← H1.out]; exact hq, by rw [← H1.out], by rw [← H2.out]⟩⟩, rfl⟩

def RPart (a b c q r E : Int) : Prop := ∀ w, Calls Try.prog 63 #[.int .i64 a, .int .i64 b, .int .i64 c] w fun e w' => e = .returned (.tuple #[.int .i64 q, .int .i64 r, .int .i64 E]) ∧ w = w'
theorem RPart.run {a b c q r E : Int} (h : RPart a b c q r E) (w : World) : Calls Try.prog 63 #[.int .i64 a, .int .i64 b, .int .i64 c] w fun e w' => e = .returned (.tuple #[.int .i64 q, .int .i64 r, .int .i64 E]) ∧ w = w' := h w

theorem rpart_err (a b c : Int) (h : amtB a = false ∨ rngB b c = false) : RPart a b c 0 0 3 := by
  intro w
  cases ha : amtB a with
  | false =>
    clear h
    go_enter Try.func63, Try.ntmps63
    go_wp2_with (go_at_call 108; (with_reducible refine (rchk_no _ _ ha).mono ?_); rintro e w' ⟨rfl, rfl⟩)
    go_ret3
    exact ⟨rfl, rfl⟩
  | true =>
    have hr : rngB b c = false := h.resolve_left (by rw [ha]; decide)
    have hr' := rng_f hr
    clear h hr
    by_cases hb : 0 ≤ b ∧ b ≤ 1099511627776
    · have hc : c < 1 ∨ 1099511627776 < c := by omega
      have HC := Lib.hid hc
      clear hr' hc
      go_enter Try.func63, Try.ntmps63
      go_wp2_with (first
        | (go_at_call 108; (with_reducible refine (rchk_ok _ _ ha).mono ?_); rintro e w' ⟨rfl, rfl⟩)
        | (go_at_call 61; (with_reducible refine (between_t b _ _ _ (by omega) (by omega)).mono ?_); rintro e w' ⟨rfl, rfl⟩)
        | (go_at_call 61; (with_reducible refine (between_f c _ _ _ HC.out).mono ?_); rintro e w' ⟨rfl, rfl⟩))
      go_ret3
      exact ⟨rfl, rfl⟩
    · go_enter Try.func63, Try.ntmps63
      go_wp2_with (first
        | (go_at_call 108; (with_reducible refine (rchk_ok _ _ ha).mono ?_); rintro e w' ⟨rfl, rfl⟩)
        | (go_at_call 61; (with_reducible refine (between_f b _ _ _ (by omega)).mono ?_); rintro e w' ⟨rfl, rfl⟩))
      go_ret3
      exact ⟨rfl, rfl⟩

end Go.Proofs.Ytgccipmeiceonaa

-- RefPart2
namespace Go.Proofs.Ytgccipmeiceonaa
open Go.RowKit
set_option linter.unusedVariables false

theorem partOf_ok (a b c q r : Nat) (hq : q = a * b / c) (hr : r = a * b % c) (ha : a ≤ 1152921504606846976) (hb : b ≤ 1099511627776) (hc : 1 ≤ c) (hc' : c ≤ 70368744177664) (h : q ≤ 2305843009213693952) (w : World) :
    Calls Try.prog 77 #[.int .i64 a, .int .i64 b, .int .i64 c] w fun e w' => e = .returned (.tuple #[.int .i64 q, .int .i64 r]) ∧ w = w' := by
  refine (partOf_any a b c ha hb hc hc' w).mono ?_
  rintro e w' ⟨⟨q', r', rfl, h'⟩, rfl⟩
  rcases h' with ⟨_, h1, h2⟩ | ⟨h1, _⟩
  · exact ⟨by rw [h1, h2, ← hq, ← hr], rfl⟩
  · rw [← hq] at h1; omega
theorem partOf_no (a b c : Nat) (ha : a ≤ 1152921504606846976) (hb : b ≤ 1099511627776) (hc : 1 ≤ c) (hc' : c ≤ 70368744177664) (h : 2305843009213693952 < a * b / c) (w : World) :
    Calls Try.prog 77 #[.int .i64 a, .int .i64 b, .int .i64 c] w fun e w' => e = .returned (.tuple #[.int .i64 (-1), .int .i64 0]) ∧ w = w' := by
  refine (partOf_any a b c ha hb hc hc' w).mono ?_
  rintro e w' ⟨⟨q', r', rfl, h'⟩, rfl⟩
  rcases h' with ⟨h1, _⟩ | ⟨_, h1, h2⟩
  · omega
  · exact ⟨by rw [h1, h2], rfl⟩

/-- the walk of MoneyPart where partOf answers q and r, for an amount from 0 on -/
theorem rpart_pos (a b c q r : Nat) (C : ∀ w, Calls Try.prog 77 #[.int .i64 a, .int .i64 b, .int .i64 c] w fun e w' => e = .returned (.tuple #[.int .i64 q, .int .i64 r]) ∧ w = w') (ha : a ≤ 1152921504606846976) (hb : b ≤ 1099511627776) (hc : 1 ≤ c) (hc' : c ≤ 1099511627776) (hq : q ≤ 2305843009213693952) (hr : r < c) :
    (amtB (q : Int) = true ∧ RPart a b c q r 0) ∨ (amtB (q : Int) = false ∧ RPart a b c 0 0 8) := by
  have CH := Lib.hid C
  clear C
  cases hA : amtB (q : Int) with
  | true =>
    refine .inl ⟨rfl, fun w => ?_⟩
    go_enter Try.func63, Try.ntmps63
    go_wp2_with (first
      | (go_at_call 108; (with_reducible refine (rchk_ok (q : Int) _ hA).mono ?_); rintro e w' ⟨rfl, rfl⟩)
      | (go_at_call 108; (with_reducible refine (rchk_ok (a : Int) _ (amt_mk (by omega) (by omega))).mono ?_); rintro e w' ⟨rfl, rfl⟩)
      | (go_at_call 61; (with_reducible refine (between_t (b : Int) _ _ _ (by omega) (by omega)).mono ?_); rintro e w' ⟨rfl, rfl⟩)
      | (go_at_call 61; (with_reducible refine (between_t (c : Int) _ _ _ (by omega) (by omega)).mono ?_); rintro e w' ⟨rfl, rfl⟩)
      | (go_at_call 77; (with_reducible refine (CH.out _).mono ?_); rintro e w' ⟨rfl, rfl⟩))
    go_ret3
    exact ⟨rfl, rfl⟩
  | false =>
    refine .inr ⟨rfl, fun w => ?_⟩
    go_enter Try.func63, Try.ntmps63
    go_wp2_with (first
      | (go_at_call 108; (with_reducible refine (rchk_no (q : Int) _ hA).mono ?_); rintro e w' ⟨rfl, rfl⟩)
      | (go_at_call 108; (with_reducible refine (rchk_ok (a : Int) _ (amt_mk (by omega) (by omega))).mono ?_); rintro e w' ⟨rfl, rfl⟩)
      | (go_at_call 61; (with_reducible refine (between_t (b : Int) _ _ _ (by omega) (by omega)).mono ?_); rintro e w' ⟨rfl, rfl⟩)
      | (go_at_call 61; (with_reducible refine (between_t (c : Int) _ _ _ (by omega) (by omega)).mono ?_); rintro e w' ⟨rfl, rfl⟩)
      | (go_at_call 77; (with_reducible refine (CH.out _).mono ?_); rintro e w' ⟨rfl, rfl⟩))
    go_ret3
    exact ⟨rfl, rfl⟩

/-- for an amount from 0 on that is too much -/
theorem rpart_far (a b c : Nat) (s : Int) (hs : s = (a : Int) ∨ (s = -(a : Int) ∧ 1 ≤ a)) (C : ∀ w, Calls Try.prog 77 #[.int .i64 a, .int .i64 b, .int .i64 c] w fun e w' => e = .returned (.tuple #[.int .i64 (-1), .int .i64 0]) ∧ w = w') (ha : a ≤ 1152921504606846976) (hb : b ≤ 1099511627776) (hc : 1 ≤ c) (hc' : c ≤ 1099511627776) : RPart s b c 0 0 8 := by
  have CH := Lib.hid C
  clear C
  intro w
  rcases hs with rfl | ⟨rfl, hs⟩
  all_goals
    go_enter Try.func63, Try.ntmps63
    go_wp2_with (first
      | (go_at_call 108; (with_reducible refine (rchk_ok _ _ (amt_mk (by omega) (by omega))).mono ?_); rintro e w' ⟨rfl, rfl⟩)
      | (go_at_call 61; (with_reducible refine (between_t (b : Int) _ _ _ (by omega) (by omega)).mono ?_); rintro e w' ⟨rfl, rfl⟩)
      | (go_at_call 61; (with_reducible refine (between_t (c : Int) _ _ _ (by omega) (by omega)).mono ?_); rintro e w' ⟨rfl, rfl⟩)
      | (go_at_call 77; (with_reducible refine (CH.out _).mono ?_); rintro e w' ⟨rfl, rfl⟩))
    go_ret3
    exact ⟨rfl, rfl⟩

/-- for an amount below 0: q' and r' are what is answered -/
theorem rpart_neg (a b c q r : Nat) (q' r' : Int) (hz : (r = 0 ∧ q' = -(q : Int) ∧ r' = 0) ∨ (1 ≤ r ∧ q' = -(q : Int) - 1 ∧ r' = (c : Int) - (r : Int))) (C : ∀ w, Calls Try.prog 77 #[.int .i64 a, .int .i64 b, .int .i64 c] w fun e w' => e = .returned (.tuple #[.int .i64 q, .int .i64 r]) ∧ w = w') (ha0 : 1 ≤ a) (ha : a ≤ 1152921504606846976) (hb : b ≤ 1099511627776) (hc : 1 ≤ c) (hc' : c ≤ 1099511627776) (hq : q ≤ 2305843009213693952) (hr : r < c) :
    (amtB q' = true ∧ RPart (-(a : Int)) b c q' r' 0) ∨ (amtB q' = false ∧ RPart (-(a : Int)) b c 0 0 8) := by
  have CH := Lib.hid C
  clear C
  cases hA : amtB q' with
  | true =>
    refine .inl ⟨rfl, fun w => ?_⟩
    rcases hz with ⟨rfl, rfl, rfl⟩ | ⟨h1, rfl, rfl⟩
    all_goals
      go_enter Try.func63, Try.ntmps63
      go_wp2_with (first
        | (go_at_call 108; (with_reducible refine (rchk_ok _ _ hA).mono ?_); rintro e w' ⟨rfl, rfl⟩)
        | (go_at_call 108; (with_reducible refine (rchk_ok (-(a : Int)) _ (amt_mk (by omega) (by omega))).mono ?_); rintro e w' ⟨rfl, rfl⟩)
        | (go_at_call 61; (with_reducible refine (between_t (b : Int) _ _ _ (by omega) (by omega)).mono ?_); rintro e w' ⟨rfl, rfl⟩)
        | (go_at_call 61; (with_reducible refine (between_t (c : Int) _ _ _ (by omega) (by omega)).mono ?_); rintro e w' ⟨rfl, rfl⟩)
        | (go_at_call 77; (with_reducible refine (CH.out _).mono ?_); rintro e w' ⟨rfl, rfl⟩))
      go_ret3
      exact ⟨rfl, rfl⟩
  | false =>
    refine .inr ⟨rfl, fun w => ?_⟩
    rcases hz with ⟨rfl, rfl, rfl⟩ | ⟨h1, rfl, rfl⟩
    all_goals
      go_enter Try.func63, Try.ntmps63
      go_wp2_with (first
        | (go_at_call 108; (with_reducible refine (rchk_no _ _ hA).mono ?_); rintro e w' ⟨rfl, rfl⟩)
        | (go_at_call 108; (with_reducible refine (rchk_ok (-(a : Int)) _ (amt_mk (by omega) (by omega))).mono ?_); rintro e w' ⟨rfl, rfl⟩)
        | (go_at_call 61; (with_reducible refine (between_t (b : Int) _ _ _ (by omega) (by omega)).mono ?_); rintro e w' ⟨rfl, rfl⟩)
        | (go_at_call 61; (with_reducible refine (between_t (c : Int) _ _ _ (by omega) (by omega)).mono ?_); rintro e w' ⟨rfl, rfl⟩)
        | (go_at_call 77; (with_reducible refine (CH.out _).mono ?_); rintro e w' ⟨rfl, rfl⟩))
      go_ret3
      exact ⟨rfl, rfl⟩

theorem far_amt {q : Nat} (h : 2305843009213693952 < q) : amtB (q : Int) = false ∧ amtB (-(q : Int)) = false ∧ amtB (-(q : Int) - 1) = false := ⟨amt_no (by omega), amt_no (by omega), amt_no (by omega)⟩

/-- MoneyPart of the document, at numbers that may stand there -/
theorem rpart_in (a b c : Int) (ha : amtB a = true) (hr : rngB b c = true) :
    (amtB (a * b / c) = true ∧ RPart a b c (a * b / c) (a * b % c) 0) ∨ (amtB (a * b / c) = false ∧ RPart a b c 0 0 8) := by
  obtain ⟨hb0, hb1, hc0, hc1⟩ := rng_t hr
  obtain ⟨ha0, ha1⟩ := amt_t ha
  obtain ⟨b, rfl⟩ := Int.eq_ofNat_of_zero_le hb0
  obtain ⟨c, rfl⟩ := Int.eq_ofNat_of_zero_le (show 0 ≤ c by omega)
  have hcn : 1 ≤ c := by omega
  by_cases h0 : 0 ≤ a
  · obtain ⟨a, rfl⟩ := Int.eq_ofNat_of_zero_le h0
    have e1 : (a : Int) * (b : Int) / (c : Int) = ((a * b / c : Nat) : Int) := by rw [Int.natCast_ediv, Int.natCast_mul]
    have e2 : (a : Int) * (b : Int) % (c : Int) = ((a * b % c : Nat) : Int) := by rw [Int.natCast_emod, Int.natCast_mul]
    rw [e1, e2]
    by_cases hf : 2305843009213693952 < a * b / c
    · exact .inr ⟨(far_amt hf).1, rpart_far a b c _ (.inl rfl) (fun w => partOf_no a b c (by omega) (by omega) hcn (by omega) hf w) (by omega) (by omega) hcn (by omega)⟩
    · exact rpart_pos a b c _ _ (fun w => partOf_ok a b c _ _ rfl rfl (by omega) (by omega) hcn (by omega) (Nat.le_of_not_lt hf) w) (by omega) (by omega) hcn (by omega) (Nat.le_of_not_lt hf) (Nat.mod_lt _ hcn)
  · obtain ⟨n, hn⟩ := Int.eq_ofNat_of_zero_le (show 0 ≤ -a by omega)
    obtain rfl : a = -(n : Int) := by omega
    have e0 : -(n : Int) * (b : Int) = -((n * b : Nat) : Int) := by rw [Int.neg_mul, Int.natCast_mul]
    rw [e0]
    by_cases hf : 2305843009213693952 < n * b / c
    · refine .inr ⟨?_, rpart_far n b c _ (.inr ⟨rfl, by omega⟩) (fun w => partOf_no n b c (by omega) (by omega) hcn (by omega) hf w) (by omega) (by omega) hcn (by omega)⟩
      by_cases hz : n * b % c = 0
      · rw [(neg_div_zero hcn hz).1]; exact (far_amt hf).2.1
      · rw [(neg_div_rest hcn hz).1]; exact (far_amt hf).2.2
    · have C := fun w => partOf_ok n b c _ _ rfl rfl (by omega) (by omega) hcn (by omega) (Nat.le_of_not_lt hf) w
      refine rpart_neg n b c _ _ _ _ ?_ C (by omega) (by omega) (by omega) hcn (by omega) (Nat.le_of_not_lt hf) (Nat.mod_lt _ hcn)
      by_cases hz : n * b % c = 0
      · exact .inl ⟨hz, (neg_div_zero hcn hz).1, (neg_div_zero hcn hz).2⟩
      · exact .inr ⟨Nat.pos_of_ne_zero hz, (neg_div_rest hcn hz).1, (neg_div_rest hcn hz).2⟩

/-- both ways of taking a part answer the same -/
theorem part_both (a b c : Int) : ∃ q r E, PartAny a b c q r E ∧ RPart a b c q r E := by
  rcases part_res a b c with ⟨ha, hr, hq, h⟩ | ⟨E, _, _, h, hE⟩
  · rcases rpart_in a b c ha hr with ⟨_, g⟩ | ⟨g, _⟩
    · exact ⟨_, _, 0, h, g⟩
    · rw [hq] at g; cases g
  · rcases hE with ⟨rfl, k⟩ | ⟨rfl, ha, hr, hq⟩
    · exact ⟨0, 0, 3, h, rpart_err a b c k⟩
    · rcases rpart_in a b c ha hr with ⟨g, _⟩ | ⟨_, g⟩
      · rw [hq] at g; cases g
      · exact ⟨0, 0, 8, h, g⟩

end Go.Proofs.Ytgccipmeiceonaa
