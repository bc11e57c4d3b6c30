/-
  MoneyPart and MoneyNear of package demurrageref answer as Part and Near do.
-/
import Derived.Test.YtgccipmeiceonaaRefPart
namespace Go.Proofs.Ytgccipmeiceonaa
open Go.RowKit
set_option linter.unusedVariables false

theorem partOf_ok (a b c q r : Nat) (hq : q = a * b / c) (hr : r = a * b % c) (ha : a ≤ 1152921504606846976) (hb : b ≤ 1099511627776) (hc : 1 ≤ c) (hc' : c ≤ 70368744177664) (h : q ≤ 2305843009213693952) (w : World) :
    Calls Try.prog 77 #[.int .i64 a, .int .i64 b, .int .i64 c] w fun e w' => e = .returned (.tuple #[.int .i64 q, .int .i64 r]) ∧ w = w' := by
  refine (partOf_any a b c ha hb hc hc' w).mono ?_
  rintro e w' ⟨⟨q', r', rfl, h'⟩, rfl⟩
  rcases h' with ⟨_, h1, h2⟩ | ⟨h1, _⟩
  · exact ⟨by rw [h1, h2, ← hq, ← hr], rfl⟩
  · rw [← hq] at h1; omega
theorem partOf_no (a b c : Nat) (ha : a ≤ 1152921504606846976) (hb : b ≤ 1099511627776) (hc : 1 ≤ c) (hc' : c ≤ 70368744177664) (h : 2305843009213693952 < a * b / c) (w : World) :
    Calls Try.prog 77 #[.int .i64 a, .int .i64 b, .int .i64 c] w fun e w' => e = .returned (.tuple #[.int .i64 (-1), .int .i64 0]) ∧ w = w' := by
  refine (partOf_any a b c ha hb hc hc' w).mono ?_
  rintro e w' ⟨⟨q', r', rfl, h'⟩, rfl⟩
  rcases h' with ⟨h1, _⟩ | ⟨_, h1, h2⟩
  · omega
  · exact ⟨by rw [h1, h2], rfl⟩

/-- the walk of MoneyPart where partOf answers q and r, for an amount from 0 on -/
theorem rpart_pos (a b c q r : Nat) (C : ∀ w, Calls Try.prog 77 #[.int .i64 a, .int .i64 b, .int .i64 c] w fun e w' => e = .returned (.tuple #[.int .i64 q, .int .i64 r]) ∧ w = w') (ha : a ≤ 1152921504606846976) (hb : b ≤ 1099511627776) (hc : 1 ≤ c) (hc' : c ≤ 1099511627776) (hq : q ≤ 2305843009213693952) (hr : r < c) :
    (amtB (q : Int) = true ∧ RPart a b c q r 0) ∨ (amtB (q : Int) = false ∧ RPart a b c 0 0 8) := by
  have CH := Lib.hid C
  clear C
  cases hA : amtB (q : Int) with
  | true =>
    refine .inl ⟨rfl, fun w => ?_⟩
    go_enter Try.func63, Try.ntmps63
    go_wp2_with (first
      | (go_at_call 108; (with_reducible refine (rchk_ok (q : Int) _ hA).mono ?_); rintro e w' ⟨rfl, rfl⟩)
      | (go_at_call 108; (with_reducible refine (rchk_ok (a : Int) _ (amt_mk (by omega) (by omega))).mono ?_); rintro e w' ⟨rfl, rfl⟩)
      | (go_at_call 61; (with_reducible refine (between_t (b : Int) _ _ _ (by omega) (by omega)).mono ?_); rintro e w' ⟨rfl, rfl⟩)
      | (go_at_call 61; (with_reducible refine (between_t (c : Int) _ _ _ (by omega) (by omega)).mono ?_); rintro e w' ⟨rfl, rfl⟩)
      | (go_at_call 77; (with_reducible refine (CH.out _).mono ?_); rintro e w' ⟨rfl, rfl⟩))
    go_ret3
    exact ⟨rfl, rfl⟩
  | false =>
    refine .inr ⟨rfl, fun w => ?_⟩
    go_enter Try.func63, Try.ntmps63
    go_wp2_with (first
      | (go_at_call 108; (with_reducible refine (rchk_no (q : Int) _ hA).mono ?_); rintro e w' ⟨rfl, rfl⟩)
      | (go_at_call 108; (with_reducible refine (rchk_ok (a : Int) _ (amt_mk (by omega) (by omega))).mono ?_); rintro e w' ⟨rfl, rfl⟩)
      | (go_at_call 61; (with_reducible refine (between_t (b : Int) _ _ _ (by omega) (by omega)).mono ?_); rintro e w' ⟨rfl, rfl⟩)
      | (go_at_call 61; (with_reducible refine (between_t (c : Int) _ _ _ (by omega) (by omega)).mono ?_); rintro e w' ⟨rfl, rfl⟩)
      | (go_at_call 77; (with_reducible refine (CH.out _).mono ?_); rintro e w' ⟨rfl, rfl⟩))
    go_ret3
    exact ⟨rfl, rfl⟩

/-- for an amount from 0 on that is too much -/
theorem rpart_far (a b c : Nat) (s : Int) (hs : s = (a : Int) ∨ (s = -(a : Int) ∧ 1 ≤ a)) (C : ∀ w, Calls Try.prog 77 #[.int .i64 a, .int .i64 b, .int .i64 c] w fun e w' => e = .returned (.tuple #[.int .i64 (-1), .int .i64 0]) ∧ w = w') (ha : a ≤ 1152921504606846976) (hb : b ≤ 1099511627776) (hc : 1 ≤ c) (hc' : c ≤ 1099511627776) : RPart s b c 0 0 8 := by
  have CH := Lib.hid C
  clear C
  intro w
  rcases hs with rfl | ⟨rfl, hs⟩
  all_goals
    go_enter Try.func63, Try.ntmps63
    go_wp2_with (first
      | (go_at_call 108; (with_reducible refine (rchk_ok _ _ (amt_mk (by omega) (by omega))).mono ?_); rintro e w' ⟨rfl, rfl⟩)
      | (go_at_call 61; (with_reducible refine (between_t (b : Int) _ _ _ (by omega) (by omega)).mono ?_); rintro e w' ⟨rfl, rfl⟩)
      | (go_at_call 61; (with_reducible refine (between_t (c : Int) _ _ _ (by omega) (by omega)).mono ?_); rintro e w' ⟨rfl, rfl⟩)
      | (go_at_call 77; (with_reducible refine (CH.out _).mono ?_); rintro e w' ⟨rfl, rfl⟩))
    go_ret3
    exact ⟨rfl, rfl⟩

/-- for an amount below 0: q' and r' are what is answered -/
theorem rpart_neg (a b c q r : Nat) (q' r' : Int) (hz : (r = 0 ∧ q' = -(q : Int) ∧ r' = 0) ∨ (1 ≤ r ∧ q' = -(q : Int) - 1 ∧ r' = (c : Int) - (r : Int))) (C : ∀ w, Calls Try.prog 77 #[.int .i64 a, .int .i64 b, .int .i64 c] w fun e w' => e = .returned (.tuple #[.int .i64 q, .int .i64 r]) ∧ w = w') (ha0 : 1 ≤ a) (ha : a ≤ 1152921504606846976) (hb : b ≤ 1099511627776) (hc : 1 ≤ c) (hc' : c ≤ 1099511627776) (hq : q ≤ 2305843009213693952) (hr : r < c) :
    (amtB q' = true ∧ RPart (-(a : Int)) b c q' r' 0) ∨ (amtB q' = false ∧ RPart (-(a : Int)) b c 0 0 8) := by
  have CH := Lib.hid C
  clear C
  cases hA : amtB q' with
  | true =>
    refine .inl ⟨rfl, fun w => ?_⟩
    rcases hz with ⟨rfl, rfl, rfl⟩ | ⟨h1, rfl, rfl⟩
    all_goals
      go_enter Try.func63, Try.ntmps63
      go_wp2_with (first
        | (go_at_call 108; (with_reducible refine (rchk_ok _ _ hA).mono ?_); rintro e w' ⟨rfl, rfl⟩)
        | (go_at_call 108; (with_reducible refine (rchk_ok (-(a : Int)) _ (amt_mk (by omega) (by omega))).mono ?_); rintro e w' ⟨rfl, rfl⟩)
        | (go_at_call 61; (with_reducible refine (between_t (b : Int) _ _ _ (by omega) (by omega)).mono ?_); rintro e w' ⟨rfl, rfl⟩)
        | (go_at_call 61; (with_reducible refine (between_t (c : Int) _ _ _ (by omega) (by omega)).mono ?_); rintro e w' ⟨rfl, rfl⟩)
        | (go_at_call 77; (with_reducible refine (CH.out _).mono ?_); rintro e w' ⟨rfl, rfl⟩))
      go_ret3
      exact ⟨rfl, rfl⟩
  | false =>
    refine .inr ⟨rfl, fun w => ?_⟩
    rcases hz with ⟨rfl, rfl, rfl⟩ | ⟨h1, rfl, rfl⟩
    all_goals
      go_enter Try.func63, Try.ntmps63
      go_wp2_with (first
        | (go_at_call 108; (with_reducible refine (rchk_no _ _ hA).mono ?_); rintro e w' ⟨rfl, rfl⟩)
        | (go_at_call 108; (with_reducible refine (rchk_ok (-(a : Int)) _ (amt_mk (by omega) (by omega))).mono ?_); rintro e w' ⟨rfl, rfl⟩)
        | (go_at_call 61; (with_reducible refine (between_t (b : Int) _ _ _ (by omega) (by omega)).mono ?_); rintro e w' ⟨rfl, rfl⟩)
        | (go_at_call 61; (with_reducible refine (between_t (c : Int) _ _ _ (by omega) (by omega)).mono ?_); rintro e w' ⟨rfl, rfl⟩)
        | (go_at_call 77; (with_reducible refine (CH.out _).mono ?_); rintro e w' ⟨rfl, rfl⟩))
      go_ret3
      exact ⟨rfl, rfl⟩

theorem far_amt {q : Nat} (h : 2305843009213693952 < q) : amtB (q : Int) = false ∧ amtB (-(q : Int)) = false ∧ amtB (-(q : Int) - 1) = false := ⟨amt_no (by omega), amt_no (by omega), amt_no (by omega)⟩

/-- MoneyPart of the document, at numbers that may stand there -/
theorem rpart_in (a b c : Int) (ha : amtB a = true) (hr : rngB b c = true) :
    (amtB (a * b / c) = true ∧ RPart a b c (a * b / c) (a * b % c) 0) ∨ (amtB (a * b / c) = false ∧ RPart a b c 0 0 8) := by
  obtain ⟨hb0, hb1, hc0, hc1⟩ := rng_t hr
  obtain ⟨ha0, ha1⟩ := amt_t ha
  obtain ⟨b, rfl⟩ := Int.eq_ofNat_of_zero_le hb0
  obtain ⟨c, rfl⟩ := Int.eq_ofNat_of_zero_le (show 0 ≤ c by omega)
  have hcn : 1 ≤ c := by omega
  by_cases h0 : 0 ≤ a
  · obtain ⟨a, rfl⟩ := Int.eq_ofNat_of_zero_le h0
    have e1 : (a : Int) * (b : Int) / (c : Int) = ((a * b / c : Nat) : Int) := by rw [Int.natCast_ediv, Int.natCast_mul]
    have e2 : (a : Int) * (b : Int) % (c : Int) = ((a * b % c : Nat) : Int) := by rw [Int.natCast_emod, Int.natCast_mul]
    rw [e1, e2]
    by_cases hf : 2305843009213693952 < a * b / c
    · exact .inr ⟨(far_amt hf).1, rpart_far a b c _ (.inl rfl) (fun w => partOf_no a b c (by omega) (by omega) hcn (by omega) hf w) (by omega) (by omega) hcn (by omega)⟩
    · exact rpart_pos a b c _ _ (fun w => partOf_ok a b c _ _ rfl rfl (by omega) (by omega) hcn (by omega) (Nat.le_of_not_lt hf) w) (by omega) (by omega) hcn (by omega) (Nat.le_of_not_lt hf) (Nat.mod_lt _ hcn)
  · obtain ⟨n, hn⟩ := Int.eq_ofNat_of_zero_le (show 0 ≤ -a by omega)
    obtain rfl : a = -(n : Int) := by omega
    have e0 : -(n : Int) * (b : Int) = -((n * b : Nat) : Int) := by rw [Int.neg_mul, Int.natCast_mul]
    rw [e0]
    by_cases hf : 2305843009213693952 < n * b / c
    · refine .inr ⟨?_, rpart_far n b c _ (.inr ⟨rfl, by omega⟩) (fun w => partOf_no n b c (by omega) (by omega) hcn (by omega) hf w) (by omega) (by omega) hcn (by omega)⟩
      by_cases hz : n * b % c = 0
      · rw [(neg_div_zero hcn hz).1]; exact (far_amt hf).2.1
      · rw [(neg_div_rest hcn hz).1]; exact (far_amt hf).2.2
    · have C := fun w => partOf_ok n b c _ _ rfl rfl (by omega) (by omega) hcn (by omega) (Nat.le_of_not_lt hf) w
      refine rpart_neg n b c _ _ _ _ ?_ C (by omega) (by omega) (by omega) hcn (by omega) (Nat.le_of_not_lt hf) (Nat.mod_lt _ hcn)
      by_cases hz : n * b % c = 0
      · exact .inl ⟨hz, (neg_div_zero hcn hz).1, (neg_div_zero hcn hz).2⟩
      · exact .inr ⟨Nat.pos_of_ne_zero hz, (neg_div_rest hcn hz).1, (neg_div_rest hcn hz).2⟩

/-- both ways of taking a part answer the same -/
theorem part_both (a b c : Int) : ∃ q r E, PartAny a b c q r E ∧ RPart a b c q r E := by
  rcases part_res a b c with ⟨ha, hr, hq, h⟩ | ⟨E, _, _, h, hE⟩
  · rcases rpart_in a b c ha hr with ⟨_, g⟩ | ⟨g, _⟩
    · exact ⟨_, _, 0, h, g⟩
    · rw [hq] at g; cases g
  · rcases hE with ⟨rfl, k⟩ | ⟨rfl, ha, hr, hq⟩
    · exact ⟨0, 0, 3, h, rpart_err a b c k⟩
    · rcases rpart_in a b c ha hr with ⟨g, _⟩ | ⟨_, g⟩
      · rw [hq] at g; cases g
      · exact ⟨0, 0, 8, h, g⟩

end Go.Proofs.Ytgccipmeiceonaa
