/-
  The law MoneyNear answers true at whatever three numbers: near is the part, or one more; of what is as far from both the even one; the other way round it is the same the other way round.
-/
import Derived.Test.YtgkhcjnehmfgiaaNearRes
namespace Go.Proofs.Ytgkhcjnehmfgiaa
open Go.RowKit
set_option linter.unusedVariables false
namespace moneyNear

theorem near_neg (n c : Int) (hc : 1 ≤ c) : nearOf (-n / c) (-n % c) c = -nearOf (n / c) (n % c) c := by
  obtain ⟨p1, p2, p3⟩ := parts_of (n := n) hc
  by_cases h0 : n % c = 0
  · have e : -n / c = -(n / c) ∧ -n % c = 0 := (Int.ediv_emod_unique (by omega)).2 ⟨by rw [Int.mul_neg, Int.mul_comm]; omega, by omega, by omega⟩
    rw [e.1, e.2, h0, nearOf, nearOf, if_neg (by omega), if_neg (by omega)]
  · have e : -n / c = -(n / c) - 1 ∧ -n % c = c - n % c := (Int.ediv_emod_unique (by omega)).2 ⟨by rw [Int.mul_sub, Int.mul_neg, Int.mul_comm, Int.mul_one]; omega, by omega, by omega⟩
    rw [e.1, e.2]
    generalize n / c = q at *
    generalize n % c = r at *
    unfold nearOf
    split <;> split <;> omega

set_option maxRecDepth 100000 in
set_option maxHeartbeats 1000000 in
theorem walk_err (a b c q r E F : Int) (r1 : PartAny a b c q r E) (r2 : NearAny a b c 0 F) (h : 1 ≤ E ∨ (E = 0 ∧ 1 ≤ F)) (w : World) :
    Calls Try.prog 6 #[.int .i64 a, .int .i64 b, .int .i64 c] w fun r w' => r = .returned (.bool true) ∧ Grew w w' := by
  rcases h with h | ⟨rfl, h⟩
  all_goals
    go_enter Try.func6, Try.ntmps6
    go_wp2_with (first
      | (go_at_call 11; (with_reducible refine (r1.run _).mono ?_); rintro e w1 ⟨rfl, h1⟩)
      | (go_at_call 12; (with_reducible refine (r2.run _).mono ?_); rintro e w2 ⟨rfl, h2⟩)
      | (go_at_call 10; (with_reducible refine (moneyBegun_run _).mono ?_); rintro e w3 ⟨rfl, h3⟩))
    go_ret
    exact ⟨rfl, gtr (gtr h1 h2) h3⟩

set_option maxRecDepth 100000 in
set_option maxHeartbeats 2000000 in
theorem walk_ok (a b c q r n m g : Int) (ba : -1152921504606846976 ≤ a ∧ a ≤ 1152921504606846976) (bq : -1152921504606846976 ≤ q ∧ q ≤ 1152921504606846976) (bn : -1152921504606846976 ≤ n ∧ n ≤ 1152921504606846976) (hr0 : 0 ≤ r) (hr1 : r < c) (hc : c ≤ 1099511627776)
    (r1 : PartOk a b c q r) (r2 : NearAny a b c n 0) (r3 : NearAny (-a) b c m g)
    (hn : (2 * r < c ∧ n = q) ∨ (c < 2 * r ∧ n = q + 1) ∨ (2 * r ≤ c ∧ c ≤ 2 * r ∧ (n.tmod 2 != 0) = false ∧ (n = q ∨ n = q + 1))) (hm : 1 ≤ g ∨ (g = 0 ∧ m = -n)) (w : World) :
    Calls Try.prog 6 #[.int .i64 a, .int .i64 b, .int .i64 c] w fun r w' => r = .returned (.bool true) ∧ Grew w w' := by
  have f1 : (q + 1 == q) = false := beq_eq_false_iff_ne.2 (by omega)
  have f2 : (q + 1 != q) = true := bne_iff_ne.2 (by omega)
  have f3 : decide (2 * r < c) = true ∨ decide (2 * r < c) = false := by cases decide (2 * r < c) <;> simp
  rcases hn with ⟨k1, rfl⟩ | ⟨k1, rfl⟩ | ⟨k1, k3, k2, rfl | rfl⟩ <;> rcases hm with hm | ⟨rfl, rfl⟩
  all_goals
    rcases f3 with f3 | f3 <;> have f4 := f3 <;> simp only [decide_eq_true_eq, decide_eq_false_iff_not] at f4 <;> try omega
    go_enter Try.func6, Try.ntmps6
    go_wp2_with (first
      | (go_at_call 11; (with_reducible refine (r1.run _).mono ?_); rintro e w1 ⟨rfl, h1⟩)
      | (go_at_call 12; (with_reducible refine (r2.run _).mono ?_); rintro e w2 ⟨rfl, h2⟩)
      | (go_at_call 12; (with_reducible refine (r3.run _).mono ?_); rintro e w4 ⟨rfl, h4⟩)
      | (go_at_call 10; (with_reducible refine (moneyBegun_run _).mono ?_); rintro e w3 ⟨rfl, h3⟩))
    go_ret
    exact ⟨rfl, gtr (gtr (gtr h1 h2) h3) h4⟩

theorem walk0 (a b c : Int) (w : World) : Calls Try.prog 6 #[.int .i64 a, .int .i64 b, .int .i64 c] w fun r w' => r = .returned (.bool true) ∧ Grew w w' := by
  rcases near_res a b c with ⟨ha, hr, hq, r1, h⟩ | ⟨E, hE, _, r1, r2, -⟩
  · rcases h with ⟨hn, r2⟩ | ⟨_, r2⟩
    · have hr' := rng_t hr
      obtain ⟨-, p2, p3⟩ := parts_of (n := a * b) (c := c) (by omega)
      obtain ⟨m, g, r3, hg0, _, h3⟩ := near_some (-a) b c
      refine walk_ok a b c _ _ _ m g (amt_t ha) (amt_t hq) (amt_t hn) p2 p3 (by omega) r1 r2 r3 ?_ ?_ w
      · generalize a * b / c = q at *
        generalize a * b % c = r at *
        unfold nearOf
        by_cases k1 : c < 2 * r
        · exact .inr (.inl ⟨k1, if_pos (.inl k1)⟩)
        · by_cases k2 : 2 * r = c
          · refine .inr (.inr ⟨by omega, by omega, ?_⟩)
            by_cases k3 : q % 2 = 0
            · rw [if_neg (by omega)]; exact ⟨odd_f k3, .inl rfl⟩
            · rw [if_pos (.inr ⟨k2, k3⟩)]; exact ⟨odd_f (by omega), .inr rfl⟩
          · exact .inl ⟨by omega, if_neg (by omega)⟩
      · rcases h3 with ⟨rfl, _, rfl⟩ | ⟨h1, _⟩
        · refine .inr ⟨rfl, ?_⟩
          have := near_neg (a * b) c (by omega)
          rw [Int.neg_mul]; exact this
        · exact .inl h1
    · exact walk_err a b c _ _ 0 8 r1 r2 (.inr ⟨rfl, by omega⟩) w
  · exact walk_err a b c _ _ E E r1 r2 (.inl hE) w

end moneyNear
end Go.Proofs.Ytgkhcjnehmfgiaa
