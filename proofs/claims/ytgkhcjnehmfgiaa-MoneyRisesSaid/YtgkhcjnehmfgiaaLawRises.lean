/-
  The law MoneyRises answers true at whatever four numbers: of more the part is no less, and the parts of two are the part of both, but for one.
-/
import Derived.Test.YtgkhcjnehmfgiaaParts
namespace Go.Proofs.Ytgkhcjnehmfgiaa
open Go.RowKit
set_option linter.unusedVariables false
namespace moneyRises

set_option maxRecDepth 100000 in
set_option maxHeartbeats 1000000 in
theorem walk_err1 (a b R c E y ry F : Int) (r1 : PartErr a R c E) (r2 : PartAny b R c y ry F) (hE : 1 ≤ E) (w : World) :
    Calls Try.prog 5 #[.int .i64 a, .int .i64 b, .int .i64 R, .int .i64 c] w fun r w' => r = .returned (.bool true) ∧ Grew w w' := by
  go_enter Try.func5, Try.ntmps5
  go_wp2_with (first
    | (go_at_call 11; (with_reducible refine (r1.run _).mono ?_); rintro e w1 ⟨rfl, h1⟩)
    | (go_at_call 11; (with_reducible refine (r2.run _).mono ?_); rintro e w2 ⟨rfl, h2⟩)
    | (go_at_call 10; (with_reducible refine (moneyBegun_run _).mono ?_); rintro e w3 ⟨rfl, h3⟩))
  go_ret
  exact ⟨rfl, gtr (gtr h1 h2) h3⟩

set_option maxRecDepth 100000 in
set_option maxHeartbeats 1000000 in
theorem walk_err2 (a b R c x rx F : Int) (r1 : PartOk a R c x rx) (r2 : PartErr b R c F) (hF : 1 ≤ F) (w : World) :
    Calls Try.prog 5 #[.int .i64 a, .int .i64 b, .int .i64 R, .int .i64 c] w fun r w' => r = .returned (.bool true) ∧ Grew w w' := by
  go_enter Try.func5, Try.ntmps5
  go_wp2_with (first
    | (go_at_call 11; (with_reducible refine (r1.run _).mono ?_); rintro e w1 ⟨rfl, h1⟩)
    | (go_at_call 11; (with_reducible refine (r2.run _).mono ?_); rintro e w2 ⟨rfl, h2⟩)
    | (go_at_call 10; (with_reducible refine (moneyBegun_run _).mono ?_); rintro e w3 ⟨rfl, h3⟩))
  go_ret
  exact ⟨rfl, gtr (gtr h1 h2) h3⟩

set_option maxRecDepth 100000 in
set_option maxHeartbeats 2000000 in
theorem walk_ok (a b R c x rx y ry s g z rz H : Int) (r1 : PartOk a R c x rx) (r2 : PartOk b R c y ry) (r3 : AddRes a b s g) (r4 : PartAny s R c z rz H)
    (bx : -1152921504606846976 ≤ x ∧ x ≤ 1152921504606846976) (by' : -1152921504606846976 ≤ y ∧ y ≤ 1152921504606846976)
    (hab : (a < b ∧ x ≤ y) ∨ (a ≤ b ∧ b ≤ a ∧ x ≤ y ∧ y ≤ x) ∨ (b < a ∧ y ≤ x)) (hc : 1 ≤ g ∨ (g = 0 ∧ 1 ≤ H) ∨ (g = 0 ∧ H = 0 ∧ x + y ≤ z ∧ z ≤ x + y + 1)) (w : World) :
    Calls Try.prog 5 #[.int .i64 a, .int .i64 b, .int .i64 R, .int .i64 c] w fun r w' => r = .returned (.bool true) ∧ Grew w w' := by
  rcases hab with ⟨q1, q2⟩ | ⟨q1, q2, q3, q4⟩ | ⟨q1, q2⟩ <;> rcases hc with hc | ⟨rfl, hc⟩ | ⟨rfl, rfl, hc, hd⟩
  all_goals
    go_enter Try.func5, Try.ntmps5
    go_wp2_with (first
      | (go_at_call 11; (with_reducible refine (r1.run _).mono ?_); rintro e w1 ⟨rfl, h1⟩)
      | (go_at_call 11; (with_reducible refine (r2.run _).mono ?_); rintro e w2 ⟨rfl, h2⟩)
      | (go_at_call 11; (with_reducible refine (r4.run _).mono ?_); rintro e w4 ⟨rfl, h4⟩)
      | (go_at_call 9; (with_reducible refine (r3.run _).mono ?_); rintro e w5 ⟨rfl, h5⟩)
      | (go_at_call 10; (with_reducible refine (moneyBegun_run _).mono ?_); rintro e w3 ⟨rfl, h3⟩))
    go_ret
    exact ⟨rfl, gtr (gtr (gtr (gtr h1 h2) h3) h5) h4⟩

theorem div_mono {m n c : Int} (hc : 1 ≤ c) (h : m ≤ n) : m / c ≤ n / c := Int.ediv_le_ediv (by omega) h
theorem div_sum {m n c : Int} (hc : 1 ≤ c) : m / c + n / c ≤ (m + n) / c ∧ (m + n) / c ≤ m / c + n / c + 1 := by
  obtain ⟨a1, a2, a3⟩ := parts_of (n := m) hc
  obtain ⟨b1, b2, b3⟩ := parts_of (n := n) hc
  obtain ⟨c1, c2, c3⟩ := parts_of (n := m + n) hc
  generalize m / c = x at *
  generalize n / c = y at *
  generalize (m + n) / c = z at *
  constructor
  · rcases Int.lt_or_le z (x + y) with h | h
    · exfalso
      have : (z + 1) * c ≤ (x + y) * c := Int.mul_le_mul_of_nonneg_right (by omega) (by omega)
      rw [Int.add_mul, Int.add_mul, Int.one_mul] at this
      omega
    · exact h
  · rcases Int.lt_or_le (x + y + 1) z with h | h
    · exfalso
      have : (x + y + 2) * c ≤ z * c := Int.mul_le_mul_of_nonneg_right (by omega) (by omega)
      rw [Int.add_mul, Int.add_mul] at this
      omega
    · exact h

theorem walk0 (a b R c : Int) (w : World) : Calls Try.prog 5 #[.int .i64 a, .int .i64 b, .int .i64 R, .int .i64 c] w fun r w' => r = .returned (.bool true) ∧ Grew w w' := by
  rcases part_res a R c with ⟨ha, hr, hq, r1⟩ | ⟨E, hE, _, r1, -⟩
  · rcases part_res b R c with ⟨hb, -, hq2, r2⟩ | ⟨F, hF, _, r2, -⟩
    · have hr' := rng_t hr
      have m1 : ∀ {p q : Int}, p ≤ q → p * R / c ≤ q * R / c := fun h => div_mono (by omega) (Int.mul_le_mul_of_nonneg_right h (by omega))
      have hab : (a < b ∧ a * R / c ≤ b * R / c) ∨ (a ≤ b ∧ b ≤ a ∧ a * R / c ≤ b * R / c ∧ b * R / c ≤ a * R / c) ∨ (b < a ∧ b * R / c ≤ a * R / c) := by
        rcases Int.lt_trichotomy a b with h | h | h
        · exact .inl ⟨h, m1 (by omega)⟩
        · exact .inr (.inl ⟨by omega, by omega, m1 (by omega), m1 (by omega)⟩)
        · exact .inr (.inr ⟨h, m1 (by omega)⟩)
      rcases add_res a b with ⟨_, _, _, r3⟩ | ⟨g, hg, _, r3⟩
      · obtain ⟨z, rz, H, r4, _, _, hz⟩ := part_some (a + b) R c
        refine walk_ok a b R c _ _ _ _ (a + b) 0 z rz H r1 r2 r3 r4 (amt_t hq) (amt_t hq2) hab ?_ w
        rcases hz with ⟨rfl, _, _, _, rfl, _⟩ | ⟨h1, _, _⟩
        · have := div_sum (m := a * R) (n := b * R) (c := c) (by omega)
          rw [← Int.add_mul] at this
          exact .inr (.inr ⟨rfl, rfl, this.1, this.2⟩)
        · exact .inr (.inl ⟨rfl, h1⟩)
      · obtain ⟨z, rz, H, r4, _, _, hz⟩ := part_some 0 R c
        exact walk_ok a b R c _ _ _ _ 0 g z rz H r1 r2 r3 r4 (amt_t hq) (amt_t hq2) hab (.inl hg) w
    · exact walk_err2 a b R c _ _ F r1 r2 hF w
  · obtain ⟨y, ry, F, r2, -⟩ := part_some b R c
    exact walk_err1 a b R c E y ry F r1 r2 hE w

end moneyRises
end Go.Proofs.Ytgkhcjnehmfgiaa
