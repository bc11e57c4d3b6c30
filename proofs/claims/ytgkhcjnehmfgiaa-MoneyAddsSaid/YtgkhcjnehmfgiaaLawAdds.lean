/-
  The law MoneyAdds answers true at whatever three numbers: sums in either order are the same, and what was added can be taken away.
-/
import Derived.Test.YtgkhcjnehmfgiaaAddRes
namespace Go.Proofs.Ytgkhcjnehmfgiaa
open Go.RowKit
set_option linter.unusedVariables false

namespace moneyAdds
set_option maxRecDepth 100000 in
set_option maxHeartbeats 1000000 in
theorem walk_err (a b c e : Int) (r1 : AddRes a b 0 e) (r2 : AddRes b a 0 e) (he : 1 ≤ e) (w : World) :
    Calls Try.prog 3 #[.int .i64 a, .int .i64 b, .int .i64 c] w fun r w' => r = .returned (.bool true) ∧ Grew w w' := by
  go_enter Try.func3, Try.ntmps3
  go_wp2_with (first
    | (go_at_call 9; (with_reducible refine (r1.run _).mono ?_); rintro e w1 ⟨rfl, h1⟩)
    | (go_at_call 9; (with_reducible refine (r2.run _).mono ?_); rintro e w2 ⟨rfl, h2⟩)
    | (go_at_call 10; (with_reducible refine (moneyBegun_run _).mono ?_); rintro e w3 ⟨rfl, h3⟩))
  go_ret
  exact ⟨rfl, gtr (gtr h1 h2) h3⟩

set_option maxRecDepth 100000 in
set_option maxHeartbeats 1000000 in
theorem walk_ok (a b c p h q i r j : Int) (a1 : -1152921504606846976 ≤ a ∧ a ≤ 1152921504606846976) (b1 : -1152921504606846976 ≤ b ∧ b ≤ 1152921504606846976) (s1 : -1152921504606846976 ≤ a + b ∧ a + b ≤ 1152921504606846976)
    (r1 : AddRes a b (a + b) 0) (r2 : AddRes b a (a + b) 0) (r3 : AddRes (a + b) (-b) a 0) (r4 : AddRes (a + b) c p h) (r5 : AddRes b c q i) (r6 : AddRes a q r j) (hc : 1 ≤ h ∨ (h = 0 ∧ 1 ≤ i) ∨ (h = 0 ∧ i = 0 ∧ j = 0 ∧ r = p)) (w : World) :
    Calls Try.prog 3 #[.int .i64 a, .int .i64 b, .int .i64 c] w fun r w' => r = .returned (.bool true) ∧ Grew w w' := by
  rcases hc with hc | ⟨rfl, hc⟩ | ⟨rfl, rfl, rfl, rfl⟩
  all_goals
    go_enter Try.func3, Try.ntmps3
    go_wp2_with (first
      | (go_at_call 9; (with_reducible refine (r1.run _).mono ?_); rintro e w1 ⟨rfl, h1⟩)
      | (go_at_call 9; (with_reducible refine (r2.run _).mono ?_); rintro e w2 ⟨rfl, h2⟩)
      | (go_at_call 9; (with_reducible refine (r3.run _).mono ?_); rintro e w3 ⟨rfl, h3⟩)
      | (go_at_call 9; (with_reducible refine (r4.run _).mono ?_); rintro e w4 ⟨rfl, h4⟩)
      | (go_at_call 9; (with_reducible refine (r5.run _).mono ?_); rintro e w5 ⟨rfl, h5⟩)
      | (go_at_call 9; (with_reducible refine (r6.run _).mono ?_); rintro e w6 ⟨rfl, h6⟩)
      | (go_at_call 10; (with_reducible refine (moneyBegun_run _).mono ?_); rintro e w7 ⟨rfl, h7⟩))
    go_ret
    exact ⟨rfl, gtr (gtr (gtr (gtr (gtr (gtr h1 h2) h7) h3) h4) h5) h6⟩

theorem walk0 (a b c : Int) (w : World) : Calls Try.prog 3 #[.int .i64 a, .int .i64 b, .int .i64 c] w fun r w' => r = .returned (.bool true) ∧ Grew w w' := by
  rcases add_res2 a b with ⟨ha, hb, hs, r1, r2⟩ | ⟨e, he, r1, r2⟩
  · have a1 := amt_t ha
    have b1 := amt_t hb
    have s1 := amt_t hs
    have e3 : a + b + -b = a := by omega
    have r3 : AddRes (a + b) (-b) a 0 := by
      have := addRes_ok (a := a + b) (b := -b) hs (amt_mk (by omega) (by omega)) (by rw [e3]; exact ha)
      rw [e3] at this; exact this
    obtain ⟨x6, e6, r6', -, -⟩ := add_some a 0
    rcases add_res (a + b) c with ⟨-, hc, hp, r4⟩ | ⟨h, hh, -, r4⟩
    · rcases add_res b c with ⟨-, -, hq, r5⟩ | ⟨i, hi, -, r5⟩
      · have r6 : AddRes a (b + c) (a + b + c) 0 := by
          have := addRes_ok (a := a) (b := b + c) ha hq (by rw [← Int.add_assoc]; exact hp)
          rw [← Int.add_assoc] at this; exact this
        exact walk_ok a b c _ 0 _ 0 _ 0 a1 b1 s1 r1 r2 r3 r4 r5 r6 (.inr (.inr ⟨rfl, rfl, rfl, rfl⟩)) w
      · exact walk_ok a b c _ 0 _ i _ _ a1 b1 s1 r1 r2 r3 r4 r5 r6' (.inr (.inl ⟨rfl, hi⟩)) w
    · obtain ⟨q, i, r5, -, -⟩ := add_some b c
      obtain ⟨r, j, r6, -, -⟩ := add_some a q
      exact walk_ok a b c _ h _ _ _ _ a1 b1 s1 r1 r2 r3 r4 r5 r6 (.inl hh) w
  · exact walk_err a b c e r1 r2 he w

end moneyAdds
end Go.Proofs.Ytgkhcjnehmfgiaa
