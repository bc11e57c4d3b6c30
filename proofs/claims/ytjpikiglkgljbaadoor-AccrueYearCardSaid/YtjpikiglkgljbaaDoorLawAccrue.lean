/-
  AccrueYear, AccrueWhole: the laws answer true.
-/
import Derived.Test.YtjpikiglkgljbaaDoorAccrueB
namespace Go.Proofs.YtjpikiglkgljbaaDoor
open Go.RowKit
set_option linter.unusedVariables false

set_option maxRecDepth 100000 in
set_option maxHeartbeats 1000000 in
theorem accrueYear_walk (n many : Int) (w : World) (ht : Tab w) :
    Calls Tryd.prog 9 #[.int .i64 n, .int .i64 many] w fun r w' => r = .returned (.bool true) ∧ Grew w w' := by
  have B := Lib.hid (accrueBegun w ht)
  have B2 := Lib.hid (fun w' (g : Grew w w') => dateBegun w' (ht.grew g))
  have HT := Lib.hid ht
  clear ht
  by_cases h0 : many < 0
  · go_enter Tryd.func9, Tryd.ntmps9
    go_wp2_with (first
      | (go_at_call 26; (with_reducible refine B.out.mono ?_); rintro e w1 ⟨rfl, g1⟩)
      | (go_at_call 24; (with_reducible refine (B2.out _ g1).mono ?_); rintro e w' ⟨rfl, rfl⟩))
    go_ret
    exact ⟨rfl, g1⟩
  · by_cases h1 : 1000 < many
    · have h2 : 0 ≤ many := by omega
      clear h0
      go_enter Tryd.func9, Tryd.ntmps9
      go_wp2_with (first
        | (go_at_call 26; (with_reducible refine B.out.mono ?_); rintro e w1 ⟨rfl, g1⟩)
        | (go_at_call 24; (with_reducible refine (B2.out _ g1).mono ?_); rintro e w' ⟨rfl, rfl⟩))
      go_ret
      exact ⟨rfl, g1⟩
    · have h2 : 0 ≤ many := by omega
      have h3 : many ≤ 1000 := by omega
      clear h0 h1
      by_cases hn : 0 ≤ n ∧ n ≤ 3652058
      · obtain ⟨y, m, d, hv, hN⟩ := num_onto n hn.1 hn.2
        have O1 := Lib.hid (fun w' (g : Grew w w') => of_at y m d n hv hN w' (HT.out.grew g))
        cases hm : mthB y m many with
        | false =>
          have M1 := Lib.hid (fun w' (g : Grew w w') => months_wide y m d n many hv hN hm w' (HT.out.grew g))
          clear hn hv hN hm
          go_enter Tryd.func9, Tryd.ntmps9
          go_wp2_with (first
            | (go_at_call 26; (with_reducible refine B.out.mono ?_); rintro e w1 ⟨rfl, g1⟩)
            | (go_at_call 24; (with_reducible refine (B2.out _ g1).mono ?_); rintro e w' ⟨rfl, rfl⟩)
            | (go_at_call 27; (with_reducible refine (M1.out _ g1).mono ?_); rintro e w' ⟨rfl, rfl⟩)
            | (go_at_call 25; (with_reducible refine (O1.out _ g1).mono ?_); rintro e w' ⟨rfl, rfl⟩))
          go_ret
          exact ⟨rfl, g1⟩
        | true =>
          obtain ⟨Y, M, D, K, u1, u2, u3, u4, u5, u6, u7⟩ := flat_later hv hm h2
          rw [hN] at u4
          have kb := num_bd u1
          rw [u2] at kb
          obtain ⟨kb0, kb1⟩ := kb
          obtain ⟨n0, n1⟩ := hn
          have M1 := Lib.hid (fun w' (g : Grew w w') => u3 ▸ months_ok y m d n many hv hN hm w' (HT.out.grew g))
          have D1 := Lib.hid (fun w' (g : Grew w w') => days_flat y m d n Y M D K hv hN u1 u2 u4 w' (HT.out.grew g))
          have D2 := Lib.hid (fun w' => days_act2 n K n0 u4 kb1 w')
          obtain ⟨v1, v2, v3, v4, v5, v6⟩ := vld_t hv
          have db := dim_bd y m
          clear hv hN hm u1 u2 u3
          generalize flatN Y M D - flatN y m d = x at D1 u5 u6 u7
          have b0 : -2 ≤ x := by omega
          by_cases hd : d ≤ 28
          · have e := u7 hd
            subst e
            have q1 : decide (28 < d) = false := decide_eq_false (by omega)
            have q2 : decide (30 * many - 2 ≤ 30 * many) = true := decide_eq_true (by omega)
            clear u7 hd u5 u6
            go_enter Tryd.func9, Tryd.ntmps9
            go_wp2_with (first
              | (go_at_call 26; (with_reducible refine B.out.mono ?_); rintro e w1 ⟨rfl, g1⟩)
              | (go_at_call 24; (with_reducible refine (B2.out _ g1).mono ?_); rintro e w' ⟨rfl, rfl⟩)
              | (go_at_call 27; (with_reducible refine (M1.out _ g1).mono ?_); rintro e w' ⟨rfl, rfl⟩)
              | (go_at_call 25; (with_reducible refine (O1.out _ g1).mono ?_); rintro e w' ⟨rfl, rfl⟩)
              | (go_at_call 28; (with_reducible refine (D1.out _ g1).mono ?_); rintro e w2 ⟨rfl, g2⟩)
              | (go_at_call 28; (with_reducible refine (D2.out _).mono ?_); rintro e w3 ⟨rfl, g3⟩))
            go_ret
            exact ⟨rfl, gtr (gtr g1 g2) g3⟩
          · have q1 : decide (28 < d) = true := decide_eq_true (by omega)
            have hd' : 28 < d := by omega
            have q2 : decide (x ≤ 30 * many) = true := decide_eq_true u5
            have q3 : decide (30 * many - 2 ≤ x) = true := decide_eq_true u6
            clear u7 hd
            go_enter Tryd.func9, Tryd.ntmps9
            go_wp2_with (first
              | (go_at_call 26; (with_reducible refine B.out.mono ?_); rintro e w1 ⟨rfl, g1⟩)
              | (go_at_call 24; (with_reducible refine (B2.out _ g1).mono ?_); rintro e w' ⟨rfl, rfl⟩)
              | (go_at_call 27; (with_reducible refine (M1.out _ g1).mono ?_); rintro e w' ⟨rfl, rfl⟩)
              | (go_at_call 25; (with_reducible refine (O1.out _ g1).mono ?_); rintro e w' ⟨rfl, rfl⟩)
              | (go_at_call 28; (with_reducible refine (D1.out _ g1).mono ?_); rintro e w2 ⟨rfl, g2⟩)
              | (go_at_call 28; (with_reducible refine (D2.out _).mono ?_); rintro e w3 ⟨rfl, g3⟩))
            go_ret
            exact ⟨rfl, gtr (gtr g1 g2) g3⟩
      · have O1 := Lib.hid (fun w => of_no n (by omega) w)
        have M1 := Lib.hid (fun w => months_no n many (by omega) w)
        clear hn
        go_enter Tryd.func9, Tryd.ntmps9
        go_wp2_with (first
          | (go_at_call 26; (with_reducible refine B.out.mono ?_); rintro e w1 ⟨rfl, g1⟩)
          | (go_at_call 24; (with_reducible refine (B2.out _ g1).mono ?_); rintro e w' ⟨rfl, rfl⟩)
          | (go_at_call 27; (with_reducible refine (M1.out _).mono ?_); rintro e w' ⟨rfl, rfl⟩)
          | (go_at_call 25; (with_reducible refine (O1.out _).mono ?_); rintro e w' ⟨rfl, rfl⟩))
        go_ret
        exact ⟨rfl, g1⟩

theorem whole_div (a rate years : Int) : a * (rate * (360 * years)) / (10000 * 360) = a * (rate * years) / 10000 := by
  have : a * (rate * (360 * years)) = a * (rate * years) * 360 := by ac_rfl
  rw [this]
  exact Int.mul_ediv_mul_of_pos_left _ _ (by decide)

set_option maxRecDepth 100000 in
set_option maxHeartbeats 1000000 in
theorem accrueWhole_walk (amt rate n years : Int) (w : World) (ht : Tab w) :
    Calls Tryd.prog 10 #[.int .i64 amt, .int .i64 rate, .int .i64 n, .int .i64 years] w fun r w' => r = .returned (.bool true) ∧ Grew w w' := by
  have B := Lib.hid (accrueBegun w ht)
  have B2 := Lib.hid (fun w' (g : Grew w w') => dateBegun w' (ht.grew g))
  have HT := Lib.hid ht
  clear ht
  by_cases h0 : years < 1
  · go_enter Tryd.func10, Tryd.ntmps10
    go_wp2_with (first
      | (go_at_call 26; (with_reducible refine B.out.mono ?_); rintro e w1 ⟨rfl, g1⟩)
      | (go_at_call 24; (with_reducible refine (B2.out _ g1).mono ?_); rintro e w' ⟨rfl, rfl⟩)
      | (go_at_call 29; (with_reducible refine (moneyBegun _).mono ?_); rintro e w2 ⟨rfl, g2⟩; have g3 := gtr g1 g2))
    go_ret
    exact ⟨rfl, g3⟩
  · by_cases h1 : 50 < years
    · have h2 : 1 ≤ years := by omega
      clear h0
      go_enter Tryd.func10, Tryd.ntmps10
      go_wp2_with (first
        | (go_at_call 26; (with_reducible refine B.out.mono ?_); rintro e w1 ⟨rfl, g1⟩)
        | (go_at_call 24; (with_reducible refine (B2.out _ g1).mono ?_); rintro e w' ⟨rfl, rfl⟩)
        | (go_at_call 29; (with_reducible refine (moneyBegun _).mono ?_); rintro e w2 ⟨rfl, g2⟩; have g3 := gtr g1 g2))
      go_ret
      exact ⟨rfl, g3⟩
    · have h2 : 1 ≤ years := by omega
      have h3 : years ≤ 50 := by omega
      clear h0 h1
      by_cases hn : 0 ≤ n ∧ n ≤ 3652058
      · obtain ⟨y, m, d, hv, hN⟩ := num_onto n hn.1 hn.2
        have O1 := Lib.hid (fun w' (g : Grew w w') => of_at y m d n hv hN w' (HT.out.grew g))
        cases hm : mthB y m (12 * years) with
        | false =>
          have M1 := Lib.hid (fun w' (g : Grew w w') => months_wide y m d n (12 * years) hv hN hm w' (HT.out.grew g))
          clear hn hv hN hm
          go_enter Tryd.func10, Tryd.ntmps10
          go_wp2_with (first
            | (go_at_call 26; (with_reducible refine B.out.mono ?_); rintro e w1 ⟨rfl, g1⟩)
            | (go_at_call 24; (with_reducible refine (B2.out _ g1).mono ?_); rintro e w' ⟨rfl, rfl⟩)
            | (go_at_call 29; (with_reducible refine (moneyBegun _).mono ?_); rintro e w2 ⟨rfl, g2⟩; have g3 := gtr g1 g2)
            | (go_at_call 27; (with_reducible refine (M1.out _ g3).mono ?_); rintro e w' ⟨rfl, rfl⟩)
            | (go_at_call 25; (with_reducible refine (O1.out _ g3).mono ?_); rintro e w' ⟨rfl, rfl⟩))
          go_ret
          exact ⟨rfl, g3⟩
        | true =>
          obtain ⟨Y, M, D, K, u1, u2, u3, u4, u5, u6, u7⟩ := flat_later hv hm (by omega)
          rw [hN] at u4
          have kb := num_bd u1
          rw [u2] at kb
          obtain ⟨kb0, kb1⟩ := kb
          obtain ⟨n0, n1⟩ := hn
          have M1 := Lib.hid (fun w' (g : Grew w w') => u3 ▸ months_ok y m d n (12 * years) hv hN hm w' (HT.out.grew g))
          by_cases hd : d ≤ 28
          · have e := u7 hd
            have e2 : flatN Y M D - flatN y m d = 360 * years := by omega
            have D1 := Lib.hid (fun w' (g : Grew w w') => e2 ▸ days_flat y m d n Y M D K hv hN u1 u2 u4 w' (HT.out.grew g))
            obtain ⟨v1, v2, v3, v4, v5, v6⟩ := vld_t hv
            have db := dim_bd y m
            clear hv hN hm u1 u2 u3 e e2 u5 u6 u7
            cases ha : amtB amt with
            | false =>
              have I1 := Lib.hid (fun w' (g : Grew w w') => interest_amt 3 amt rate n K (360 * years) w' (D1.out w' g) ha)
              clear ha
              go_enter Tryd.func10, Tryd.ntmps10
              go_wp2_with (first
                | (go_at_call 26; (with_reducible refine B.out.mono ?_); rintro e w1 ⟨rfl, g1⟩)
                | (go_at_call 24; (with_reducible refine (B2.out _ g1).mono ?_); rintro e w' ⟨rfl, rfl⟩)
                | (go_at_call 29; (with_reducible refine (moneyBegun _).mono ?_); rintro e w2 ⟨rfl, g2⟩; have g3 := gtr g1 g2)
                | (go_at_call 27; (with_reducible refine (M1.out _ g3).mono ?_); rintro e w' ⟨rfl, rfl⟩)
                | (go_at_call 25; (with_reducible refine (O1.out _ g3).mono ?_); rintro e w' ⟨rfl, rfl⟩)
                | (go_at_call 30; (with_reducible refine (I1.out _ g3).mono ?_); rintro e w4 ⟨rfl, g4⟩))
              go_ret
              exact ⟨rfl, gtr g3 g4⟩
            | true =>
              by_cases hr : rate < 0 ∨ 10000 < rate
              · have I1 := Lib.hid (fun w' (g : Grew w w') => interest_rate 3 amt rate n K (360 * years) w' (D1.out w' g) ha hr)
                clear ha hr
                go_enter Tryd.func10, Tryd.ntmps10
                go_wp2_with (first
                  | (go_at_call 26; (with_reducible refine B.out.mono ?_); rintro e w1 ⟨rfl, g1⟩)
                  | (go_at_call 24; (with_reducible refine (B2.out _ g1).mono ?_); rintro e w' ⟨rfl, rfl⟩)
                  | (go_at_call 29; (with_reducible refine (moneyBegun _).mono ?_); rintro e w2 ⟨rfl, g2⟩; have g3 := gtr g1 g2)
                  | (go_at_call 27; (with_reducible refine (M1.out _ g3).mono ?_); rintro e w' ⟨rfl, rfl⟩)
                  | (go_at_call 25; (with_reducible refine (O1.out _ g3).mono ?_); rintro e w' ⟨rfl, rfl⟩)
                  | (go_at_call 30; (with_reducible refine (I1.out _ g3).mono ?_); rintro e w4 ⟨rfl, g4⟩))
                go_ret
                exact ⟨rfl, gtr g3 g4⟩
              · have r0 : 0 ≤ rate := by omega
                have r1 : rate ≤ 10000 := by omega
                have z0 : 0 ≤ rate * years := Int.mul_nonneg r0 (by omega)
                have z1 : rate * years ≤ 10000 * 50 := Int.mul_le_mul r1 h3 (by omega) (by omega)
                have x0 : 0 ≤ rate * (360 * years) := Int.mul_nonneg r0 (by omega)
                have x1 : rate * (360 * years) ≤ 10000 * (360 * 50) := Int.mul_le_mul r1 (by omega) (by omega) (by omega)
                have g1 : rngB (rate * (360 * years)) (10000 * 360) = true := rng_mk x0 (by omega) (by omega) (by omega)
                have g2 : rngB (rate * years) 10000 = true := rng_mk z0 (by omega) (by omega) (by omega)
                have hw : IntKind.i64.wrap (rate * years) = rate * years := IntWalk.i64_in _ (by omega)
                clear hr
                cases hq : amtB (amt * (rate * years) / 10000) with
                | false =>
                  have P1 : PartIs amt (rate * (360 * years)) (10000 * 360) 0 0 8 := fun w => part_wide amt _ _ ha g1 (by rw [whole_div]; exact hq) w
                  have I1 := Lib.hid (fun w' (g : Grew w w') => interest_is 3 amt rate n K (360 * years) 360 0 0 8 w' (D1.out w' g) year_3 ha r0 r1 (by omega) (by omega) (by decide) (by decide) _ rfl P1)
                  clear ha g1 g2 hq P1
                  go_enter Tryd.func10, Tryd.ntmps10
                  go_wp2_with (first
                    | (go_at_call 26; (with_reducible refine B.out.mono ?_); rintro e w1 ⟨rfl, g1⟩)
                    | (go_at_call 24; (with_reducible refine (B2.out _ g1).mono ?_); rintro e w' ⟨rfl, rfl⟩)
                    | (go_at_call 29; (with_reducible refine (moneyBegun _).mono ?_); rintro e w2 ⟨rfl, g2⟩; have g3 := gtr g1 g2)
                    | (go_at_call 27; (with_reducible refine (M1.out _ g3).mono ?_); rintro e w' ⟨rfl, rfl⟩)
                    | (go_at_call 25; (with_reducible refine (O1.out _ g3).mono ?_); rintro e w' ⟨rfl, rfl⟩)
                    | (go_at_call 30; (with_reducible refine (I1.out _ g3).mono ?_); rintro e w4 ⟨rfl, g4⟩))
                  go_ret
                  exact ⟨rfl, gtr g3 g4⟩
                | true =>
                  have P2 := Lib.hid (fun w => part_ok amt (rate * years) 10000 ha g2 hq w)
                  have P1 : PartIs amt (rate * (360 * years)) (10000 * 360) (amt * (rate * years) / 10000) (amt * (rate * (360 * years)) % (10000 * 360)) 0 := fun w => by
                    have := part_ok amt (rate * (360 * years)) (10000 * 360) ha g1 (by rw [whole_div]; exact hq) w
                    rw [whole_div] at this
                    exact this
                  have I1 := Lib.hid (fun w' (g : Grew w w') => interest_is 3 amt rate n K (360 * years) 360 _ _ 0 w' (D1.out w' g) year_3 ha r0 r1 (by omega) (by omega) (by decide) (by decide) _ rfl P1)
                  clear ha g1 g2 hq P1 x0 x1
                  generalize amt * (rate * years) / 10000 = q at I1 P2
                  generalize amt * (rate * years) % 10000 = r at P2
                  obtain ⟨z, hz⟩ : ∃ z, rate * years = z := ⟨_, rfl⟩
                  have hw2 : IntKind.i64.wrap (rate * years) = z := hw.trans hz
                  rw [hz] at z0 z1 P2
                  clear hw hz
                  go_enter Tryd.func10, Tryd.ntmps10
                  go_wp2_with (first
                    | (go_at_call 26; (with_reducible refine B.out.mono ?_); rintro e w1 ⟨rfl, g1⟩)
                    | (go_at_call 24; (with_reducible refine (B2.out _ g1).mono ?_); rintro e w' ⟨rfl, rfl⟩)
                    | (go_at_call 29; (with_reducible refine (moneyBegun _).mono ?_); rintro e w2 ⟨rfl, g2⟩; have g3 := gtr g1 g2)
                    | (go_at_call 27; (with_reducible refine (M1.out _ g3).mono ?_); rintro e w' ⟨rfl, rfl⟩)
                    | (go_at_call 25; (with_reducible refine (O1.out _ g3).mono ?_); rintro e w' ⟨rfl, rfl⟩)
                    | (go_at_call 30; (with_reducible refine (I1.out _ g3).mono ?_); rintro e w4 ⟨rfl, g4⟩)
                    | (go_at_call 31; (with_reducible refine (P2.out _).mono ?_); rintro e w5 ⟨rfl, g5⟩))
                  go_ret
                  exact ⟨rfl, gtr (gtr g3 g4) g5⟩
          · obtain ⟨v1, v2, v3, v4, v5, v6⟩ := vld_t hv
            have db := dim_bd y m
            have hd' : 28 < d := by omega
            clear hv hN hm u1 u2 u3 u5 u6 u7 hd
            go_enter Tryd.func10, Tryd.ntmps10
            go_wp2_with (first
              | (go_at_call 26; (with_reducible refine B.out.mono ?_); rintro e w1 ⟨rfl, g1⟩)
              | (go_at_call 24; (with_reducible refine (B2.out _ g1).mono ?_); rintro e w' ⟨rfl, rfl⟩)
              | (go_at_call 29; (with_reducible refine (moneyBegun _).mono ?_); rintro e w2 ⟨rfl, g2⟩; have g3 := gtr g1 g2)
              | (go_at_call 27; (with_reducible refine (M1.out _ g3).mono ?_); rintro e w' ⟨rfl, rfl⟩)
              | (go_at_call 25; (with_reducible refine (O1.out _ g3).mono ?_); rintro e w' ⟨rfl, rfl⟩))
            go_ret
            exact ⟨rfl, g3⟩
      · have O1 := Lib.hid (fun w => of_no n (by omega) w)
        have M1 := Lib.hid (fun w => months_no n (12 * years) (by omega) w)
        clear hn
        go_enter Tryd.func10, Tryd.ntmps10
        go_wp2_with (first
          | (go_at_call 26; (with_reducible refine B.out.mono ?_); rintro e w1 ⟨rfl, g1⟩)
          | (go_at_call 24; (with_reducible refine (B2.out _ g1).mono ?_); rintro e w' ⟨rfl, rfl⟩)
          | (go_at_call 29; (with_reducible refine (moneyBegun _).mono ?_); rintro e w2 ⟨rfl, g2⟩; have g3 := gtr g1 g2)
          | (go_at_call 27; (with_reducible refine (M1.out _).mono ?_); rintro e w' ⟨rfl, rfl⟩)
          | (go_at_call 25; (with_reducible refine (O1.out _).mono ?_); rintro e w' ⟨rfl, rfl⟩))
        go_ret
        exact ⟨rfl, g3⟩

end Go.Proofs.YtjpikiglkgljbaaDoor
