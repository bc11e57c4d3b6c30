/-
  MoneyNear of package demurrageref answers as Near does.
-/
import Derived.Test.YtloeeepmmicpjaaRefPart2
import Derived.Test.YtloeeepmmicpjaaRefMoney
import Derived.Test.YtloeeepmmicpjaaNearRes
namespace Go.Proofs.Ytloeeepmmicpjaa
open Go.RowKit
set_option linter.unusedVariables false

def RNear (a b c n E : Int) : Prop := ∀ w, Calls Try.prog 19 #[.int .i64 a, .int .i64 b, .int .i64 c] w fun e w' => e = .returned (.tuple #[.int .i64 n, .int .i64 E]) ∧ w = w'
theorem RNear.run {a b c n E : Int} (h : RNear a b c n E) (w : World) : Calls Try.prog 19 #[.int .i64 a, .int .i64 b, .int .i64 c] w fun e w' => e = .returned (.tuple #[.int .i64 n, .int .i64 E]) ∧ w = w' := h w

theorem rnear_err (a b c E : Int) (h : RPart a b c 0 0 E) (hE : 1 ≤ E) : RNear a b c 0 E := by
  intro w
  go_enter Try.func19, Try.ntmps19
  go_wp2_with (go_at_call 18; (with_reducible refine (h.run _).mono ?_); rintro e w' ⟨rfl, rfl⟩)
  go_ret2
  exact ⟨rfl, rfl⟩

theorem tmod2 (q : Int) : (q % 2 = 0 ∧ (q.tmod 2 == 1) = false ∧ (q.tmod 2 == -1) = false) ∨ (q % 2 ≠ 0 ∧ (q.tmod 2 == 1) = true) ∨ (q % 2 ≠ 0 ∧ (q.tmod 2 == 1) = false ∧ (q.tmod 2 == -1) = true) := by
  by_cases h : q % 2 = 0
  · have e : q.tmod 2 = 0 := Int.tmod_eq_zero_of_dvd (Int.dvd_of_emod_eq_zero h)
    exact .inl ⟨h, by rw [e]; decide, by rw [e]; decide⟩
  · have e := Int.tmod_eq_emod (a := q) (b := 2)
    by_cases h0 : 0 ≤ q
    · refine .inr (.inl ⟨h, ?_⟩)
      have : q.tmod 2 = 1 := by rw [Int.tmod_eq_emod_of_nonneg h0]; omega
      rw [this]; decide
    · refine .inr (.inr ⟨h, ?_⟩)
      have : q.tmod 2 = -1 := by
        have h1 := Int.neg_tmod (-q) 2
        rw [Int.neg_neg] at h1
        rw [h1, Int.tmod_eq_emod_of_nonneg (by omega)]; omega
      rw [this]; decide

theorem rnear_in (a b c q r : Int) (h : RPart a b c q r 0) (hq : amtB q = true) (hr0 : 0 ≤ r) (hr1 : r < c) (hc : c ≤ 1099511627776) (n E : Int) (hn : (amtB (nearOf q r c) = true ∧ n = nearOf q r c ∧ E = 0) ∨ (amtB (nearOf q r c) = false ∧ n = 0 ∧ E = 8)) : RNear a b c n E := by
  intro w
  have hq1 := amt_t hq
  by_cases h1 : c - r < r
  · have e : nearOf q r c = q + 1 := if_pos (.inl (by omega))
    rw [e] at hn
    clear e
    rcases hn with ⟨hn, rfl, rfl⟩ | ⟨hn, rfl, rfl⟩
    all_goals
      go_enter Try.func19, Try.ntmps19
      go_wp2_with (first
        | (go_at_call 18; (with_reducible refine (h.run _).mono ?_); rintro e w' ⟨rfl, rfl⟩)
        | (go_at_call 22; (with_reducible refine (rchk_ok _ _ hn).mono ?_); rintro e w' ⟨rfl, rfl⟩)
        | (go_at_call 22; (with_reducible refine (rchk_no _ _ hn).mono ?_); rintro e w' ⟨rfl, rfl⟩))
      go_ret2
      exact ⟨rfl, rfl⟩
  · by_cases h2 : r = c - r
    · have h2' : (r == c - r) = true := beq_iff_eq.2 h2
      rcases tmod2 q with ⟨k1, k2, k3⟩ | ⟨k1, k2⟩ | ⟨k1, k2, k3⟩
      · have e : nearOf q r c = q := if_neg (by omega)
        rw [e] at hn
        clear e h2
        rcases hn with ⟨hn, rfl, rfl⟩ | ⟨hn, rfl, rfl⟩
        · go_enter Try.func19, Try.ntmps19
          go_wp2_with (first
            | (go_at_call 18; (with_reducible refine (h.run _).mono ?_); rintro e w' ⟨rfl, rfl⟩)
            | (go_at_call 22; (with_reducible refine (rchk_ok _ _ hn).mono ?_); rintro e w' ⟨rfl, rfl⟩))
          go_ret2
          exact ⟨rfl, rfl⟩
        · rw [hq] at hn; cases hn
      · have e : nearOf q r c = q + 1 := if_pos (.inr ⟨by omega, k1⟩)
        rw [e] at hn
        clear e h2 k1
        rcases hn with ⟨hn, rfl, rfl⟩ | ⟨hn, rfl, rfl⟩
        all_goals
          go_enter Try.func19, Try.ntmps19
          go_wp2_with (first
            | (go_at_call 18; (with_reducible refine (h.run _).mono ?_); rintro e w' ⟨rfl, rfl⟩)
            | (go_at_call 22; (with_reducible refine (rchk_ok _ _ hn).mono ?_); rintro e w' ⟨rfl, rfl⟩)
            | (go_at_call 22; (with_reducible refine (rchk_no _ _ hn).mono ?_); rintro e w' ⟨rfl, rfl⟩))
          go_ret2
          exact ⟨rfl, rfl⟩
      · have e : nearOf q r c = q + 1 := if_pos (.inr ⟨by omega, k1⟩)
        rw [e] at hn
        clear e h2 k1
        rcases hn with ⟨hn, rfl, rfl⟩ | ⟨hn, rfl, rfl⟩
        all_goals
          go_enter Try.func19, Try.ntmps19
          go_wp2_with (first
            | (go_at_call 18; (with_reducible refine (h.run _).mono ?_); rintro e w' ⟨rfl, rfl⟩)
            | (go_at_call 22; (with_reducible refine (rchk_ok _ _ hn).mono ?_); rintro e w' ⟨rfl, rfl⟩)
            | (go_at_call 22; (with_reducible refine (rchk_no _ _ hn).mono ?_); rintro e w' ⟨rfl, rfl⟩))
          go_ret2
          exact ⟨rfl, rfl⟩
    · have e : nearOf q r c = q := if_neg (by omega)
      have h2' : (r == c - r) = false := beq_eq_false_iff_ne.2 h2
      rw [e] at hn
      clear e h2
      rcases hn with ⟨hn, rfl, rfl⟩ | ⟨hn, rfl, rfl⟩
      · go_enter Try.func19, Try.ntmps19
        go_wp2_with (first
          | (go_at_call 18; (with_reducible refine (h.run _).mono ?_); rintro e w' ⟨rfl, rfl⟩)
          | (go_at_call 22; (with_reducible refine (rchk_ok _ _ hn).mono ?_); rintro e w' ⟨rfl, rfl⟩))
        go_ret2
        exact ⟨rfl, rfl⟩
      · rw [hq] at hn; cases hn

theorem near_both (a b c : Int) : ∃ n E, NearAny a b c n E ∧ RNear a b c n E := by
  rcases near_res a b c with ⟨ha, hr, hq, _, h⟩ | ⟨E, hE, _, _, h, hw⟩
  · have hr' := rng_t hr
    obtain ⟨-, p2, p3⟩ := parts_of (n := a * b) (c := c) (by omega)
    rcases rpart_in a b c ha hr with ⟨_, g⟩ | ⟨g, _⟩
    · rcases h with ⟨hn, h⟩ | ⟨hn, h⟩
      · exact ⟨_, _, h, rnear_in a b c _ _ g hq p2 p3 (by omega) _ _ (.inl ⟨hn, rfl, rfl⟩)⟩
      · exact ⟨_, _, h, rnear_in a b c _ _ g hq p2 p3 (by omega) _ _ (.inr ⟨hn, rfl, rfl⟩)⟩
    · rw [hq] at g; cases g
  · rcases hw with ⟨rfl, k⟩ | ⟨rfl, ha, hr, hq⟩
    · exact ⟨0, 3, h, rnear_err a b c 3 (rpart_err a b c k) (by omega)⟩
    · rcases rpart_in a b c ha hr with ⟨g, _⟩ | ⟨_, g⟩
      · rw [hq] at g; cases g
      · exact ⟨0, 8, h, rnear_err a b c 8 g (by omega)⟩

end Go.Proofs.Ytloeeepmmicpjaa
