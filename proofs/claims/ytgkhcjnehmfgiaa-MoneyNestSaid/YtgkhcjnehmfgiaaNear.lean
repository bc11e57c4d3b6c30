/-
  What Near of package money does: contracts; and what must be in any case.
-/
import Derived.Test.YtgkhcjnehmfgiaaSum
import Derived.Test.YtgkhcjnehmfgiaaPartRes
namespace Go.Proofs.Ytgkhcjnehmfgiaa
open Go.RowKit
set_option linter.unusedVariables false

/-- the whole number that is nearest, out of the quotient and the rest -/
def nearOf (q r c : Int) : Int := if c < 2 * r ∨ (2 * r = c ∧ q % 2 ≠ 0) then q + 1 else q

theorem odd_t {q : Int} (h : q % 2 ≠ 0) : (q.tmod 2 != 0) = true := by
  rw [bne_iff_ne]; intro e; have := Int.dvd_of_tmod_eq_zero e; omega
theorem odd_f {q : Int} (h : q % 2 = 0) : (q.tmod 2 != 0) = false := by
  have e : q.tmod 2 = 0 := Int.tmod_eq_zero_of_dvd (Int.dvd_of_emod_eq_zero h)
  rw [e]; rfl

/-- a call of Near that went well, and one that did not -/
def NearOk (a b c n : Int) : Prop := ∀ w, Calls Try.prog 12 #[.int .i64 a, .int .i64 b, .int .i64 c] w fun e w' => e = .returned (.tuple #[.int .i64 n, .int .i64 0]) ∧ Grew w w'
def NearErr (a b c E : Int) : Prop := ∀ w, Calls Try.prog 12 #[.int .i64 a, .int .i64 b, .int .i64 c] w fun e w' => e = .returned (.tuple #[.int .i64 0, .int .i64 E]) ∧ Grew w w'

theorem NearOk.run {a b c n : Int} (h : NearOk a b c n) (w : World) : Calls Try.prog 12 #[.int .i64 a, .int .i64 b, .int .i64 c] w fun e w' => e = .returned (.tuple #[.int .i64 n, .int .i64 0]) ∧ Grew w w' := h w
theorem NearErr.run {a b c E : Int} (h : NearErr a b c E) (w : World) : Calls Try.prog 12 #[.int .i64 a, .int .i64 b, .int .i64 c] w fun e w' => e = .returned (.tuple #[.int .i64 0, .int .i64 E]) ∧ Grew w w' := h w

theorem near_err (a b c E : Int) (h : PartErr a b c E) (hE : 1 ≤ E) : NearErr a b c E := by
  intro w
  go_enter Try.func12, Try.ntmps12
  go_wp2_with (go_at_call 11; (with_reducible refine (h.run _).mono ?_); rintro e w' ⟨rfl, hg⟩)
  go_ret2
  exact ⟨rfl, hg⟩

theorem near_ok (a b c q r : Int) (h : PartOk a b c q r) (hq : amtB q = true) (hr0 : 0 ≤ r) (hr1 : r < c) (hc : c ≤ 1099511627776) (hn : amtB (nearOf q r c) = true) : NearOk a b c (nearOf q r c) := by
  intro w
  have hq1 := amt_t hq
  by_cases h1 : c < 2 * r
  · have e : nearOf q r c = q + 1 := if_pos (.inl h1)
    rw [e] at hn ⊢
    clear e
    go_enter Try.func12, Try.ntmps12
    go_wp2_with (first
      | (go_at_call 11; (with_reducible refine (h.run _).mono ?_); rintro e w' ⟨rfl, hg⟩)
      | (go_at_call 14; (with_reducible refine (asAmount_ok _ _ hn).mono ?_); rintro e w' ⟨rfl, hg2⟩))
    go_ret2
    exact ⟨rfl, gtr hg hg2⟩
  · by_cases h2 : 2 * r = c
    · have h2' : (2 * r == c) = true := by simpa using h2
      by_cases h3 : q % 2 = 0
      · have e : nearOf q r c = q := if_neg (by omega)
        have h3' := odd_f h3
        rw [e] at hn ⊢
        clear e h3 h2
        go_enter Try.func12, Try.ntmps12
        go_wp2_with (first
          | (go_at_call 11; (with_reducible refine (h.run _).mono ?_); rintro e w' ⟨rfl, hg⟩)
          | (go_at_call 14; (with_reducible refine (asAmount_ok _ _ hn).mono ?_); rintro e w' ⟨rfl, hg2⟩))
        go_ret2
        exact ⟨rfl, gtr hg hg2⟩
      · have e : nearOf q r c = q + 1 := if_pos (.inr ⟨h2, h3⟩)
        have h3' := odd_t h3
        rw [e] at hn ⊢
        clear e h3 h2
        go_enter Try.func12, Try.ntmps12
        go_wp2_with (first
          | (go_at_call 11; (with_reducible refine (h.run _).mono ?_); rintro e w' ⟨rfl, hg⟩)
          | (go_at_call 14; (with_reducible refine (asAmount_ok _ _ hn).mono ?_); rintro e w' ⟨rfl, hg2⟩))
        go_ret2
        exact ⟨rfl, gtr hg hg2⟩
    · have e : nearOf q r c = q := if_neg (by omega)
      have h2' : (2 * r == c) = false := by simpa using h2
      rw [e] at hn ⊢
      clear e h2
      go_enter Try.func12, Try.ntmps12
      go_wp2_with (first
        | (go_at_call 11; (with_reducible refine (h.run _).mono ?_); rintro e w' ⟨rfl, hg⟩)
        | (go_at_call 14; (with_reducible refine (asAmount_ok _ _ hn).mono ?_); rintro e w' ⟨rfl, hg2⟩))
      go_ret2
      exact ⟨rfl, gtr hg hg2⟩

theorem near_wide (a b c q r : Int) (h : PartOk a b c q r) (hq : amtB q = true) (hr0 : 0 ≤ r) (hr1 : r < c) (hc : c ≤ 1099511627776) (hn : amtB (nearOf q r c) = false) : NearErr a b c 8 := by
  intro w
  have hq1 := amt_t hq
  by_cases h1 : c < 2 * r
  · have e : nearOf q r c = q + 1 := if_pos (.inl h1)
    rw [e] at hn
    clear e
    go_enter Try.func12, Try.ntmps12
    go_wp2_with (first
      | (go_at_call 11; (with_reducible refine (h.run _).mono ?_); rintro e w' ⟨rfl, hg⟩)
      | (go_at_call 14; (with_reducible refine (asAmount_no _ _ hn).mono ?_); rintro e w' ⟨rfl, hg2⟩))
    go_ret2
    exact ⟨rfl, gtr hg hg2⟩
  · by_cases h2 : 2 * r = c ∧ q % 2 ≠ 0
    · have e : nearOf q r c = q + 1 := if_pos (.inr h2)
      have h2' : (2 * r == c) = true := by simpa using h2.1
      have h3' := odd_t h2.2
      rw [e] at hn
      clear e h2
      go_enter Try.func12, Try.ntmps12
      go_wp2_with (first
        | (go_at_call 11; (with_reducible refine (h.run _).mono ?_); rintro e w' ⟨rfl, hg⟩)
        | (go_at_call 14; (with_reducible refine (asAmount_no _ _ hn).mono ?_); rintro e w' ⟨rfl, hg2⟩))
      go_ret2
      exact ⟨rfl, gtr hg hg2⟩
    · have e : nearOf q r c = q := if_neg (by omega)
      rw [e, hq] at hn
      cases hn

end Go.Proofs.Ytgkhcjnehmfgiaa
