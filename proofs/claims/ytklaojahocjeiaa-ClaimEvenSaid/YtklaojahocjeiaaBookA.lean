/-
  What isPlace, place and isPosting of package book do; slices of postings.
-/
import Derived.Test.YtklaojahocjeiaaBookMath
import Derived.Test.YtklaojahocjeiaaMoneyA
import Derived.Test.YtklaojahocjeiaaExact
import Derived.Test.YtklaojahocjeiaaTrip
import Derived.Deep.QuietTactic
import Derived.BigQuiet
namespace Go.Proofs.Ytklaojahocjeiaa
open Go.RowKit
set_option linter.unusedVariables false

def plB (a u : Int) : Bool := decide (0 ≤ a ∧ a ≤ 100 ∧ 0 ≤ u ∧ u ≤ 20)
theorem isPlace_any (a u : Int) (w : World) : Calls Try.prog 63 #[.int .i64 a, .int .i64 u] w fun e w' => e = .returned (.bool (plB a u)) ∧ w = w' := by
  by_cases h1 : 0 ≤ a
  · by_cases h2 : a ≤ 100
    · by_cases h3 : 0 ≤ u
      · by_cases h4 : u ≤ 20
        · have e : plB a u = true := decide_eq_true ⟨h1, h2, h3, h4⟩
          rw [e]; clear e
          go_enter Try.func63, Try.ntmps63
          go_wp2
          go_ret
          exact ⟨rfl, rfl⟩
        · have e : plB a u = false := decide_eq_false fun q => h4 q.2.2.2
          rw [e]; clear e
          go_enter Try.func63, Try.ntmps63
          go_wp2
          go_ret
          exact ⟨rfl, rfl⟩
      · have e : plB a u = false := decide_eq_false fun q => h3 q.2.2.1
        rw [e]; clear e
        go_enter Try.func63, Try.ntmps63
        go_wp2
        go_ret
        exact ⟨rfl, rfl⟩
    · have e : plB a u = false := decide_eq_false fun q => h2 q.2.1
      rw [e]; clear e
      go_enter Try.func63, Try.ntmps63
      go_wp2
      go_ret
      exact ⟨rfl, rfl⟩
  · have e : plB a u = false := decide_eq_false fun q => h1 q.1
    rw [e]; clear e
    go_enter Try.func63, Try.ntmps63
    go_wp2
    go_ret
    exact ⟨rfl, rfl⟩

theorem place_any (a u n : Int) (w : World) (h1 : 0 ≤ a) (h2 : a ≤ 100) (h3 : 0 ≤ u) (h4 : u ≤ 20) : Calls Try.prog 61 #[.agg #[.int .i64 a, .int .i64 u, .int .i64 n]] w fun e w' => e = .returned (.int .i64 (a * 21 + u)) ∧ Grew w w' := by
  go_enter Try.func61, Try.ntmps61
  go_wp2
  go_ret
  exact ⟨rfl, (Grew.refl _).alloc _ _⟩

set_option maxHeartbeats 1000000 in
theorem isPosting_any (a u n : Int) (w : World) : Calls Try.prog 51 #[.agg #[.int .i64 a, .int .i64 u, .int .i64 n]] w fun e w' => e = .returned (.bool (ptB (a, u, n))) ∧ Grew w w' := by
  cases hp : plB a u with
  | false =>
    have e : ptB (a, u, n) = false := pt_no fun q => (of_decide_eq_false hp : ¬ _) ⟨q.1, q.2.1, q.2.2.1, q.2.2.2.1⟩
    have P := Lib.hid (fun w => hp ▸ isPlace_any a u w)
    rw [e]; clear e hp
    go_enter Try.func51, Try.ntmps51
    go_wp2_with (go_at_call 63; (with_reducible refine (P.out _).mono ?_); rintro e w1 ⟨rfl, rfl⟩)
    go_ret
    exact ⟨rfl, (Grew.refl _).alloc _ _⟩
  | true =>
    have P := Lib.hid (fun w => hp ▸ isPlace_any a u w)
    have hq := of_decide_eq_true hp
    by_cases hz : n = 0
    · have e : ptB (a, u, n) = false := pt_no fun q => q.2.2.2.2.1 hz
      have z : (n != 0) = false := by rw [hz]; rfl
      rw [e]; clear e hp hq hz
      go_enter Try.func51, Try.ntmps51
      go_wp2_with (go_at_call 63; (with_reducible refine (P.out _).mono ?_); rintro e w1 ⟨rfl, rfl⟩)
      go_ret
      exact ⟨rfl, (Grew.refl _).alloc _ _⟩
    · have z : (n != 0) = true := bne_iff_ne.2 hz
      cases hn : amtB n with
      | true =>
        have e : ptB (a, u, n) = true := pt_mk ⟨hq.1, hq.2.1, hq.2.2.1, hq.2.2.2, hz, (amt_t hn).1, (amt_t hn).2⟩
        have M := Lib.hid (fun w => check_ok n w hn)
        rw [e]; clear e hp hq hz hn
        go_enter Try.func51, Try.ntmps51
        go_wp2_with (first
          | (go_at_call 63; (with_reducible refine (P.out _).mono ?_); rintro e w1 ⟨rfl, rfl⟩)
          | (go_at_call 73; (with_reducible refine (M.out _).mono ?_); rintro e w2 ⟨rfl, g2⟩))
        go_ret
        exact ⟨rfl, gtr ((Grew.refl _).alloc _ _) g2⟩
      | false =>
        have e : ptB (a, u, n) = false := pt_no fun q => amt_f hn q.2.2.2.2.2
        have M := Lib.hid (fun w => check_no n w hn)
        rw [e]; clear e hp hq hz hn
        go_enter Try.func51, Try.ntmps51
        go_wp2_with (first
          | (go_at_call 63; (with_reducible refine (P.out _).mono ?_); rintro e w1 ⟨rfl, rfl⟩)
          | (go_at_call 73; (with_reducible refine (M.out _).mono ?_); rintro e w2 ⟨rfl, g2⟩))
        go_ret
        exact ⟨rfl, gtr ((Grew.refl _).alloc _ _) g2⟩

end Go.Proofs.Ytklaojahocjeiaa
