/-
  MoneyPart and MoneyNear of package demurrageref answer as Part and Near do.
-/
import Derived.Test.YtmcbebjipiojoaaRefPart
namespace Go.Proofs.Ytmcbebjipiojoaa
open Go.RowKit
set_option linter.unusedVariables false

theorem partOf_ok (a b c q r : Nat) (hq : q = a * b / c) (hr : r = a * b % c) (ha : a ≤ 1152921504606846976) (hb : b ≤ 1099511627776) (hc : 1 ≤ c) (hc' : c ≤ 70368744177664) (h : q ≤ 2305843009213693952) (w : World) :
    Calls Try.prog 54 #[.int .i64 a, .int .i64 b, .int .i64 c] w fun e w' => e = .returned (.tuple #[.int .i64 q, .int .i64 r]) ∧ w = w' := by
  refine (partOf_any a b c ha hb hc hc' w).mono ?_
  rintro e w' ⟨⟨q', r', rfl, h'⟩, rfl⟩
  rcases h' with ⟨_, h1, h2⟩ | ⟨h1, _⟩
  · exact ⟨by rw [h1, h2, ← hq, ← hr], rfl⟩
  · rw [← hq] at h1; omega
theorem partOf_no (a b c : Nat) (ha : a ≤ 1152921504606846976) (hb : b ≤ 1099511627776) (hc : 1 ≤ c) (hc' : c ≤ 70368744177664) (h : 2305843009213693952 < a * b / c) (w : World) :
    Calls Try.prog 54 #[.int .i64 a, .int .i64 b, .int .i64 c] w fun e w' => e = .returned (.tuple #[.int .i64 (-1), .int .i64 0]) ∧ w = w' := by
  refine (partOf_any a b c ha hb hc hc' w).mono ?_
  rintro e w' ⟨⟨q', r', rfl, h'⟩, rfl⟩
  rcases h' with ⟨h1, _⟩ | ⟨_, h1, h2⟩
  · omega
  · exact ⟨by rw [h1, h2], rfl⟩

theorem far_amt {q : Nat} (h : 2305843009213693952 < q) : amtB (q : Int) = false ∧ amtB (-(q : Int)) = false ∧ amtB (-(q : Int) - 1) = false := ⟨amt_no (by omega), amt_no (by omega), amt_no (by omega)⟩

end Go.Proofs.Ytmcbebjipiojoaa
