/-
  What Check and Cost of package price do: contracts.
-/
import Derived.Test.YtgccipmeiceonaaPart2
import Derived.Test.YtgccipmeiceonaaKept
import Derived.WalkSpells
namespace Go.Proofs.Ytgccipmeiceonaa
open Go.RowKit
set_option linter.unusedVariables false

def prcB (p : Int) : Bool := decide (0 ≤ p ∧ p ≤ 1099511627776)
theorem prc_t {p : Int} (h : prcB p = true) : 0 ≤ p ∧ p ≤ 1099511627776 := of_decide_eq_true h
theorem prc_f {p : Int} (h : prcB p = false) : ¬ (0 ≤ p ∧ p ≤ 1099511627776) := of_decide_eq_false h
theorem prc_mk {p : Int} (h0 : 0 ≤ p) (h1 : p ≤ 1099511627776) : prcB p = true := decide_eq_true ⟨h0, h1⟩
theorem pcheck_ok (p : Int) (h : prcB p = true) (w : World) : Calls Try.prog 73 #[.int .i64 p] w fun e w' => e = .returned (.int .i64 0) ∧ w = w' := by
  obtain ⟨h0, h1⟩ := prc_t h
  clear h
  go_enter Try.func73, Try.ntmps73
  go_wp2
  go_ret
  exact ⟨rfl, rfl⟩
theorem pcheck_no (p : Int) (h : prcB p = false) (w : World) : Calls Try.prog 73 #[.int .i64 p] w fun e w' => e = .returned (.int .i64 3) ∧ w = w' := by
  have h' := prc_f h
  clear h
  by_cases a : p < 0
  · clear h'
    go_enter Try.func73, Try.ntmps73
    go_wp2
    go_ret
    exact ⟨rfl, rfl⟩
  · have b : 1099511627776 < p := by omega
    clear h'
    go_enter Try.func73, Try.ntmps73
    go_wp2
    go_ret
    exact ⟨rfl, rfl⟩

/-- what Part answers -/
def PartIs (a b c q r E : Int) : Prop := ∀ w, Calls Try.prog 49 #[.int .i64 a, .int .i64 b, .int .i64 c] w fun e w' => e = .returned (.tuple #[.int .i64 q, .int .i64 r, .int .i64 E]) ∧ Grew w w'
theorem PartIs.run {a b c q r E : Int} (h : PartIs a b c q r E) (w : World) : Calls Try.prog 49 #[.int .i64 a, .int .i64 b, .int .i64 c] w fun e w' => e = .returned (.tuple #[.int .i64 q, .int .i64 r, .int .i64 E]) ∧ Grew w w' := h w
theorem cost_no (u p : Int) (h : amtB u = false) (w : World) : Calls Try.prog 48 #[.int .i64 u, .int .i64 p] w fun e w' => e = .returned (.tuple #[.int .i64 0, .int .i64 0, .int .i64 3]) ∧ Grew w w' := by
  have C := Lib.hid (fun w => check_no u w h)
  clear h
  go_enter Try.func48, Try.ntmps48
  go_wp2_with (go_at_call 97; (with_reducible refine (C.out _).mono ?_); rintro e w1 ⟨rfl, g1⟩)
  go_ret3
  exact ⟨rfl, g1⟩
theorem cost_price (u p : Int) (h : amtB u = true) (hp : prcB p = false) (w : World) : Calls Try.prog 48 #[.int .i64 u, .int .i64 p] w fun e w' => e = .returned (.tuple #[.int .i64 0, .int .i64 0, .int .i64 3]) ∧ Grew w w' := by
  have C := Lib.hid (fun w => check_ok u w h)
  have D := Lib.hid (fun w => pcheck_no p hp w)
  clear h hp
  go_enter Try.func48, Try.ntmps48
  go_wp2_with (first
    | (go_at_call 97; (with_reducible refine (C.out _).mono ?_); rintro e w1 ⟨rfl, g1⟩)
    | (go_at_call 73; (with_reducible refine (D.out _).mono ?_); rintro e w' ⟨rfl, rfl⟩))
  go_ret3
  exact ⟨rfl, g1⟩
theorem cost_is (u p q r E : Int) (h : amtB u = true) (hp : prcB p = true) (P : PartIs u p 10000 q r E) (w : World) : Calls Try.prog 48 #[.int .i64 u, .int .i64 p] w fun e w' => e = .returned (.tuple #[.int .i64 q, .int .i64 r, .int .i64 E]) ∧ Grew w w' := by
  have C := Lib.hid (fun w => check_ok u w h)
  have D := Lib.hid (fun w => pcheck_ok p hp w)
  clear h hp
  go_enter Try.func48, Try.ntmps48
  go_wp2_with (first
    | (go_at_call 97; (with_reducible refine (C.out _).mono ?_); rintro e w1 ⟨rfl, g1⟩)
    | (go_at_call 73; (with_reducible refine (D.out _).mono ?_); rintro e w' ⟨rfl, rfl⟩)
    | (go_at_call 49; (with_reducible refine (P.run _).mono ?_); rintro e w2 ⟨rfl, g2⟩))
  go_ret3
  exact ⟨rfl, gtr g1 g2⟩

end Go.Proofs.Ytgccipmeiceonaa
