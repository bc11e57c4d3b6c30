/-
  The law MoneyTells answers true at whatever three numbers and list: all calls of package money answer what the document says.
-/
import Derived.Test.YtloeeepmmicpjaaRefTotal
namespace Go.Proofs.Ytloeeepmmicpjaa
open Go.RowKit
set_option linter.unusedVariables false
namespace moneyTells

set_option maxRecDepth 100000 in
set_option maxHeartbeats 2000000 in
theorem walk1 (a b c : Int) (v : Value) (x e q r E n F t G k : Int) (w : World) (r1 : AddRes a b x e) (r2 : PartAny a b c q r E) (r3 : NearAny a b c n F)
    (r4 : ∀ w1, Grew w w1 → Calls Try.prog 12 #[v] w1 fun r w' => r = .returned (.tuple #[.int .i64 t, .int .i64 G]) ∧ Grew w1 w')
    (s1 : RAdd a b x e) (s2 : RPart a b c q r E) (s3 : RNear a b c n F)
    (s4 : ∀ w1, Grew w w1 → Calls Try.prog 20 #[v] w1 fun r w' => r = .returned (.tuple #[.int .i64 t, .int .i64 G]) ∧ Below w1.heap.size w1 w')
    (r5 : ∀ w, Calls Try.prog 21 #[.int .i64 a] w fun r w' => r = .returned (.int .i64 k) ∧ Grew w w') (s5 : ∀ w, Calls Try.prog 22 #[.int .i64 a] w fun r w' => r = .returned (.int .i64 k) ∧ w = w') :
    Calls Try.prog 4 #[.int .i64 a, .int .i64 b, .int .i64 c, v] w fun r w' => r = .returned (.bool true) ∧ Below w.heap.size w w' := by
  have R4 := Lib.hid r4
  have S4 := Lib.hid s4
  have R5 := Lib.hid r5
  have S5 := Lib.hid s5
  clear r4 s4 r5 s5
  go_enter Try.func4, Try.ntmps4
  go_wp2_with (first
    | (go_at_call 14; (with_reducible refine (r1.run _).mono ?_); rintro e w1 ⟨rfl, h1⟩)
    | (go_at_call 15; (with_reducible refine (r2.run _).mono ?_); rintro e w2 ⟨rfl, h2⟩)
    | (go_at_call 16; (with_reducible refine (r3.run _).mono ?_); rintro e w3 ⟨rfl, h3⟩)
    | (go_at_call 12; (with_reducible refine (R4.out _ (gtr (gtr h1 h2) h3)).mono ?_); rintro e w4 ⟨rfl, h4⟩)
    | (go_at_call 17; (with_reducible refine (s1.run _).mono ?_); rintro e w' ⟨rfl, rfl⟩)
    | (go_at_call 18; (with_reducible refine (s2.run _).mono ?_); rintro e w' ⟨rfl, rfl⟩)
    | (go_at_call 19; (with_reducible refine (s3.run _).mono ?_); rintro e w' ⟨rfl, rfl⟩)
    | (go_at_call 20; (with_reducible refine (S4.out _ (gtr (gtr (gtr h1 h2) h3) h4)).mono ?_); rintro e w5 ⟨rfl, h5⟩)
    | (go_at_call 13; (with_reducible refine (moneyBegun_run _).mono ?_); rintro e w6 ⟨rfl, h6⟩)
    | (go_at_call 21; (with_reducible refine (R5.out _).mono ?_); rintro e w7 ⟨rfl, h7⟩)
    | (go_at_call 22; (with_reducible refine (S5.out _).mono ?_); rintro e w' ⟨rfl, rfl⟩))
  go_ret
  have g4 := gtr (gtr (gtr h1 h2) h3) h4
  have g7 := gtr h6 h7
  exact ⟨rfl, (g4.below.trans (h5.mono g4.below.size)).trans (g7.below.mono (Nat.le_trans g4.below.size h5.size))⟩

theorem walk0 (a b c : Int) (l : Option Addr) (n cap : Nat) (zs : List Int) (w : World) (hr : Reads w (.slice l n cap) zs) :
    Calls Try.prog 4 #[.int .i64 a, .int .i64 b, .int .i64 c, .slice l n cap] w fun r w' => r = .returned (.bool true) ∧ Below w.heap.size w w' := by
  obtain ⟨x, e, r1, s1⟩ := add_both a b
  obtain ⟨q, r, E, r2, s2⟩ := part_both a b c
  obtain ⟨m, F, r3, s3⟩ := near_both a b c
  obtain ⟨t, G, r4, s4⟩ := total_both l n cap zs w hr
  obtain ⟨k, r5, s5⟩ := check_both a
  exact walk1 a b c _ x e q r E m F t G k w r1 r2 r3 r4 s1 s2 s3 s4 r5 s5

end moneyTells
end Go.Proofs.Ytloeeepmmicpjaa
