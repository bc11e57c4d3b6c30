/-
  Merged: LawBA.
-/
import Derived.Test.YtoakibgekeajeaaBmc
-- LawBA
namespace Go.Proofs.Ytoakibgekeajeaa
open Go.RowKit
set_option linter.unusedVariables false

def AptIs (u a p n e : Int) : Prop := ∀ w, Calls Try.prog 17 #[.int .i64 u, .int .i64 a, .int .i64 p] w fun r w' => r = .returned (.tuple #[.int .i64 n, .int .i64 e]) ∧ Kpt w w'
theorem AptIs.run {u a p n e : Int} (h : AptIs u a p n e) (w : World) : Calls Try.prog 17 #[.int .i64 u, .int .i64 a, .int .i64 p] w fun r w' => r = .returned (.tuple #[.int .i64 n, .int .i64 e]) ∧ Kpt w w' := h w
theorem apt_is (u a p : Int) : AptIs u a p (aptQ u a p) (aptE u a p) := apart_any u a p
theorem apt_ok {u a p : Int} (h : aptB u a p = true) : AptIs u a p (u * p / 10000 - u * a / 10000) 0 := by
  have := apt_is u a p
  rwa [show aptE u a p = 0 by unfold aptE; rw [if_pos h], show aptQ u a p = u * p / 10000 - u * a / 10000 by unfold aptQ; rw [if_pos h]] at this

set_option maxRecDepth 100000 in
set_option maxHeartbeats 2000000 in
theorem apart_no (u a b c x e y f : Int) (h : (e ≠ 0 ∧ x = 0) ∨ (e = 0 ∧ f ≠ 0)) (D1 : AptIs u a b x e) (D2 : AptIs u b c y f) (w : World) : Calls Try.prog 6 #[.int .i64 u, .int .i64 a, .int .i64 b, .int .i64 c] w fun r w' => r = .returned (.bool true) ∧ Kpt w w' := by
  have E1 := Lib.hid D1
  have E2 := Lib.hid D2
  have K0 : Hid (Kpt w w) := Kpt.refl w
  clear D1 D2
  rcases h with ⟨h, rfl⟩ | ⟨rfl, h⟩
  · have q1 : (e != 0) = true := bne_iff_ne.2 h
    have q2 : (e == 0) = false := beq_eq_false_iff_ne.2 h
    clear h
    go_enter Try.func6, Try.ntmps6
    go_wp2_with (first
      | (go_at_call 17; (with_reducible refine (E1.out.run _).mono ?_); rintro r w1 ⟨rfl, k1⟩; have K0 := Lib.hid (ktr K0.out k1); clear k1)
      | (go_at_call 17; (with_reducible refine (E2.out.run _).mono ?_); rintro r w1 ⟨rfl, k1⟩; have K0 := Lib.hid (ktr K0.out k1); clear k1)
      | (go_at_call 26; (with_reducible refine (buyinBegun _).mono ?_); rintro r w1 ⟨rfl, k1⟩; have K0 := Lib.hid (ktr K0.out k1); clear k1))
    go_ret
    exact ⟨rfl, K0.out⟩
  · have q1 : (f != 0) = true := bne_iff_ne.2 h
    clear h
    go_enter Try.func6, Try.ntmps6
    go_wp2_with (first
      | (go_at_call 17; (with_reducible refine (E1.out.run _).mono ?_); rintro r w1 ⟨rfl, k1⟩; have K0 := Lib.hid (ktr K0.out k1); clear k1)
      | (go_at_call 17; (with_reducible refine (E2.out.run _).mono ?_); rintro r w1 ⟨rfl, k1⟩; have K0 := Lib.hid (ktr K0.out k1); clear k1)
      | (go_at_call 26; (with_reducible refine (buyinBegun _).mono ?_); rintro r w1 ⟨rfl, k1⟩; have K0 := Lib.hid (ktr K0.out k1); clear k1))
    go_ret
    exact ⟨rfl, K0.out⟩
set_option maxRecDepth 100000 in
set_option maxHeartbeats 4000000 in
theorem apart_ok (u a b c x y : Int) (hx : -118059162071741130 ≤ x ∧ x ≤ 118059162071741130) (hy : -118059162071741130 ≤ y ∧ y ≤ 118059162071741130) (hl : x < 0 ∨ a ≤ b ∨ u = 0 ∨ x = 0) (D1 : AptIs u a b x 0) (D2 : AptIs u b c y 0) (D3 : AptIs u a c (x + y) 0) (D4 : AptIs u b a (-x) 0) (D5 : AptIs u a a 0 0) (w : World) : Calls Try.prog 6 #[.int .i64 u, .int .i64 a, .int .i64 b, .int .i64 c] w fun r w' => r = .returned (.bool true) ∧ Kpt w w' := by
  have E1 := Lib.hid D1
  have E2 := Lib.hid D2
  have E3 := Lib.hid D3
  have E4 := Lib.hid D4
  have E5 := Lib.hid D5
  have K0 : Hid (Kpt w w) := Kpt.refl w
  have m1 : IntKind.i64.wrap (x + y) = x + y := IntWalk.i64_in _ (by omega)
  have m2 : IntKind.i64.wrap (-x) = -x := IntWalk.i64_in _ (by omega)
  clear D1 D2 D3 D4 D5
  obtain ⟨x0, x1⟩ := hx
  obtain ⟨y0, y1⟩ := hy
  by_cases h1 : x < 0
  · have d1 : decide (x < 0) = true := decide_eq_true h1
    clear hl h1
    go_enter Try.func6, Try.ntmps6
    go_wp2_with (first
      | (go_at_call 17; (with_reducible refine (E1.out.run _).mono ?_); rintro r w1 ⟨rfl, k1⟩; have K0 := Lib.hid (ktr K0.out k1); clear k1)
      | (go_at_call 17; (with_reducible refine (E2.out.run _).mono ?_); rintro r w1 ⟨rfl, k1⟩; have K0 := Lib.hid (ktr K0.out k1); clear k1)
      | (go_at_call 17; (with_reducible refine (E3.out.run _).mono ?_); rintro r w1 ⟨rfl, k1⟩; have K0 := Lib.hid (ktr K0.out k1); clear k1)
      | (go_at_call 17; (with_reducible refine (E4.out.run _).mono ?_); rintro r w1 ⟨rfl, k1⟩; have K0 := Lib.hid (ktr K0.out k1); clear k1)
      | (go_at_call 17; (with_reducible refine (E5.out.run _).mono ?_); rintro r w1 ⟨rfl, k1⟩; have K0 := Lib.hid (ktr K0.out k1); clear k1)
      | (go_at_call 26; (with_reducible refine (buyinBegun _).mono ?_); rintro r w1 ⟨rfl, k1⟩; have K0 := Lib.hid (ktr K0.out k1); clear k1))
    go_ret
    exact ⟨rfl, K0.out⟩
  · have d1 : decide (x < 0) = false := decide_eq_false h1
    by_cases h2 : a ≤ b
    · have d2 : decide (a ≤ b) = true := decide_eq_true h2
      clear hl h1 h2
      go_enter Try.func6, Try.ntmps6
      go_wp2_with (first
        | (go_at_call 17; (with_reducible refine (E1.out.run _).mono ?_); rintro r w1 ⟨rfl, k1⟩; have K0 := Lib.hid (ktr K0.out k1); clear k1)
        | (go_at_call 17; (with_reducible refine (E2.out.run _).mono ?_); rintro r w1 ⟨rfl, k1⟩; have K0 := Lib.hid (ktr K0.out k1); clear k1)
        | (go_at_call 17; (with_reducible refine (E3.out.run _).mono ?_); rintro r w1 ⟨rfl, k1⟩; have K0 := Lib.hid (ktr K0.out k1); clear k1)
        | (go_at_call 17; (with_reducible refine (E4.out.run _).mono ?_); rintro r w1 ⟨rfl, k1⟩; have K0 := Lib.hid (ktr K0.out k1); clear k1)
        | (go_at_call 17; (with_reducible refine (E5.out.run _).mono ?_); rintro r w1 ⟨rfl, k1⟩; have K0 := Lib.hid (ktr K0.out k1); clear k1)
        | (go_at_call 26; (with_reducible refine (buyinBegun _).mono ?_); rintro r w1 ⟨rfl, k1⟩; have K0 := Lib.hid (ktr K0.out k1); clear k1))
      go_ret
      exact ⟨rfl, K0.out⟩
    · have d2 : decide (a ≤ b) = false := decide_eq_false h2
      by_cases h3 : u = 0
      · have d3 : (u == 0) = true := beq_iff_eq.2 h3
        clear hl h1 h2 h3
        go_enter Try.func6, Try.ntmps6
        go_wp2_with (first
          | (go_at_call 17; (with_reducible refine (E1.out.run _).mono ?_); rintro r w1 ⟨rfl, k1⟩; have K0 := Lib.hid (ktr K0.out k1); clear k1)
          | (go_at_call 17; (with_reducible refine (E2.out.run _).mono ?_); rintro r w1 ⟨rfl, k1⟩; have K0 := Lib.hid (ktr K0.out k1); clear k1)
          | (go_at_call 17; (with_reducible refine (E3.out.run _).mono ?_); rintro r w1 ⟨rfl, k1⟩; have K0 := Lib.hid (ktr K0.out k1); clear k1)
          | (go_at_call 17; (with_reducible refine (E4.out.run _).mono ?_); rintro r w1 ⟨rfl, k1⟩; have K0 := Lib.hid (ktr K0.out k1); clear k1)
          | (go_at_call 17; (with_reducible refine (E5.out.run _).mono ?_); rintro r w1 ⟨rfl, k1⟩; have K0 := Lib.hid (ktr K0.out k1); clear k1)
          | (go_at_call 26; (with_reducible refine (buyinBegun _).mono ?_); rintro r w1 ⟨rfl, k1⟩; have K0 := Lib.hid (ktr K0.out k1); clear k1))
        go_ret
        exact ⟨rfl, K0.out⟩
      · have d3 : (u == 0) = false := beq_eq_false_iff_ne.2 h3
        have d4 : (x == 0) = true := beq_iff_eq.2 (by omega)
        clear hl h1 h2 h3
        go_enter Try.func6, Try.ntmps6
        go_wp2_with (first
          | (go_at_call 17; (with_reducible refine (E1.out.run _).mono ?_); rintro r w1 ⟨rfl, k1⟩; have K0 := Lib.hid (ktr K0.out k1); clear k1)
          | (go_at_call 17; (with_reducible refine (E2.out.run _).mono ?_); rintro r w1 ⟨rfl, k1⟩; have K0 := Lib.hid (ktr K0.out k1); clear k1)
          | (go_at_call 17; (with_reducible refine (E3.out.run _).mono ?_); rintro r w1 ⟨rfl, k1⟩; have K0 := Lib.hid (ktr K0.out k1); clear k1)
          | (go_at_call 17; (with_reducible refine (E4.out.run _).mono ?_); rintro r w1 ⟨rfl, k1⟩; have K0 := Lib.hid (ktr K0.out k1); clear k1)
          | (go_at_call 17; (with_reducible refine (E5.out.run _).mono ?_); rintro r w1 ⟨rfl, k1⟩; have K0 := Lib.hid (ktr K0.out k1); clear k1)
          | (go_at_call 26; (with_reducible refine (buyinBegun _).mono ?_); rintro r w1 ⟨rfl, k1⟩; have K0 := Lib.hid (ktr K0.out k1); clear k1))
        go_ret
        exact ⟨rfl, K0.out⟩

theorem apart_plain (u a b c : Int) (w : World) : Calls Try.prog 6 #[.int .i64 u, .int .i64 a, .int .i64 b, .int .i64 c] w fun r w' => r = .returned (.bool true) ∧ Kpt w w' := by
  have D1 := apt_is u a b
  have D2 := apt_is u b c
  by_cases h1 : aptB u a b = true
  · have e1 : aptE u a b = 0 := by unfold aptE; rw [if_pos h1]
    by_cases h2 : aptB u b c = true
    · obtain ⟨hu, ha, hb⟩ := apt_t h1
      obtain ⟨_, _, hc⟩ := apt_t h2
      have ca := cost_bd hu (prc_t ha)
      have cb := cost_bd hu (prc_t hb)
      have cc := cost_bd hu (prc_t hc)
      have D3 := apt_ok (apt_mk hu ha hc)
      have D4 := apt_ok (apt_mk hu hb ha)
      have D5 := apt_ok (apt_mk hu ha ha)
      have D1' := apt_ok h1
      have D2' := apt_ok h2
      have hm : a ≤ b ∨ u * b / 10000 ≤ u * a / 10000 := by
        by_cases h : a ≤ b
        · exact .inl h
        · exact .inr (Int.ediv_le_ediv (by decide) (Int.mul_le_mul_of_nonneg_left (by omega) hu.1))
      generalize u * a / 10000 = p at *
      generalize u * b / 10000 = q at *
      generalize u * c / 10000 = r at *
      rw [show r - p = q - p + (r - q) by omega] at D3
      rw [show p - q = -(q - p) by omega] at D4
      rw [show p - p = 0 by omega] at D5
      exact apart_ok u a b c (q - p) (r - q) (by omega) (by omega) (by omega) D1' D2' D3 D4 D5 w
    · have e2 : aptE u b c = 3 := by unfold aptE; rw [if_neg h2]
      exact apart_no u a b c _ _ _ _ (.inr ⟨e1, by rw [e2]; decide⟩) D1 D2 w
  · have e1 : aptE u a b = 3 := by unfold aptE; rw [if_neg h1]
    exact apart_no u a b c _ _ _ _ (.inl ⟨by rw [e1]; decide, by unfold aptQ; rw [if_neg h1]⟩) D1 D2 w

end Go.Proofs.Ytoakibgekeajeaa
