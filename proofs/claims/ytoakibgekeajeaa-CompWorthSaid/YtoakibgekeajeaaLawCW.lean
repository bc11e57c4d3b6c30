/-
  CompWorth: the law answers true.
-/
import Derived.Test.YtoakibgekeajeaaCompD
namespace Go.Proofs.Ytoakibgekeajeaa
open Go.RowKit
set_option linter.unusedVariables false

theorem wthE_0 {u p x : Int} (h : wthE u p x = 0) : wthB u p x = true ∧ wthQ u p x = wthV u p x := by
  unfold wthE at h
  split at h
  · rename_i hb; exact ⟨hb, by unfold wthQ; rw [if_pos hb]⟩
  · cases h
theorem wthE_3 {u p x : Int} (h : wthE u p x ≠ 0) : wthQ u p x = 0 ∧ wthE u p x = 3 := by
  unfold wthE at h ⊢
  unfold wthQ
  split at h
  · exact absurd rfl h
  · rename_i hb; exact ⟨if_neg hb, if_neg hb⟩
set_option maxRecDepth 100000 in
set_option maxHeartbeats 1000000 in
theorem cworth_no (u p x m e : Int) (he : e ≠ 0) (D : WtIs u p x 0 e) (w : World) : Calls Try.prog 11 #[.int .i64 u, .int .i64 p, .int .i64 x, .int .i64 m] w fun r w' => r = .returned (.bool true) ∧ Kpt w w' := by
  have D1 := Lib.hid D
  have q1 : (e != 0) = true := bne_iff_ne.2 he
  have K0 : Hid (Kpt w w) := Kpt.refl w
  clear D he
  go_enter Try.func11, Try.ntmps11
  go_wp2_with (first
    | (go_at_call 31; (with_reducible refine (D1.out.run _).mono ?_); rintro r w1 ⟨rfl, k1⟩; have K0 := Lib.hid (ktr K0.out k1); clear k1)
    | (go_at_call 39; (with_reducible refine (compBegun _).mono ?_); rintro r w1 ⟨rfl, k1⟩; have K0 := Lib.hid (ktr K0.out k1); clear k1))
  go_ret
  exact ⟨rfl, K0.out⟩
set_option maxRecDepth 100000 in
set_option maxHeartbeats 4000000 in
theorem cworth_ok (u p x m W A C h : Int) (a0 : 0 ≤ A) (a1 : A ≤ 118059162071741130) (w0 : A ≤ W) (w1 : W ≤ 2 * A) (hh : h = 0 → m < x ∨ W ≤ C) (D1 : WtIs u p x W 0) (D2 : WtIs u p 0 A 0) (D3 : WtIs u p 10000 (2 * A) 0) (D4 : WtIs u p m C h) (w : World) : Calls Try.prog 11 #[.int .i64 u, .int .i64 p, .int .i64 x, .int .i64 m] w fun r w' => r = .returned (.bool true) ∧ Kpt w w' := by
  have E1 := Lib.hid D1
  have E2 := Lib.hid D2
  have E3 := Lib.hid D3
  have E4 := Lib.hid D4
  have K0 : Hid (Kpt w w) := Kpt.refl w
  have d1 : decide (A ≤ W) = true := decide_eq_true w0
  have d2 : decide (W ≤ 2 * A) = true := decide_eq_true w1
  have m1 : IntKind.i64.wrap (2 * A) = 2 * A := IntWalk.i64_in _ (by omega)
  clear D1 D2 D3 D4 w0 w1
  by_cases h0 : h = 0
  · have q : (h != 0) = false := by simpa using h0
    by_cases hm : m < x
    · have q2 : decide (m < x) = true := decide_eq_true hm
      clear h0 hm hh
      go_enter Try.func11, Try.ntmps11
      go_wp2_with (first
        | (go_at_call 31; (with_reducible refine (E1.out.run _).mono ?_); rintro r w1 ⟨rfl, k1⟩; have K0 := Lib.hid (ktr K0.out k1); clear k1)
        | (go_at_call 31; (with_reducible refine (E2.out.run _).mono ?_); rintro r w1 ⟨rfl, k1⟩; have K0 := Lib.hid (ktr K0.out k1); clear k1)
        | (go_at_call 31; (with_reducible refine (E3.out.run _).mono ?_); rintro r w1 ⟨rfl, k1⟩; have K0 := Lib.hid (ktr K0.out k1); clear k1)
        | (go_at_call 31; (with_reducible refine (E4.out.run _).mono ?_); rintro r w1 ⟨rfl, k1⟩; have K0 := Lib.hid (ktr K0.out k1); clear k1)
        | (go_at_call 39; (with_reducible refine (compBegun _).mono ?_); rintro r w1 ⟨rfl, k1⟩; have K0 := Lib.hid (ktr K0.out k1); clear k1))
      go_ret
      exact ⟨rfl, K0.out⟩
    · have q2 : decide (m < x) = false := decide_eq_false hm
      have q3 : decide (W ≤ C) = true := decide_eq_true (by rcases hh h0 with g | g <;> omega)
      clear h0 hm hh
      go_enter Try.func11, Try.ntmps11
      go_wp2_with (first
        | (go_at_call 31; (with_reducible refine (E1.out.run _).mono ?_); rintro r w1 ⟨rfl, k1⟩; have K0 := Lib.hid (ktr K0.out k1); clear k1)
        | (go_at_call 31; (with_reducible refine (E2.out.run _).mono ?_); rintro r w1 ⟨rfl, k1⟩; have K0 := Lib.hid (ktr K0.out k1); clear k1)
        | (go_at_call 31; (with_reducible refine (E3.out.run _).mono ?_); rintro r w1 ⟨rfl, k1⟩; have K0 := Lib.hid (ktr K0.out k1); clear k1)
        | (go_at_call 31; (with_reducible refine (E4.out.run _).mono ?_); rintro r w1 ⟨rfl, k1⟩; have K0 := Lib.hid (ktr K0.out k1); clear k1)
        | (go_at_call 39; (with_reducible refine (compBegun _).mono ?_); rintro r w1 ⟨rfl, k1⟩; have K0 := Lib.hid (ktr K0.out k1); clear k1))
      go_ret
      exact ⟨rfl, K0.out⟩
  · have q : (h != 0) = true := bne_iff_ne.2 h0
    clear h0 hh
    go_enter Try.func11, Try.ntmps11
    go_wp2_with (first
      | (go_at_call 31; (with_reducible refine (E1.out.run _).mono ?_); rintro r w1 ⟨rfl, k1⟩; have K0 := Lib.hid (ktr K0.out k1); clear k1)
      | (go_at_call 31; (with_reducible refine (E2.out.run _).mono ?_); rintro r w1 ⟨rfl, k1⟩; have K0 := Lib.hid (ktr K0.out k1); clear k1)
      | (go_at_call 31; (with_reducible refine (E3.out.run _).mono ?_); rintro r w1 ⟨rfl, k1⟩; have K0 := Lib.hid (ktr K0.out k1); clear k1)
      | (go_at_call 31; (with_reducible refine (E4.out.run _).mono ?_); rintro r w1 ⟨rfl, k1⟩; have K0 := Lib.hid (ktr K0.out k1); clear k1)
      | (go_at_call 39; (with_reducible refine (compBegun _).mono ?_); rintro r w1 ⟨rfl, k1⟩; have K0 := Lib.hid (ktr K0.out k1); clear k1))
    go_ret
    exact ⟨rfl, K0.out⟩

theorem cworth_plain (u p x m : Int) (w : World) : Calls Try.prog 11 #[.int .i64 u, .int .i64 p, .int .i64 x, .int .i64 m] w fun r w' => r = .returned (.bool true) ∧ Kpt w w' := by
  have D1 := wt_is u p x
  by_cases he : wthE u p x = 0
  · obtain ⟨hb, hq⟩ := wthE_0 he
    obtain ⟨hu, hx, hp⟩ := wth_t hb
    have c := cost_bd hu hp
    have d := wth_bd hu hx hp
    have b2 := wth_mk hu (x := 0) (by omega) hp
    have b3 := wth_mk hu (x := 10000) (by omega) hp
    have D2 := wt_is u p 0
    have D3 := wt_is u p 10000
    have v2 : wthQ u p 0 = u * p / 10000 := by unfold wthQ wthV; rw [if_pos b2]; simp
    have v3 : wthQ u p 10000 = 2 * (u * p / 10000) := by unfold wthQ wthV; rw [if_pos b3, Int.mul_ediv_cancel _ (by decide)]; omega
    rw [he, hq] at D1
    rw [show wthE u p 0 = 0 by unfold wthE; rw [if_pos b2], v2] at D2
    rw [show wthE u p 10000 = 0 by unfold wthE; rw [if_pos b3], v3] at D3
    refine cworth_ok u p x m (wthV u p x) (u * p / 10000) (wthQ u p m) (wthE u p m) c.1 c.2 (by unfold wthV; omega) (by unfold wthV; omega) (fun h => ?_) D1 D2 D3 (wt_is u p m) w
    obtain ⟨hb4, hq4⟩ := wthE_0 h
    rw [hq4]
    unfold wthV
    by_cases hm : m < x
    · exact .inl hm
    · have h1 : u * p / 10000 * x ≤ u * p / 10000 * m := Int.mul_le_mul_of_nonneg_left (by omega) c.1
      have h2 := Int.ediv_le_ediv (c := 10000) (by decide) h1
      exact .inr (by omega)
  · rw [(wthE_3 he).1] at D1
    exact cworth_no u p x m _ he D1 w

end Go.Proofs.Ytoakibgekeajeaa
