/-
  CompWorth and CompLimit of the reference: what Worth and Limit of package comp answer.
-/
import Derived.Test.YtgccipmeiceonaaRefPof
import Derived.Test.YtgccipmeiceonaaRefPrc
import Derived.Test.YtgccipmeiceonaaCompA
namespace Go.Proofs.Ytgccipmeiceonaa
open Go.RowKit
set_option linter.unusedVariables false

def RwtIs (u p x n e : Int) : Prop := ∀ w, Calls Try.prog 19 #[.int .i64 u, .int .i64 p, .int .i64 x] w fun r w' => r = .returned (.tuple #[.int .i64 n, .int .i64 e]) ∧ Kpt w w'
theorem RwtIs.run {u p x n e : Int} (h : RwtIs u p x n e) (w : World) : Calls Try.prog 19 #[.int .i64 u, .int .i64 p, .int .i64 x] w fun r w' => r = .returned (.tuple #[.int .i64 n, .int .i64 e]) ∧ Kpt w w' := h w
set_option maxHeartbeats 2000000 in
theorem rwt_is (u p x : Int) : RwtIs u p x (wthQ u p x) (wthE u p x) := by
  intro w
  by_cases hu : 0 ≤ u ∧ u ≤ 1073741824
  · have B1 := Lib.hid (fun w => rbt_any u 0 1073741824 true (by unfold btw; exact decide_eq_true hu) w)
    by_cases hr : 0 ≤ x ∧ x ≤ 10000
    · have B2 := Lib.hid (fun w => rbt_any x 0 10000 true (by unfold btw; exact decide_eq_true hr) w)
      have PC := Lib.hid (fun w => rprc_run p w)
      cases hp : prcB p with
      | true =>
        have hb : wthB u p x = true := wth_mk hu hr (prc_t hp)
        have hE : wthE u p x = 0 := by unfold wthE; rw [if_pos hb]
        have hQ : wthQ u p x = u * p / 10000 + u * p / 10000 * x / 10000 := by unfold wthQ; rw [if_pos hb]; rfl
        rw [hp, if_pos rfl] at PC
        rw [hE, hQ]
        have c := cost_bd hu (prc_t hp)
        have d := wth_bd hu hr (prc_t hp)
        have pb := prc_t hp
        have P1 := Lib.hid (pof_is (a := u) (b := p) (c := 10000) (by omega) (by omega) (by omega) (by omega))
        have P2 := Lib.hid (pof_is (a := u * p / 10000) (b := x) (c := 10000) (by omega) (by omega) (by omega) (by omega))
        obtain ⟨c0, c1⟩ := c
        obtain ⟨d0, d1⟩ := d
        clear hE hQ hb hu hr hp pb
        generalize u * p / 10000 = k at *
        generalize u * p % 10000 = m at *
        generalize k * x / 10000 = n at *
        generalize k * x % 10000 = o at *
        go_enter Try.func19, Try.ntmps19
        go_wp2_with (first
          | (go_at_call 61; (with_reducible refine (B1.out _).mono ?_); rintro e w1 ⟨rfl, rfl⟩)
          | (go_at_call 61; (with_reducible refine (B2.out _).mono ?_); rintro e w1 ⟨rfl, rfl⟩)
          | (go_at_call 62; (with_reducible refine (PC.out _).mono ?_); rintro e w1 ⟨rfl, rfl⟩)
          | (go_at_call 77; (with_reducible refine (P1.out.run _).mono ?_); rintro e w1 ⟨rfl, rfl⟩)
          | (go_at_call 77; (with_reducible refine (P2.out.run _).mono ?_); rintro e w2 ⟨rfl, rfl⟩)
          | fail)
        go_ret2
        exact ⟨rfl, Kpt.refl _⟩
      | false =>
        have hb : wthB u p x = false := by unfold wthB; rw [hp]; simp
        have hE : wthE u p x = 3 := by unfold wthE; rw [hb]; rfl
        have hQ : wthQ u p x = 0 := by unfold wthQ; rw [hb]; rfl
        rw [hp, if_neg (by decide)] at PC
        rw [hE, hQ]
        clear hE hQ hb hu hr hp
        go_enter Try.func19, Try.ntmps19
        go_wp2_with (first
          | (go_at_call 61; (with_reducible refine (B1.out _).mono ?_); rintro e w1 ⟨rfl, rfl⟩)
          | (go_at_call 61; (with_reducible refine (B2.out _).mono ?_); rintro e w1 ⟨rfl, rfl⟩)
          | (go_at_call 62; (with_reducible refine (PC.out _).mono ?_); rintro e w1 ⟨rfl, rfl⟩)
          | fail)
        go_ret2
        exact ⟨rfl, Kpt.refl _⟩
    · have B2 := Lib.hid (fun w => rbt_any x 0 10000 false (by unfold btw; exact decide_eq_false hr) w)
      have hb : wthB u p x = false := by unfold wthB; rw [decide_eq_false hr]; simp
      have hE : wthE u p x = 3 := by unfold wthE; rw [hb]; rfl
      have hQ : wthQ u p x = 0 := by unfold wthQ; rw [hb]; rfl
      rw [hE, hQ]
      clear hE hQ hb hu hr
      go_enter Try.func19, Try.ntmps19
      go_wp2_with (first
        | (go_at_call 61; (with_reducible refine (B1.out _).mono ?_); rintro e w1 ⟨rfl, rfl⟩)
        | (go_at_call 61; (with_reducible refine (B2.out _).mono ?_); rintro e w1 ⟨rfl, rfl⟩)
        | fail)
      go_ret2
      exact ⟨rfl, Kpt.refl _⟩
  · have B1 := Lib.hid (fun w => rbt_any u 0 1073741824 false (by unfold btw; exact decide_eq_false hu) w)
    have hb : wthB u p x = false := by unfold wthB; rw [decide_eq_false hu]; simp
    have hE : wthE u p x = 3 := by unfold wthE; rw [hb]; rfl
    have hQ : wthQ u p x = 0 := by unfold wthQ; rw [hb]; rfl
    rw [hE, hQ]
    clear hE hQ hb hu
    go_enter Try.func19, Try.ntmps19
    go_wp2_with (first
      | (go_at_call 61; (with_reducible refine (B1.out _).mono ?_); rintro e w1 ⟨rfl, rfl⟩)
      | fail)
    go_ret2
    exact ⟨rfl, Kpt.refl _⟩

theorem lim_way {p s a : Int} (hp : 0 ≤ p ∧ p ≤ 1099511627776) (hs : 0 ≤ s ∧ s ≤ 1099511627776) (ha : 0 ≤ a ∧ a ≤ s) :
    (s + a < p ∧ max (s - a) (min p (s + a)) = s + a) ∨ (p < s - a ∧ max (s - a) (min p (s + a)) = s - a) ∨ (¬ s + a < p ∧ ¬ p < s - a ∧ max (s - a) (min p (s + a)) = p) := by omega
set_option maxHeartbeats 2000000 in
theorem rlim_any (p s m : Int) (w : World) : Calls Try.prog 22 #[.int .i64 p, .int .i64 s, .int .i64 m] w fun e w' => e = .returned (.tuple #[.int .i64 (limQ p s m), .int .i64 (limE p s m)]) ∧ Kpt w w' := by
  have PC := Lib.hid (fun w => rprc_run p w)
  have PS := Lib.hid (fun w => rprc_run s w)
  cases hp : prcB p with
  | false =>
    have hb : limB p s m = false := by unfold limB; rw [hp]; simp
    have hE : limE p s m = 3 := by unfold limE; rw [hb]; rfl
    have hQ : limQ p s m = 0 := by unfold limQ; rw [hb]; rfl
    rw [hE, hQ]
    rw [hp, if_neg (by decide)] at PC
    clear hE hQ hb hp PS
    go_enter Try.func22, Try.ntmps22
    go_wp2_with (first
      | (go_at_call 62; (with_reducible refine (PC.out _).mono ?_); rintro e w1 ⟨rfl, rfl⟩)
      | fail)
    go_ret2
    exact ⟨rfl, Kpt.refl _⟩
  | true =>
    rw [hp, if_pos rfl] at PC
    cases hs : prcB s with
    | false =>
      have hb : limB p s m = false := by unfold limB; rw [hs]; simp
      have hE : limE p s m = 3 := by unfold limE; rw [hb]; rfl
      have hQ : limQ p s m = 0 := by unfold limQ; rw [hb]; rfl
      rw [hE, hQ]
      rw [hs, if_neg (by decide)] at PS
      clear hE hQ hb hp hs
      go_enter Try.func22, Try.ntmps22
      go_wp2_with (first
        | (go_at_call 62; (with_reducible refine (PC.out _).mono ?_); rintro e w1 ⟨rfl, rfl⟩)
        | (go_at_call 62; (with_reducible refine (PS.out _).mono ?_); rintro e w1 ⟨rfl, rfl⟩)
        | fail)
      go_ret2
      exact ⟨rfl, Kpt.refl _⟩
    | true =>
      rw [hs, if_pos rfl] at PS
      by_cases hm : 0 ≤ m ∧ m ≤ 10000
      · have B2 := Lib.hid (fun w => rbt_any m 0 10000 true (by unfold btw; exact decide_eq_true hm) w)
        have hb : limB p s m = true := lim_mk (prc_t hp) (prc_t hs) hm
        have hE : limE p s m = 0 := by unfold limE; rw [if_pos hb]
        have hQ : limQ p s m = max (s - s * m / 10000) (min p (s + s * m / 10000)) := by unfold limQ; rw [if_pos hb]; rfl
        rw [hE, hQ]
        have s0 := prc_t hs
        have p0 := prc_t hp
        have d := lim_bd s0 hm
        have P1 := Lib.hid (pof_is (a := s) (b := m) (c := 10000) (by omega) (by omega) (by omega) (by omega))
        have way := lim_way p0 s0 d
        obtain ⟨d0, d1⟩ := d
        obtain ⟨p1, p2⟩ := p0
        obtain ⟨s1, s2⟩ := s0
        clear hE hQ hb hm hs hp
        generalize s * m / 10000 = n at *
        generalize s * m % 10000 = o at *
        rcases way with ⟨y1, e1⟩ | ⟨y1, e1⟩ | ⟨y1, y2, e1⟩
        · rw [e1]; clear e1
          have y3 : ¬ s + n < s - n := by omega
          by_cases y4 : 1099511627776 < s + n
          · omega
          · go_enter Try.func22, Try.ntmps22
            go_wp2_with (first
              | (go_at_call 62; (with_reducible refine (PC.out _).mono ?_); rintro e w1 ⟨rfl, rfl⟩)
              | (go_at_call 62; (with_reducible refine (PS.out _).mono ?_); rintro e w1 ⟨rfl, rfl⟩)
              | (go_at_call 61; (with_reducible refine (B2.out _).mono ?_); rintro e w1 ⟨rfl, rfl⟩)
              | (go_at_call 77; (with_reducible refine (P1.out.run _).mono ?_); rintro e w1 ⟨rfl, rfl⟩)
              | fail)
            go_ret2
            exact ⟨rfl, Kpt.refl _⟩
        · rw [e1]; clear e1
          have y3 : ¬ s + n < p := by omega
          have y4 : ¬ 1099511627776 < s - n := by omega
          go_enter Try.func22, Try.ntmps22
          go_wp2_with (first
            | (go_at_call 62; (with_reducible refine (PC.out _).mono ?_); rintro e w1 ⟨rfl, rfl⟩)
            | (go_at_call 62; (with_reducible refine (PS.out _).mono ?_); rintro e w1 ⟨rfl, rfl⟩)
            | (go_at_call 61; (with_reducible refine (B2.out _).mono ?_); rintro e w1 ⟨rfl, rfl⟩)
            | (go_at_call 77; (with_reducible refine (P1.out.run _).mono ?_); rintro e w1 ⟨rfl, rfl⟩)
            | fail)
          go_ret2
          exact ⟨rfl, Kpt.refl _⟩
        · rw [e1]; clear e1
          have y4 : ¬ 1099511627776 < p := by omega
          go_enter Try.func22, Try.ntmps22
          go_wp2_with (first
            | (go_at_call 62; (with_reducible refine (PC.out _).mono ?_); rintro e w1 ⟨rfl, rfl⟩)
            | (go_at_call 62; (with_reducible refine (PS.out _).mono ?_); rintro e w1 ⟨rfl, rfl⟩)
            | (go_at_call 61; (with_reducible refine (B2.out _).mono ?_); rintro e w1 ⟨rfl, rfl⟩)
            | (go_at_call 77; (with_reducible refine (P1.out.run _).mono ?_); rintro e w1 ⟨rfl, rfl⟩)
            | fail)
          go_ret2
          exact ⟨rfl, Kpt.refl _⟩
      · have B2 := Lib.hid (fun w => rbt_any m 0 10000 false (by unfold btw; exact decide_eq_false hm) w)
        have hb : limB p s m = false := by unfold limB; rw [decide_eq_false hm]; simp
        have hE : limE p s m = 3 := by unfold limE; rw [hb]; rfl
        have hQ : limQ p s m = 0 := by unfold limQ; rw [hb]; rfl
        rw [hE, hQ]
        clear hE hQ hb hp hs hm
        go_enter Try.func22, Try.ntmps22
        go_wp2_with (first
          | (go_at_call 62; (with_reducible refine (PC.out _).mono ?_); rintro e w1 ⟨rfl, rfl⟩)
          | (go_at_call 62; (with_reducible refine (PS.out _).mono ?_); rintro e w1 ⟨rfl, rfl⟩)
          | (go_at_call 61; (with_reducible refine (B2.out _).mono ?_); rintro e w1 ⟨rfl, rfl⟩)
          | fail)
        go_ret2
        exact ⟨rfl, Kpt.refl _⟩

end Go.Proofs.Ytgccipmeiceonaa
