/-
  What Worth and Limit of package comp answer, whatever they are handed.
-/
import Derived.Test.YtgccipmeiceonaaCost
namespace Go.Proofs.Ytgccipmeiceonaa
open Go.RowKit
set_option linter.unusedVariables false

def wthB (u p x : Int) : Bool := decide (0 ≤ u ∧ u ≤ 1073741824) && decide (0 ≤ x ∧ x ≤ 10000) && prcB p
theorem wth_t {u p x : Int} (h : wthB u p x = true) : (0 ≤ u ∧ u ≤ 1073741824) ∧ (0 ≤ x ∧ x ≤ 10000) ∧ 0 ≤ p ∧ p ≤ 1099511627776 := by
  unfold wthB at h
  simp only [Bool.and_eq_true] at h
  exact ⟨of_decide_eq_true h.1.1, of_decide_eq_true h.1.2, prc_t h.2⟩
theorem wth_mk {u p x : Int} (h1 : 0 ≤ u ∧ u ≤ 1073741824) (h2 : 0 ≤ x ∧ x ≤ 10000) (h3 : 0 ≤ p ∧ p ≤ 1099511627776) : wthB u p x = true := by
  unfold wthB prcB
  rw [decide_eq_true h1, decide_eq_true h2, decide_eq_true h3]; rfl
def wthE (u p x : Int) : Int := if wthB u p x = true then 0 else 3
def wthV (u p x : Int) : Int := u * p / 10000 + u * p / 10000 * x / 10000
def wthQ (u p x : Int) : Int := if wthB u p x = true then wthV u p x else 0
theorem wth_bd {u p x : Int} (h1 : 0 ≤ u ∧ u ≤ 1073741824) (h2 : 0 ≤ x ∧ x ≤ 10000) (h3 : 0 ≤ p ∧ p ≤ 1099511627776) : 0 ≤ u * p / 10000 * x / 10000 ∧ u * p / 10000 * x / 10000 ≤ u * p / 10000 := by
  have c := cost_bd h1 h3
  have a : 0 ≤ u * p / 10000 * x := Int.mul_nonneg c.1 h2.1
  have b : u * p / 10000 * x ≤ u * p / 10000 * 10000 := Int.mul_le_mul_of_nonneg_left h2.2 c.1
  omega
set_option maxHeartbeats 1000000 in
theorem worth_any (u p x : Int) (w : World) : Calls Try.prog 15 #[.int .i64 u, .int .i64 p, .int .i64 x] w fun e w' => e = .returned (.tuple #[.int .i64 (wthQ u p x), .int .i64 (wthE u p x)]) ∧ Kpt w w' := by
  by_cases hu : 0 ≤ u ∧ u ≤ 1073741824
  · by_cases hr : 0 ≤ x ∧ x ≤ 10000
    · have CA := Lib.hid (fun w => cost_any u p w)
      have cd := cos_dly (p := p) hu
      rw [cd.1, cd.2] at CA
      have y1 : ¬ u < 0 := by omega
      have y2 : ¬ 1073741824 < u := by omega
      have y3 : ¬ x < 0 := by omega
      have y4 : ¬ 10000 < x := by omega
      cases hp : prcB p with
      | true =>
        have hb : wthB u p x = true := wth_mk hu hr (prc_t hp)
        have hE : wthE u p x = 0 := by unfold wthE; rw [if_pos hb]
        have hQ : wthQ u p x = u * p / 10000 + u * p / 10000 * x / 10000 := by unfold wthQ; rw [if_pos hb]; rfl
        rw [hp, if_pos rfl, if_pos rfl] at CA
        rw [hE, hQ]
        have c := cost_bd hu (prc_t hp)
        have d := wth_bd hu hr (prc_t hp)
        have PT := Lib.hid (fun w => part_ok (u * p / 10000) x 10000 (amt_mk (by omega) (by omega)) (rng_mk hr.1 (by omega) (by decide) (by decide)) (amt_mk (by omega) (by omega)) w)
        obtain ⟨c0, c1⟩ := c
        obtain ⟨d0, d1⟩ := d
        clear hE hQ hb cd hu hr hp
        generalize u * p / 10000 = k at *
        generalize cosR u p = m at *
        generalize k * x / 10000 = n at *
        generalize k * x % 10000 = o at *
        go_enter Try.func15, Try.ntmps15
        go_wp2_with (first
          | (go_at_call 48; (with_reducible refine (CA.out _).mono ?_); rintro e w1 ⟨rfl, g1⟩)
          | (go_at_call 49; (with_reducible refine (PT.out _).mono ?_); rintro e w2 ⟨rfl, g2⟩))
        go_ret2
        exact ⟨rfl, ktr g1 g2.kpt⟩
      | false =>
        have hb : wthB u p x = false := by unfold wthB; rw [hp]; simp
        have hE : wthE u p x = 3 := by unfold wthE; rw [hb]; rfl
        have hQ : wthQ u p x = 0 := by unfold wthQ; rw [hb]; rfl
        rw [hp, if_neg (by decide), if_neg (by decide)] at CA
        rw [hE, hQ]
        clear hE hQ hb cd hu hr hp
        generalize cosR u p = m at *
        go_enter Try.func15, Try.ntmps15
        go_wp2_with (go_at_call 48; (with_reducible refine (CA.out _).mono ?_); rintro e w1 ⟨rfl, g1⟩)
        go_ret2
        exact ⟨rfl, g1⟩
    · have hb : wthB u p x = false := by unfold wthB; rw [decide_eq_false hr]; simp
      have hE : wthE u p x = 3 := by unfold wthE; rw [hb]; rfl
      have hQ : wthQ u p x = 0 := by unfold wthQ; rw [hb]; rfl
      rw [hE, hQ]
      have y1 : ¬ u < 0 := by omega
      have y2 : ¬ 1073741824 < u := by omega
      by_cases y3 : x < 0
      · clear hE hQ hb hu hr
        go_enter Try.func15, Try.ntmps15
        go_wp2
        go_ret2
        exact ⟨rfl, Kpt.refl _⟩
      · have y4 : 10000 < x := by omega
        clear hE hQ hb hu hr
        go_enter Try.func15, Try.ntmps15
        go_wp2
        go_ret2
        exact ⟨rfl, Kpt.refl _⟩
  · have hb : wthB u p x = false := by unfold wthB; rw [decide_eq_false hu]; simp
    have hE : wthE u p x = 3 := by unfold wthE; rw [hb]; rfl
    have hQ : wthQ u p x = 0 := by unfold wthQ; rw [hb]; rfl
    rw [hE, hQ]
    by_cases y3 : u < 0
    · clear hE hQ hb hu
      go_enter Try.func15, Try.ntmps15
      go_wp2
      go_ret2
      exact ⟨rfl, Kpt.refl _⟩
    · have y4 : 1073741824 < u := by omega
      clear hE hQ hb hu
      go_enter Try.func15, Try.ntmps15
      go_wp2
      go_ret2
      exact ⟨rfl, Kpt.refl _⟩

def limB (p s m : Int) : Bool := prcB p && prcB s && decide (0 ≤ m ∧ m ≤ 10000)
theorem lim_t {p s m : Int} (h : limB p s m = true) : (0 ≤ p ∧ p ≤ 1099511627776) ∧ (0 ≤ s ∧ s ≤ 1099511627776) ∧ 0 ≤ m ∧ m ≤ 10000 := by
  unfold limB at h
  simp only [Bool.and_eq_true] at h
  exact ⟨prc_t h.1.1, prc_t h.1.2, of_decide_eq_true h.2⟩
theorem lim_mk {p s m : Int} (h1 : 0 ≤ p ∧ p ≤ 1099511627776) (h2 : 0 ≤ s ∧ s ≤ 1099511627776) (h3 : 0 ≤ m ∧ m ≤ 10000) : limB p s m = true := by
  unfold limB prcB
  rw [decide_eq_true h1, decide_eq_true h2, decide_eq_true h3]; rfl
def limE (p s m : Int) : Int := if limB p s m = true then 0 else 3
def limV (p s m : Int) : Int := max (s - s * m / 10000) (min p (s + s * m / 10000))
def limQ (p s m : Int) : Int := if limB p s m = true then limV p s m else 0
theorem lim_bd {s m : Int} (h2 : 0 ≤ s ∧ s ≤ 1099511627776) (h3 : 0 ≤ m ∧ m ≤ 10000) : 0 ≤ s * m / 10000 ∧ s * m / 10000 ≤ s := by
  have a : 0 ≤ s * m := Int.mul_nonneg h2.1 h3.1
  have b : s * m ≤ s * 10000 := Int.mul_le_mul_of_nonneg_left h3.2 h2.1
  omega
set_option maxHeartbeats 1000000 in
theorem limit_any (p s m : Int) (w : World) : Calls Try.prog 18 #[.int .i64 p, .int .i64 s, .int .i64 m] w fun e w' => e = .returned (.tuple #[.int .i64 (limQ p s m), .int .i64 (limE p s m)]) ∧ Kpt w w' := by
  cases hp : prcB p with
  | false =>
    have hb : limB p s m = false := by unfold limB; rw [hp]; simp
    have hE : limE p s m = 3 := by unfold limE; rw [hb]; rfl
    have hQ : limQ p s m = 0 := by unfold limQ; rw [hb]; rfl
    rw [hE, hQ]
    have P1 := Lib.hid (fun w => pcheck_no p hp w)
    clear hE hQ hb hp
    go_enter Try.func18, Try.ntmps18
    go_wp2_with (go_at_call 73; (with_reducible refine (P1.out _).mono ?_); rintro e w1 ⟨rfl, rfl⟩)
    go_ret2
    exact ⟨rfl, Kpt.refl _⟩
  | true =>
    have P1 := Lib.hid (fun w => pcheck_ok p hp w)
    cases hs : prcB s with
    | false =>
      have hb : limB p s m = false := by unfold limB; rw [hs]; simp
      have hE : limE p s m = 3 := by unfold limE; rw [hb]; rfl
      have hQ : limQ p s m = 0 := by unfold limQ; rw [hb]; rfl
      rw [hE, hQ]
      have P2 := Lib.hid (fun w => pcheck_no s hs w)
      clear hE hQ hb hp hs
      go_enter Try.func18, Try.ntmps18
      go_wp2_with (go_at_call 73; first
        | ((with_reducible refine (P1.out _).mono ?_); rintro e w1 ⟨rfl, rfl⟩)
        | ((with_reducible refine (P2.out _).mono ?_); rintro e w1 ⟨rfl, rfl⟩))
      go_ret2
      exact ⟨rfl, Kpt.refl _⟩
    | true =>
      have P2 := Lib.hid (fun w => pcheck_ok s hs w)
      by_cases hm : 0 ≤ m ∧ m ≤ 10000
      · have hb : limB p s m = true := lim_mk (prc_t hp) (prc_t hs) hm
        have hE : limE p s m = 0 := by unfold limE; rw [if_pos hb]
        have hQ : limQ p s m = max (s - s * m / 10000) (min p (s + s * m / 10000)) := by unfold limQ; rw [if_pos hb]; rfl
        rw [hE, hQ]
        have y1 : ¬ m < 0 := by omega
        have y2 : ¬ 10000 < m := by omega
        have s0 := prc_t hs
        have p0 := prc_t hp
        have d := lim_bd s0 hm
        have PT := Lib.hid (fun w => part_ok s m 10000 (amt_mk (by omega) (by omega)) (rng_mk hm.1 (by omega) (by decide) (by decide)) (amt_mk (by omega) (by omega)) w)
        obtain ⟨d0, d1⟩ := d
        obtain ⟨p1, p2⟩ := p0
        obtain ⟨s1, s2⟩ := s0
        clear hE hQ hb hm hs hp
        generalize s * m / 10000 = n at *
        generalize s * m % 10000 = o at *
        go_enter Try.func18, Try.ntmps18
        go_wp2_with (first
          | (go_at_call 73; first
            | ((with_reducible refine (P1.out _).mono ?_); rintro e w1 ⟨rfl, rfl⟩)
            | ((with_reducible refine (P2.out _).mono ?_); rintro e w1 ⟨rfl, rfl⟩))
          | (go_at_call 49; (with_reducible refine (PT.out _).mono ?_); rintro e w2 ⟨rfl, g2⟩))
        go_ret2
        exact ⟨rfl, g2.kpt⟩
      · have hb : limB p s m = false := by unfold limB; rw [decide_eq_false hm]; simp
        have hE : limE p s m = 3 := by unfold limE; rw [hb]; rfl
        have hQ : limQ p s m = 0 := by unfold limQ; rw [hb]; rfl
        rw [hE, hQ]
        by_cases y1 : m < 0
        · clear hE hQ hb hp hs hm
          go_enter Try.func18, Try.ntmps18
          go_wp2_with (go_at_call 73; first
            | ((with_reducible refine (P1.out _).mono ?_); rintro e w1 ⟨rfl, rfl⟩)
            | ((with_reducible refine (P2.out _).mono ?_); rintro e w1 ⟨rfl, rfl⟩))
          go_ret2
          exact ⟨rfl, Kpt.refl _⟩
        · have y2 : 10000 < m := by omega
          clear hE hQ hb hp hs hm
          go_enter Try.func18, Try.ntmps18
          go_wp2_with (go_at_call 73; first
            | ((with_reducible refine (P1.out _).mono ?_); rintro e w1 ⟨rfl, rfl⟩)
            | ((with_reducible refine (P2.out _).mono ?_); rintro e w1 ⟨rfl, rfl⟩))
          go_ret2
          exact ⟨rfl, Kpt.refl _⟩

end Go.Proofs.Ytgccipmeiceonaa
