/-
  What Cost of package price answers, whatever it is handed; what Daily of package penalty answers.
-/
import Derived.Test.YtgccipmeiceonaaPriceK
import Derived.Test.YtgccipmeiceonaaKept
namespace Go.Proofs.Ytgccipmeiceonaa
open Go.RowKit
set_option linter.unusedVariables false

def cosE (u p : Int) : Int := if amtB u = false then 3 else if prcB p = false then 3 else if amtB (u * p / 10000) = true then 0 else 8
def cosQ (u p : Int) : Int := if cosE u p = 0 then u * p / 10000 else 0
def cosR (u p : Int) : Int := if cosE u p = 0 then u * p % 10000 else 0
theorem cos_t {u p : Int} (h : cosE u p = 0) : amtB u = true ∧ prcB p = true ∧ amtB (u * p / 10000) = true ∧ cosQ u p = u * p / 10000 ∧ cosR u p = u * p % 10000 := by
  unfold cosQ cosR
  rw [if_pos h, if_pos h]
  unfold cosE at h
  by_cases a : amtB u = false
  · rw [if_pos a] at h; cases h
  · rw [if_neg a] at h
    by_cases b : prcB p = false
    · rw [if_pos b] at h; cases h
    · rw [if_neg b] at h
      by_cases c : amtB (u * p / 10000) = true
      · exact ⟨by simpa using a, by simpa using b, c, rfl, rfl⟩
      · rw [if_neg c] at h; cases h
theorem cos_f {u p : Int} (h : cosE u p ≠ 0) : cosQ u p = 0 ∧ cosR u p = 0 ∧ (cosE u p = 3 ∨ cosE u p = 8) := by
  unfold cosQ cosR
  rw [if_neg h, if_neg h]
  refine ⟨rfl, rfl, ?_⟩
  unfold cosE at h ⊢
  split
  · exact .inl rfl
  · split
    · exact .inl rfl
    · split
      · rename_i a b c; rw [if_neg a, if_neg b, if_pos c] at h; exact absurd rfl h
      · exact .inr rfl
theorem cost_any (u p : Int) (w : World) : Calls Try.prog 48 #[.int .i64 u, .int .i64 p] w fun e w' => e = .returned (.tuple #[.int .i64 (cosQ u p), .int .i64 (cosR u p), .int .i64 (cosE u p)]) ∧ Kpt w w' := by
  have key : Calls Try.prog 48 #[.int .i64 u, .int .i64 p] w fun e w' => e = .returned (.tuple #[.int .i64 (cosQ u p), .int .i64 (cosR u p), .int .i64 (cosE u p)]) ∧ Grew w w' := by
    unfold cosQ cosR cosE
    cases ha : amtB u with
    | false => exact cost_no u p ha w
    | true =>
      cases hp : prcB p with
      | false => exact cost_price u p ha hp w
      | true =>
        obtain ⟨p0, p1⟩ := prc_t hp
        have hr : rngB p 10000 = true := rng_mk p0 p1 (by decide) (by decide)
        cases hq : amtB (u * p / 10000) with
        | true => exact cost_is u p _ _ 0 ha hp (fun w => part_ok u p 10000 ha hr hq w) w
        | false => exact cost_is u p 0 0 8 ha hp (fun w => part_wide u p 10000 ha hr hq w) w
  exact key.mono fun e w' h => ⟨h.1, h.2.kpt⟩


def dlyB (u p r : Int) : Bool := decide (0 ≤ u ∧ u ≤ 1073741824) && decide (0 ≤ r ∧ r ≤ 1000000) && prcB p
theorem dly_t {u p r : Int} (h : dlyB u p r = true) : (0 ≤ u ∧ u ≤ 1073741824) ∧ (0 ≤ r ∧ r ≤ 1000000) ∧ 0 ≤ p ∧ p ≤ 1099511627776 := by
  unfold dlyB at h
  simp only [Bool.and_eq_true] at h
  exact ⟨of_decide_eq_true h.1.1, of_decide_eq_true h.1.2, prc_t h.2⟩
theorem dly_mk {u p r : Int} (h1 : 0 ≤ u ∧ u ≤ 1073741824) (h2 : 0 ≤ r ∧ r ≤ 1000000) (h3 : 0 ≤ p ∧ p ≤ 1099511627776) : dlyB u p r = true := by
  unfold dlyB prcB
  rw [decide_eq_true h1, decide_eq_true h2, decide_eq_true h3]; rfl
def dlyE (u p r : Int) : Int := if dlyB u p r = true then 0 else 3
def dlyV (u p r : Int) : Int := u * p / 10000 * r / 1000000
def dlyQ (u p r : Int) : Int := if dlyB u p r = true then dlyV u p r else 0
theorem cost_bd {u p : Int} (h1 : 0 ≤ u ∧ u ≤ 1073741824) (h3 : 0 ≤ p ∧ p ≤ 1099511627776) : 0 ≤ u * p / 10000 ∧ u * p / 10000 ≤ 118059162071741130 := by
  have a : 0 ≤ u * p := Int.mul_nonneg h1.1 h3.1
  have b : u * p ≤ 1073741824 * 1099511627776 := Int.mul_le_mul h1.2 h3.2 h3.1 (by omega)
  omega
theorem dly_bd {u p r : Int} (h1 : 0 ≤ u ∧ u ≤ 1073741824) (h2 : 0 ≤ r ∧ r ≤ 1000000) (h3 : 0 ≤ p ∧ p ≤ 1099511627776) : 0 ≤ dlyV u p r ∧ dlyV u p r ≤ 118059162071741130 := by
  have c := cost_bd h1 h3
  unfold dlyV
  have a : 0 ≤ u * p / 10000 * r := Int.mul_nonneg c.1 h2.1
  have b : u * p / 10000 * r ≤ 118059162071741130 * 1000000 := Int.mul_le_mul c.2 h2.2 h2.1 (by omega)
  omega
theorem cos_dly {u p : Int} (h1 : 0 ≤ u ∧ u ≤ 1073741824) : cosE u p = (if prcB p = true then 0 else 3) ∧ cosQ u p = (if prcB p = true then u * p / 10000 else 0) := by
  have hu : amtB u = true := amt_mk (by omega) (by omega)
  cases hp : prcB p with
  | true =>
    have c := cost_bd h1 (prc_t hp)
    have hq : amtB (u * p / 10000) = true := amt_mk (by omega) (by omega)
    have e : cosE u p = 0 := by unfold cosE; rw [hu, hp, hq]; rfl
    exact ⟨by rw [e]; rfl, by unfold cosQ; rw [if_pos e]; rfl⟩
  | false =>
    have e : cosE u p = 3 := by unfold cosE; rw [hu, hp]; rfl
    exact ⟨by rw [e]; rfl, by unfold cosQ; rw [if_neg (by rw [e]; decide)]; rfl⟩
set_option maxHeartbeats 1000000 in
theorem daily_any (u p r : Int) (w : World) : Calls Try.prog 7 #[.int .i64 u, .int .i64 p, .int .i64 r] w fun e w' => e = .returned (.tuple #[.int .i64 (dlyQ u p r), .int .i64 (dlyE u p r)]) ∧ Kpt w w' := by
  by_cases hu : 0 ≤ u ∧ u ≤ 1073741824
  · by_cases hr : 0 ≤ r ∧ r ≤ 1000000
    · have CA := Lib.hid (fun w => cost_any u p w)
      have cd := cos_dly (p := p) hu
      rw [cd.1, cd.2] at CA
      have y1 : ¬ u < 0 := by omega
      have y2 : ¬ 1073741824 < u := by omega
      have y3 : ¬ r < 0 := by omega
      have y4 : ¬ 1000000 < r := by omega
      cases hp : prcB p with
      | true =>
        have hb : dlyB u p r = true := by unfold dlyB; rw [decide_eq_true hu, decide_eq_true hr, hp]; rfl
        have hE : dlyE u p r = 0 := by unfold dlyE; rw [if_pos hb]
        have hQ : dlyQ u p r = u * p / 10000 * r / 1000000 := by unfold dlyQ; rw [if_pos hb]; rfl
        rw [hp, if_pos rfl, if_pos rfl] at CA
        rw [hE, hQ]
        have c := cost_bd hu (prc_t hp)
        have PT := Lib.hid (fun w => part_ok (u * p / 10000) r 1000000 (amt_mk (by omega) (by omega)) (rng_mk hr.1 (by omega) (by decide) (by decide)) (amt_mk (by have := (dly_bd hu hr (prc_t hp)).1; unfold dlyV at this; omega) (by have := (dly_bd hu hr (prc_t hp)).2; unfold dlyV at this; omega)) w)
        clear hE hQ hb cd hu hr hp
        generalize u * p / 10000 = k at *
        generalize cosR u p = m at *
        generalize k * r / 1000000 = n at *
        generalize k * r % 1000000 = o at *
        go_enter Try.func7, Try.ntmps7
        go_wp2_with (first
          | (go_at_call 48; (with_reducible refine (CA.out _).mono ?_); rintro e w1 ⟨rfl, g1⟩)
          | (go_at_call 49; (with_reducible refine (PT.out _).mono ?_); rintro e w2 ⟨rfl, g2⟩))
        go_ret2
        exact ⟨rfl, ktr g1 g2.kpt⟩
      | false =>
        have hb : dlyB u p r = false := by unfold dlyB; rw [hp]; simp
        have hE : dlyE u p r = 3 := by unfold dlyE; rw [hb]; rfl
        have hQ : dlyQ u p r = 0 := by unfold dlyQ; rw [hb]; rfl
        rw [hp, if_neg (by decide), if_neg (by decide)] at CA
        rw [hE, hQ]
        clear hE hQ hb cd hu hr hp
        generalize cosR u p = m at *
        go_enter Try.func7, Try.ntmps7
        go_wp2_with (go_at_call 48; (with_reducible refine (CA.out _).mono ?_); rintro e w1 ⟨rfl, g1⟩)
        go_ret2
        exact ⟨rfl, g1⟩
    · have hb : dlyB u p r = false := by unfold dlyB; rw [decide_eq_false hr]; simp
      have hE : dlyE u p r = 3 := by unfold dlyE; rw [hb]; rfl
      have hQ : dlyQ u p r = 0 := by unfold dlyQ; rw [hb]; rfl
      rw [hE, hQ]
      have y1 : ¬ u < 0 := by omega
      have y2 : ¬ 1073741824 < u := by omega
      by_cases y3 : r < 0
      · clear hE hQ hb hu hr
        go_enter Try.func7, Try.ntmps7
        go_wp2
        go_ret2
        exact ⟨rfl, Kpt.refl _⟩
      · have y4 : 1000000 < r := by omega
        clear hE hQ hb hu hr
        go_enter Try.func7, Try.ntmps7
        go_wp2
        go_ret2
        exact ⟨rfl, Kpt.refl _⟩
  · have hb : dlyB u p r = false := by unfold dlyB; rw [decide_eq_false hu]; simp
    have hE : dlyE u p r = 3 := by unfold dlyE; rw [hb]; rfl
    have hQ : dlyQ u p r = 0 := by unfold dlyQ; rw [hb]; rfl
    rw [hE, hQ]
    by_cases y3 : u < 0
    · clear hE hQ hb hu
      go_enter Try.func7, Try.ntmps7
      go_wp2
      go_ret2
      exact ⟨rfl, Kpt.refl _⟩
    · have y4 : 1073741824 < u := by omega
      clear hE hQ hb hu
      go_enter Try.func7, Try.ntmps7
      go_wp2
      go_ret2
      exact ⟨rfl, Kpt.refl _⟩

end Go.Proofs.Ytgccipmeiceonaa
