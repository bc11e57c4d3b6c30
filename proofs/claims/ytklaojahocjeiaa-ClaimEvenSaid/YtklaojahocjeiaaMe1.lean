/-
  Merged: PriceK, Cost, DateMath, DateA, Week, Bools, Sl, FailA, FailB, FailC, FailS, FailD, MapIds, FailE.
-/
import Derived.Test.YtklaojahocjeiaaMe0
import Derived.Test.YtklaojahocjeiaaKept
import Derived.WalkSpells
import Derived.Below
import Derived.Test.YtklaojahocjeiaaBase
import Derived.Test.YtklaojahocjeiaaRow
import Derived.Test.YtklaojahocjeiaaBlk
import Derived.Test.YtklaojahocjeiaaTrip
import Derived.BigQuiet
import Derived.Laws.Rows
import Derived.Laws.Tables
import Derived.Laws.CopyOwn
import Derived.Maps.OwnOps
import Derived.Maps.OwnSet
-- PriceK
namespace Go.Proofs.Ytklaojahocjeiaa
open Go.RowKit
set_option linter.unusedVariables false

def prcB (p : Int) : Bool := decide (0 ≤ p ∧ p ≤ 1099511627776)
theorem prc_t {p : Int} (h : prcB p = true) : 0 ≤ p ∧ p ≤ 1099511627776 := of_decide_eq_true h
theorem prc_f {p : Int} (h : prcB p = false) : ¬ (0 ≤ p ∧ p ≤ 1099511627776) := of_decide_eq_false h
theorem prc_mk {p : Int} (h0 : 0 ≤ p) (h1 : p ≤ 1099511627776) : prcB p = true := decide_eq_true ⟨h0, h1⟩
theorem pcheck_ok (p : Int) (h : prcB p = true) (w : World) : Calls Try.prog 74 #[.int .i64 p] w fun e w' => e = .returned (.int .i64 0) ∧ w = w' := by
  obtain ⟨h0, h1⟩ := prc_t h
  clear h
  go_enter Try.func74, Try.ntmps74
  go_wp2
  go_ret
  exact ⟨rfl, rfl⟩
theorem pcheck_no (p : Int) (h : prcB p = false) (w : World) : Calls Try.prog 74 #[.int .i64 p] w fun e w' => e = .returned (.int .i64 3) ∧ w = w' := by
  have h' := prc_f h
  clear h
  by_cases a : p < 0
  · clear h'
    go_enter Try.func74, Try.ntmps74
    go_wp2
    go_ret
    exact ⟨rfl, rfl⟩
  · have b : 1099511627776 < p := by omega
    clear h'
    go_enter Try.func74, Try.ntmps74
    go_wp2
    go_ret
    exact ⟨rfl, rfl⟩

/-- what Part answers -/
def PartIs (a b c q r E : Int) : Prop := ∀ w, Calls Try.prog 75 #[.int .i64 a, .int .i64 b, .int .i64 c] w fun e w' => e = .returned (.tuple #[.int .i64 q, .int .i64 r, .int .i64 E]) ∧ Grew w w'
theorem PartIs.run {a b c q r E : Int} (h : PartIs a b c q r E) (w : World) : Calls Try.prog 75 #[.int .i64 a, .int .i64 b, .int .i64 c] w fun e w' => e = .returned (.tuple #[.int .i64 q, .int .i64 r, .int .i64 E]) ∧ Grew w w' := h w
theorem cost_no (u p : Int) (h : amtB u = false) (w : World) : Calls Try.prog 54 #[.int .i64 u, .int .i64 p] w fun e w' => e = .returned (.tuple #[.int .i64 0, .int .i64 0, .int .i64 3]) ∧ Grew w w' := by
  have C := Lib.hid (fun w => check_no u w h)
  clear h
  go_enter Try.func54, Try.ntmps54
  go_wp2_with (go_at_call 73; (with_reducible refine (C.out _).mono ?_); rintro e w1 ⟨rfl, g1⟩)
  go_ret3
  exact ⟨rfl, g1⟩
theorem cost_price (u p : Int) (h : amtB u = true) (hp : prcB p = false) (w : World) : Calls Try.prog 54 #[.int .i64 u, .int .i64 p] w fun e w' => e = .returned (.tuple #[.int .i64 0, .int .i64 0, .int .i64 3]) ∧ Grew w w' := by
  have C := Lib.hid (fun w => check_ok u w h)
  have D := Lib.hid (fun w => pcheck_no p hp w)
  clear h hp
  go_enter Try.func54, Try.ntmps54
  go_wp2_with (first
    | (go_at_call 73; (with_reducible refine (C.out _).mono ?_); rintro e w1 ⟨rfl, g1⟩)
    | (go_at_call 74; (with_reducible refine (D.out _).mono ?_); rintro e w' ⟨rfl, rfl⟩))
  go_ret3
  exact ⟨rfl, g1⟩
theorem cost_is (u p q r E : Int) (h : amtB u = true) (hp : prcB p = true) (P : PartIs u p 10000 q r E) (w : World) : Calls Try.prog 54 #[.int .i64 u, .int .i64 p] w fun e w' => e = .returned (.tuple #[.int .i64 q, .int .i64 r, .int .i64 E]) ∧ Grew w w' := by
  have C := Lib.hid (fun w => check_ok u w h)
  have D := Lib.hid (fun w => pcheck_ok p hp w)
  clear h hp
  go_enter Try.func54, Try.ntmps54
  go_wp2_with (first
    | (go_at_call 73; (with_reducible refine (C.out _).mono ?_); rintro e w1 ⟨rfl, g1⟩)
    | (go_at_call 74; (with_reducible refine (D.out _).mono ?_); rintro e w' ⟨rfl, rfl⟩)
    | (go_at_call 75; (with_reducible refine (P.run _).mono ?_); rintro e w2 ⟨rfl, g2⟩))
  go_ret3
  exact ⟨rfl, gtr g1 g2⟩

end Go.Proofs.Ytklaojahocjeiaa

-- Cost
namespace Go.Proofs.Ytklaojahocjeiaa
open Go.RowKit
set_option linter.unusedVariables false

def cosE (u p : Int) : Int := if amtB u = false then 3 else if prcB p = false then 3 else if amtB (u * p / 10000) = true then 0 else 8
def cosQ (u p : Int) : Int := if cosE u p = 0 then u * p / 10000 else 0
def cosR (u p : Int) : Int := if cosE u p = 0 then u * p % 10000 else 0
theorem cos_t {u p : Int} (h : cosE u p = 0) : amtB u = true ∧ prcB p = true ∧ amtB (u * p / 10000) = true ∧ cosQ u p = u * p / 10000 ∧ cosR u p = u * p % 10000 := by
  unfold cosQ cosR
  rw [if_pos h, if_pos h]
  unfold cosE at h
  by_cases a : amtB u = false
  · rw [if_pos a] at h; cases h
  · rw [if_neg a] at h
    by_cases b : prcB p = false
    · rw [if_pos b] at h; cases h
    · rw [if_neg b] at h
      by_cases c : amtB (u * p / 10000) = true
      · exact ⟨by simpa using a, by simpa using b, c, rfl, rfl⟩
      · rw [if_neg c] at h; cases h
theorem cos_f {u p : Int} (h : cosE u p ≠ 0) : cosQ u p = 0 ∧ cosR u p = 0 ∧ (cosE u p = 3 ∨ cosE u p = 8) := by
  unfold cosQ cosR
  rw [if_neg h, if_neg h]
  refine ⟨rfl, rfl, ?_⟩
  unfold cosE at h ⊢
  split
  · exact .inl rfl
  · split
    · exact .inl rfl
    · split
      · rename_i a b c; rw [if_neg a, if_neg b, if_pos c] at h; exact absurd rfl h
      · exact .inr rfl
theorem cost_any (u p : Int) (w : World) : Calls Try.prog 54 #[.int .i64 u, .int .i64 p] w fun e w' => e = .returned (.tuple #[.int .i64 (cosQ u p), .int .i64 (cosR u p), .int .i64 (cosE u p)]) ∧ Kpt w w' := by
  have key : Calls Try.prog 54 #[.int .i64 u, .int .i64 p] w fun e w' => e = .returned (.tuple #[.int .i64 (cosQ u p), .int .i64 (cosR u p), .int .i64 (cosE u p)]) ∧ Grew w w' := by
    unfold cosQ cosR cosE
    cases ha : amtB u with
    | false => exact cost_no u p ha w
    | true =>
      cases hp : prcB p with
      | false => exact cost_price u p ha hp w
      | true =>
        obtain ⟨p0, p1⟩ := prc_t hp
        have hr : rngB p 10000 = true := rng_mk p0 p1 (by decide) (by decide)
        cases hq : amtB (u * p / 10000) with
        | true => exact cost_is u p _ _ 0 ha hp (fun w => part_ok u p 10000 ha hr hq w) w
        | false => exact cost_is u p 0 0 8 ha hp (fun w => part_wide u p 10000 ha hr hq w) w
  exact key.mono fun e w' h => ⟨h.1, h.2.kpt⟩


def dlyB (u p r : Int) : Bool := decide (0 ≤ u ∧ u ≤ 1073741824) && decide (0 ≤ r ∧ r ≤ 1000000) && prcB p
theorem dly_t {u p r : Int} (h : dlyB u p r = true) : (0 ≤ u ∧ u ≤ 1073741824) ∧ (0 ≤ r ∧ r ≤ 1000000) ∧ 0 ≤ p ∧ p ≤ 1099511627776 := by
  unfold dlyB at h
  simp only [Bool.and_eq_true] at h
  exact ⟨of_decide_eq_true h.1.1, of_decide_eq_true h.1.2, prc_t h.2⟩
theorem dly_mk {u p r : Int} (h1 : 0 ≤ u ∧ u ≤ 1073741824) (h2 : 0 ≤ r ∧ r ≤ 1000000) (h3 : 0 ≤ p ∧ p ≤ 1099511627776) : dlyB u p r = true := by
  unfold dlyB prcB
  rw [decide_eq_true h1, decide_eq_true h2, decide_eq_true h3]; rfl
def dlyE (u p r : Int) : Int := if dlyB u p r = true then 0 else 3
def dlyV (u p r : Int) : Int := u * p / 10000 * r / 1000000
def dlyQ (u p r : Int) : Int := if dlyB u p r = true then dlyV u p r else 0
theorem cost_bd {u p : Int} (h1 : 0 ≤ u ∧ u ≤ 1073741824) (h3 : 0 ≤ p ∧ p ≤ 1099511627776) : 0 ≤ u * p / 10000 ∧ u * p / 10000 ≤ 118059162071741130 := by
  have a : 0 ≤ u * p := Int.mul_nonneg h1.1 h3.1
  have b : u * p ≤ 1073741824 * 1099511627776 := Int.mul_le_mul h1.2 h3.2 h3.1 (by omega)
  omega
theorem dly_bd {u p r : Int} (h1 : 0 ≤ u ∧ u ≤ 1073741824) (h2 : 0 ≤ r ∧ r ≤ 1000000) (h3 : 0 ≤ p ∧ p ≤ 1099511627776) : 0 ≤ dlyV u p r ∧ dlyV u p r ≤ 118059162071741130 := by
  have c := cost_bd h1 h3
  unfold dlyV
  have a : 0 ≤ u * p / 10000 * r := Int.mul_nonneg c.1 h2.1
  have b : u * p / 10000 * r ≤ 118059162071741130 * 1000000 := Int.mul_le_mul c.2 h2.2 h2.1 (by omega)
  omega
theorem cos_dly {u p : Int} (h1 : 0 ≤ u ∧ u ≤ 1073741824) : cosE u p = (if prcB p = true then 0 else 3) ∧ cosQ u p = (if prcB p = true then u * p / 10000 else 0) := by
  have hu : amtB u = true := amt_mk (by omega) (by omega)
  cases hp : prcB p with
  | true =>
    have c := cost_bd h1 (prc_t hp)
    have hq : amtB (u * p / 10000) = true := amt_mk (by omega) (by omega)
    have e : cosE u p = 0 := by unfold cosE; rw [hu, hp, hq]; rfl
    exact ⟨by rw [e]; rfl, by unfold cosQ; rw [if_pos e]; rfl⟩
  | false =>
    have e : cosE u p = 3 := by unfold cosE; rw [hu, hp]; rfl
    exact ⟨by rw [e]; rfl, by unfold cosQ; rw [if_neg (by rw [e]; decide)]; rfl⟩
end Go.Proofs.Ytklaojahocjeiaa

-- DateMath
namespace Go.Proofs.Ytklaojahocjeiaa

/-- a leap year -/
def leapB (y : Int) : Bool := decide (y % 4 = 0 ∧ (y % 100 ≠ 0 ∨ y % 400 = 0))
def lp (y : Int) : Int := if leapB y = true then 1 else 0
theorem lp_cases (y : Int) : (leapB y = true ∧ lp y = 1 ∧ y % 4 = 0 ∧ (y % 100 ≠ 0 ∨ y % 400 = 0)) ∨ (leapB y = false ∧ lp y = 0 ∧ (y % 4 ≠ 0 ∨ (y % 100 = 0 ∧ y % 400 ≠ 0))) := by
  unfold lp
  cases h : leapB y with
  | true => exact .inl ⟨rfl, by simp, of_decide_eq_true h⟩
  | false =>
    have := of_decide_eq_false h
    exact .inr ⟨rfl, by simp, by omega⟩
theorem lp_t {y : Int} (h : leapB y = true) : lp y = 1 := by unfold lp; rw [if_pos h]
theorem lp_f {y : Int} (h : leapB y = false) : lp y = 0 := by unfold lp; rw [h]; rfl
theorem leap_mk {y : Int} (h : y % 4 = 0 ∧ (y % 100 ≠ 0 ∨ y % 400 = 0)) : leapB y = true := decide_eq_true h
theorem leap_no {y : Int} (h : ¬ (y % 4 = 0 ∧ (y % 100 ≠ 0 ∨ y % 400 = 0))) : leapB y = false := decide_eq_false h
theorem lp_01 (y : Int) : 0 ≤ lp y ∧ lp y ≤ 1 := by rcases lp_cases y with h | h <;> omega

/-- the days ahead of a year -/
def yd (y : Int) : Int := 365 * (y - 1) + (y - 1) / 4 - (y - 1) / 100 + (y - 1) / 400
theorem yd_succ (y : Int) : yd (y + 1) = yd y + 365 + lp y := by
  unfold yd
  rcases lp_cases y with ⟨_, h, a, b⟩ | ⟨_, h, a⟩ <;> rw [h] <;> omega
theorem yd_mono {a b : Int} (h : a ≤ b) : yd a ≤ yd b := by unfold yd; omega
theorem yd_lt {a b : Int} (h : a < b) : yd a + 365 + lp a ≤ yd b := by rw [← yd_succ]; exact yd_mono h
theorem yd_bd {y : Int} (h1 : 1 ≤ y) (h2 : y ≤ 10000) : 0 ≤ yd y ∧ yd y ≤ 3652059 := by unfold yd; omega
theorem yd_400 (y : Int) : yd (y + 400) = yd y + 146097 := by unfold yd; omega
theorem leap_400 (y : Int) : leapB (y + 400) = leapB y := by
  unfold leapB; rw [show (y + 400) % 4 = y % 4 by omega, show (y + 400) % 100 = y % 100 by omega, show (y + 400) % 400 = y % 400 by omega]
theorem lp_400 (y : Int) : lp (y + 400) = lp y := by unfold lp; rw [leap_400]

/-- how long a month is -/
def dim (y m : Int) : Int := if m = 2 then 28 + lp y else if m = 4 ∨ m = 6 ∨ m = 9 ∨ m = 11 then 30 else 31
/-- the days of a year ahead of a month -/
def cum (y m : Int) : Int :=
  if m ≤ 1 then 0 else if m = 2 then 31 else if m = 3 then 59 + lp y else if m = 4 then 90 + lp y else if m = 5 then 120 + lp y else if m = 6 then 151 + lp y else if m = 7 then 181 + lp y else if m = 8 then 212 + lp y else if m = 9 then 243 + lp y else if m = 10 then 273 + lp y else if m = 11 then 304 + lp y else if m = 12 then 334 + lp y else 365 + lp y
theorem m12 {m : Int} (h1 : 1 ≤ m) (h2 : m ≤ 12) : m = 1 ∨ m = 2 ∨ m = 3 ∨ m = 4 ∨ m = 5 ∨ m = 6 ∨ m = 7 ∨ m = 8 ∨ m = 9 ∨ m = 10 ∨ m = 11 ∨ m = 12 := by omega
theorem dim_bd (y m : Int) : 28 ≤ dim y m ∧ dim y m ≤ 31 := by
  have := lp_01 y
  unfold dim; split
  · omega
  · split <;> omega
theorem cum_one (y : Int) : cum y 1 = 0 := rfl
theorem cum_13 (y : Int) : cum y 13 = 365 + lp y := rfl
theorem cum_succ (y : Int) {m : Int} (h1 : 1 ≤ m) (h2 : m ≤ 12) : cum y (m + 1) = cum y m + dim y m := by
  rcases m12 h1 h2 with h | h | h | h | h | h | h | h | h | h | h | h <;> subst h <;> simp [cum, dim] <;> omega
theorem cum_bd (y : Int) {m : Int} (h1 : 1 ≤ m) (h2 : m ≤ 12) : 0 ≤ cum y m ∧ cum y m + dim y m ≤ 365 + lp y := by
  have := lp_01 y
  rcases m12 h1 h2 with h | h | h | h | h | h | h | h | h | h | h | h <;> subst h <;> simp [cum, dim] <;> omega
theorem cum_lt (y : Int) {a b : Int} (h1 : 1 ≤ a) (h2 : a < b) (h3 : b ≤ 13) : cum y a + dim y a ≤ cum y b := by
  have := lp_01 y
  rcases m12 h1 (by omega) with h | h | h | h | h | h | h | h | h | h | h | h <;> subst h <;>
    · rcases (show b = 2 ∨ b = 3 ∨ b = 4 ∨ b = 5 ∨ b = 6 ∨ b = 7 ∨ b = 8 ∨ b = 9 ∨ b = 10 ∨ b = 11 ∨ b = 12 ∨ b = 13 by omega) with h | h | h | h | h | h | h | h | h | h | h | h <;> subst h <;> first | (exfalso; omega) | (simp [cum, dim] <;> omega)
theorem dim_400 (y m : Int) : dim (y + 400) m = dim y m := by unfold dim; rw [lp_400]
theorem cum_400 (y m : Int) : cum (y + 400) m = cum y m := by unfold cum; rw [lp_400]

/-- a date that is -/
def vldB (y m d : Int) : Bool := decide (1 ≤ y ∧ y ≤ 9999 ∧ 1 ≤ m ∧ m ≤ 12 ∧ 1 ≤ d ∧ d ≤ dim y m)
theorem vld_t {y m d : Int} (h : vldB y m d = true) : 1 ≤ y ∧ y ≤ 9999 ∧ 1 ≤ m ∧ m ≤ 12 ∧ 1 ≤ d ∧ d ≤ dim y m := of_decide_eq_true h
theorem vld_f {y m d : Int} (h : vldB y m d = false) : ¬ (1 ≤ y ∧ y ≤ 9999 ∧ 1 ≤ m ∧ m ≤ 12 ∧ 1 ≤ d ∧ d ≤ dim y m) := of_decide_eq_false h
theorem vld_mk {y m d : Int} (h : 1 ≤ y ∧ y ≤ 9999 ∧ 1 ≤ m ∧ m ≤ 12 ∧ 1 ≤ d ∧ d ≤ dim y m) : vldB y m d = true := decide_eq_true h
theorem vld_no {y m d : Int} (h : ¬ (1 ≤ y ∧ y ≤ 9999 ∧ 1 ≤ m ∧ m ≤ 12 ∧ 1 ≤ d ∧ d ≤ dim y m)) : vldB y m d = false := decide_eq_false h
/-- its number -/
def num (y m d : Int) : Int := yd y + cum y m + (d - 1)
theorem num_bd {y m d : Int} (h : vldB y m d = true) : 0 ≤ num y m d ∧ num y m d ≤ 3652058 := by
  obtain ⟨a, b, c, e, f, g⟩ := vld_t h
  have h1 := cum_bd y c e
  have h2 := yd_lt (show y < y + 1 by omega)
  have h3 := yd_bd (y := y + 1) (by omega) (by omega)
  have h4 := yd_bd (y := y) (by omega) (by omega)
  unfold num; omega
/-- later by year, month and day -/
def laterB (a b c x y z : Int) : Bool := decide (a < x ∨ (a = x ∧ (b < y ∨ (b = y ∧ c < z))))
theorem num_lt {a b c x y z : Int} (h : vldB a b c = true) (k : vldB x y z = true) (l : laterB a b c x y z = true) : num a b c < num x y z := by
  obtain ⟨h1, h2, h3, h4, h5, h6⟩ := vld_t h
  obtain ⟨k1, k2, k3, k4, k5, k6⟩ := vld_t k
  have c1 := cum_bd a h3 h4
  have c2 := cum_bd x k3 k4
  unfold num
  rcases of_decide_eq_true l with l | ⟨rfl, l | ⟨rfl, l⟩⟩
  · have := yd_lt l; omega
  · have := cum_lt a h3 l (by omega); omega
  · omega
theorem num_inj {a b c x y z : Int} (h : vldB a b c = true) (k : vldB x y z = true) (e : num a b c = num x y z) : a = x ∧ b = y ∧ c = z := by
  cases l : laterB a b c x y z with
  | true => have := num_lt h k l; omega
  | false =>
    cases l' : laterB x y z a b c with
    | true => have := num_lt k h l'; omega
    | false =>
      have h1 := of_decide_eq_false l
      have h2 := of_decide_eq_false l'
      omega
theorem num_later {a b c x y z : Int} (h : vldB a b c = true) (k : vldB x y z = true) : laterB a b c x y z = decide (num a b c < num x y z) := by
  cases l : laterB a b c x y z with
  | true => rw [decide_eq_true (num_lt h k l)]
  | false =>
    symm
    apply decide_eq_false
    intro g
    cases l' : laterB x y z a b c with
    | true => have := num_lt k h l'; omega
    | false =>
      have h1 := of_decide_eq_false l
      have h2 := of_decide_eq_false l'
      have h3 : a = x ∧ b = y ∧ c = z := by omega
      obtain ⟨rfl, rfl, rfl⟩ := h3
      omega

theorem yd_parts {C K F S : Int} (hK : 0 ≤ K ∧ K ≤ 3) (hF : 0 ≤ F ∧ F ≤ 24) (hS : 0 ≤ S ∧ S ≤ 3) :
    yd (400 * C + 100 * K + 4 * F + S + 1) = 146097 * C + 36524 * K + 1461 * F + 365 * S := by
  unfold yd
  have a : (400 * C + 100 * K + 4 * F + S + 1 - 1) / 4 = 100 * C + 25 * K + F := by omega
  have b : (400 * C + 100 * K + 4 * F + S + 1 - 1) / 100 = 4 * C + K := by omega
  have c : (400 * C + 100 * K + 4 * F + S + 1 - 1) / 400 = C := by omega
  rw [a, b, c]; omega
theorem lp_parts {C K F S : Int} (hK : 0 ≤ K ∧ K ≤ 3) (hF : 0 ≤ F ∧ F ≤ 24) (hS : 0 ≤ S ∧ S ≤ 3) :
    (S = 3 ∧ (F < 24 ∨ K = 3) ∧ lp (400 * C + 100 * K + 4 * F + S + 1) = 1) ∨ ((S < 3 ∨ (F = 24 ∧ K < 3)) ∧ lp (400 * C + 100 * K + 4 * F + S + 1) = 0) := by
  have a : (400 * C + 100 * K + 4 * F + S + 1) % 4 = (S + 1) % 4 := by omega
  have b : (400 * C + 100 * K + 4 * F + S + 1) % 100 = (4 * F + S + 1) % 100 := by omega
  have c : (400 * C + 100 * K + 4 * F + S + 1) % 400 = (100 * K + 4 * F + S + 1) % 400 := by omega
  rcases lp_cases (400 * C + 100 * K + 4 * F + S + 1) with ⟨_, e, h1, h2⟩ | ⟨_, e, h1⟩
  · rw [a] at h1; rw [b, c] at h2
    clear a b c
    exact .inl ⟨by omega, by omega, e⟩
  · rw [a, b, c] at h1
    clear a b c
    exact .inr ⟨by omega, e⟩

/-- the year of a day, by the program's way -/
theorem yearOf_spec {n C R K R' F S : Int} (h0 : 0 ≤ n) (h1 : n ≤ 3652058) (hC : C = n / 146097) (hR : R = n % 146097) (hK : K = min (R / 36524) 3) (hR' : R' = R - K * 36524) (hF : F = R' / 1461) (hS : S = min (R' % 1461 / 365) 3) :
    1 ≤ 400 * C + 100 * K + 4 * F + S + 1 ∧ 400 * C + 100 * K + 4 * F + S + 1 ≤ 9999 ∧ yd (400 * C + 100 * K + 4 * F + S + 1) ≤ n ∧ n < yd (400 * C + 100 * K + 4 * F + S + 1 + 1) := by
  have k0 : 0 ≤ K ∧ K ≤ 3 := by omega
  have b1 : 0 ≤ R' ∧ R' ≤ 36524 := by
    rcases (show K = 0 ∨ K = 1 ∨ K = 2 ∨ K = 3 by omega) with h | h | h | h <;> subst h <;> omega
  have b2 : 0 ≤ F ∧ F ≤ 24 := by omega
  have b3 : 0 ≤ S ∧ S ≤ 3 := by omega
  have e1 : R = K * 36524 + R' := by omega
  have b5 : K < 3 → R' < 36524 := by
    intro h
    rcases (show K = 0 ∨ K = 1 ∨ K = 2 by omega) with h | h | h <;> subst h <;> omega
  have b4 : 0 ≤ C ∧ C ≤ 24 := by omega
  have e2 : n = 146097 * C + R := by omega
  have y1 := lp_parts (C := C) k0 b2 b3
  rw [yd_succ (400 * C + 100 * K + 4 * F + S + 1), yd_parts k0 b2 b3]
  clear hC hR hK hR'
  refine ⟨by omega, by omega, by omega, ?_⟩
  rcases y1 with ⟨_, _, h⟩ | ⟨hs, h⟩
  · rw [h]; omega
  · rw [h]
    rcases hs with hs | ⟨hf, hk⟩
    · omega
    · have := b5 hk; omega

end Go.Proofs.Ytklaojahocjeiaa

-- DateA
namespace Go.Proofs.Ytklaojahocjeiaa
open Go.RowKit
set_option linter.unusedVariables false

/-- what the variable 'lengths' holds -/
def lens : List Int := [31, 28, 31, 30, 31, 30, 31, 31, 30, 31, 30, 31]
theorem ret_bool {a b : Bool} (h : a = b) : Ending.returned (.bool a) = .returned (.bool b) := by rw [h]

theorem isDay_t (y : Int) (h1 : 0 ≤ y) (h2 : y ≤ 3652058) (w : World) :
    Calls Try.prog 97 #[.int .i64 y] w fun e w' => e = .returned (.bool true) ∧ w = w' := by
  go_enter Try.func97, Try.ntmps97
  go_wp2
  go_ret
  exact ⟨rfl, rfl⟩
theorem isDay_f (y : Int) (h : y < 0 ∨ 3652058 < y) (w : World) :
    Calls Try.prog 97 #[.int .i64 y] w fun e w' => e = .returned (.bool false) ∧ w = w' := by
  rcases h with h | h
  · go_enter Try.func97, Try.ntmps97
    go_wp2
    go_ret
    exact ⟨rfl, rfl⟩
  · have h' : 0 ≤ y := by omega
    go_enter Try.func97, Try.ntmps97
    go_wp2
    go_ret
    exact ⟨ret_bool (decide_eq_false (by omega)), rfl⟩

theorem lens_dim (y : Int) {m : Int} (h1 : 1 ≤ m) (h2 : m ≤ 12) : ∃ j : Nat, j < 12 ∧ m = (j : Int) + 1 ∧ ((m = 2 ∧ leapB y = true ∧ dim y m = lens.getD j 0 + 1) ∨ ((m ≠ 2 ∨ leapB y = false) ∧ dim y m = lens.getD j 0)) ∧ 28 ≤ lens.getD j 0 ∧ lens.getD j 0 ≤ 31 := by
  rcases m12 h1 h2 with h | h | h | h | h | h | h | h | h | h | h | h <;> subst h
  · exact ⟨0, by decide, rfl, .inr ⟨.inl (by decide), rfl⟩, by decide, by decide⟩
  · cases hl : leapB y with
    | true => exact ⟨1, by decide, rfl, .inl ⟨rfl, rfl, by simp [dim, lp_t hl, lens]⟩, by decide, by decide⟩
    | false => exact ⟨1, by decide, rfl, .inr ⟨.inr rfl, by simp [dim, lp_f hl, lens]⟩, by decide, by decide⟩
  · exact ⟨2, by decide, rfl, .inr ⟨.inl (by decide), rfl⟩, by decide, by decide⟩
  · exact ⟨3, by decide, rfl, .inr ⟨.inl (by decide), rfl⟩, by decide, by decide⟩
  · exact ⟨4, by decide, rfl, .inr ⟨.inl (by decide), rfl⟩, by decide, by decide⟩
  · exact ⟨5, by decide, rfl, .inr ⟨.inl (by decide), rfl⟩, by decide, by decide⟩
  · exact ⟨6, by decide, rfl, .inr ⟨.inl (by decide), rfl⟩, by decide, by decide⟩
  · exact ⟨7, by decide, rfl, .inr ⟨.inl (by decide), rfl⟩, by decide, by decide⟩
  · exact ⟨8, by decide, rfl, .inr ⟨.inl (by decide), rfl⟩, by decide, by decide⟩
  · exact ⟨9, by decide, rfl, .inr ⟨.inl (by decide), rfl⟩, by decide, by decide⟩
  · exact ⟨10, by decide, rfl, .inr ⟨.inl (by decide), rfl⟩, by decide, by decide⟩
  · exact ⟨11, by decide, rfl, .inr ⟨.inl (by decide), rfl⟩, by decide, by decide⟩

end Go.Proofs.Ytklaojahocjeiaa

-- Week
namespace Go.Proofs.Ytklaojahocjeiaa
open Go.RowKit
set_option linter.unusedVariables false

theorem wk_ok (n : Int) (h0 : 0 ≤ n) (h1 : n ≤ 3652058) (w : World) :
    Calls Try.prog 82 #[.int .i64 n] w fun e w' => e = .returned (.tuple #[.int .i64 (n % 7), .int .i64 0]) ∧ w = w' := by
  go_enter Try.func82, Try.ntmps82
  go_wp2_with (go_at_call 97; (with_reducible refine (isDay_t _ h0 h1 _).mono ?_); rintro e w' ⟨rfl, rfl⟩)
  go_ret2
  exact ⟨rfl, rfl⟩
theorem wk_no (n : Int) (h : n < 0 ∨ 3652058 < n) (w : World) :
    Calls Try.prog 82 #[.int .i64 n] w fun e w' => e = .returned (.tuple #[.int .i64 0, .int .i64 3]) ∧ w = w' := by
  have H := Lib.hid h; clear h
  go_enter Try.func82, Try.ntmps82
  go_wp2_with (go_at_call 97; (with_reducible refine (isDay_f _ H.out _).mono ?_); rintro e w' ⟨rfl, rfl⟩)
  go_ret2
  exact ⟨rfl, rfl⟩

end Go.Proofs.Ytklaojahocjeiaa

-- Bools
namespace Go.Proofs.Ytklaojahocjeiaa
open Go.RowKit
set_option linter.unusedVariables false

theorem Try.infoBool : (Try.prog.info? 4).map (fun i => (i.zero, i.size, i.bytes)) = some (some (.bool false), 1, 1) := by kernel_rfl
theorem info_partsB {o : Option TypeInfo} {z : Value} {a b : Nat} (h : o.map (fun i => (i.zero, i.size, i.bytes)) = some (some z, a, b)) : ∃ i, o = some i ∧ i.zero = some z ∧ i.size = a ∧ i.bytes = b := by
  cases o with
  | none => cases h
  | some i =>
    simp only [Option.map_some, Option.some.injEq, Prod.mk.injEq] at h
    exact ⟨i, rfl, h.1, h.2.1, h.2.2⟩
/-- block g holds n bools, at j what p says -/
def OwnB (w : World) (g n : Nat) (p : Nat → Bool) : Prop := ∃ cur : Array Value, w.heap[g]? = some (.cells cur 4 (0, 0)) ∧ cur.size = n ∧ ∀ j, j < n → cur[j]? = some (.bool (p j))
theorem OwnB.lt {w : World} {g n : Nat} {p : Nat → Bool} (h : OwnB w g n p) : g < w.heap.size := by obtain ⟨cur, h, -⟩ := h; exact heap_lt h
theorem OwnB.cell {w : World} {g n : Nat} {p : Nat → Bool} (h : OwnB w g n p) {j : Nat} (hj : j < n) : w.cell? ⟨g, j, none⟩ = some (.bool (p j)) := by
  obtain ⟨cur, h1, h2, h3⟩ := h
  rw [cell_of_row w g j cur _ (0, 0) h1]; exact h3 j hj
theorem OwnB.block {w w' : World} {g n : Nat} {p : Nat → Bool} (h : OwnB w g n p) (e : w'.heap[g]? = w.heap[g]?) : OwnB w' g n p := by
  obtain ⟨cur, h1, h2⟩ := h; exact ⟨cur, e.trans h1, h2⟩
theorem OwnB.kpt {w w' : World} {g n : Nat} {p : Nat → Bool} (h : OwnB w g n p) (k : Kpt w w') : OwnB w' g n p := h.block (k.block g h.lt)
theorem OwnB.away {w : World} {g n : Nat} {p : Nat → Bool} (h : OwnB w g n p) {a : Addr} (hp : g ≠ a.block) (u : Value) : OwnB (w.setCell a u) g n p := h.block (Below.heap_setCell w a u g hp)
theorem OwnB.frozen {w : World} {g n : Nat} {p : Nat → Bool} (h : OwnB w g n p) (j : Nat) : w.frozen? ⟨g, j, none⟩ = false := by
  obtain ⟨cur, h1, -⟩ := h; exact Blk.frozen h1 j
theorem OwnB.to {w : World} {g n : Nat} {p q : Nat → Bool} (h : OwnB w g n p) (e : ∀ j, j < n → p j = q j) : OwnB w g n q := by
  obtain ⟨cur, h1, h2, h3⟩ := h
  exact ⟨cur, h1, h2, fun j hj => by rw [← e j hj]; exact h3 j hj⟩
theorem OwnB.put {w : World} {g n : Nat} {p q : Nat → Bool} (h : OwnB w g n p) (k : Nat) (b : Bool) (e : ∀ j, j < n → q j = if j = k then b else p j) : OwnB (w.setCell ⟨g, k, none⟩ (.bool b)) g n q := by
  obtain ⟨cur, h1, h2, h3⟩ := h
  refine ⟨_, Blk.put h1 k _, by simpa using h2, fun j hj => ?_⟩
  rw [e j hj, Array.getElem?_setIfInBounds]
  by_cases hk : k = j
  · subst hk
    rw [if_pos rfl, if_pos rfl, if_pos (by omega)]
  · rw [if_neg hk, if_neg (fun e => hk e.symm)]
    exact h3 j hj
theorem made_false (n : Nat) : madeCells (Value.bool false).cells n = (Array.replicate n (Value.bool false)) := by
  apply Array.ext
  · simp [size_madeCells]
  · intro i h1 h2
    simp [madeCells, Value.cells, Nat.mod_one]
theorem OwnB.made (w : World) (n : Nat) : OwnB (w.alloc (.cells (Array.replicate n (Value.bool false)) 4)) w.heap.size n (fun _ => false) :=
  ⟨_, heap_alloc_new w _, by simp, fun j hj => by simp [hj]⟩
end Go.Proofs.Ytklaojahocjeiaa

-- Sl
namespace Go.Proofs.Ytklaojahocjeiaa
open Go.RowKit
set_option linter.unusedVariables false

theorem Reads.sl {w : World} {a : Option Addr} {n cap : Nat} {zs : List Int} (h : Reads w (.slice a n cap) zs) : ∀ k, k < zs.length → ∃ b off, a = some ⟨b, off, none⟩ ∧ w.cell? ⟨b, off + k, none⟩ = some (.int .i64 (zs.getD k 0)) := by
  obtain ⟨a', cap', e, hm, hc⟩ := h
  simp only [Value.slice.injEq] at e
  obtain ⟨rfl, _, _⟩ := e
  exact hc

end Go.Proofs.Ytklaojahocjeiaa

-- FailA
namespace Go.Proofs.Ytklaojahocjeiaa
open Go.RowKit
set_option linter.unusedVariables false

/-- is it from a to b? -/
def btw (a b z : Int) : Bool := decide (a ≤ z ∧ z ≤ b)
theorem btw_t {a b z : Int} (h : btw a b z = true) : a ≤ z ∧ z ≤ b := of_decide_eq_true h
theorem btw_f {a b z : Int} (h : btw a b z = false) : ¬ (a ≤ z ∧ z ≤ b) := of_decide_eq_false h
theorem bt_out {a b z : Int} (h : btw a b z = false) : z < a ∨ b < z := by have := btw_f h; omega
/-- is it a fail, whatever became of it? -/
def fdue (i f t c p d u : Int) : Bool := btw 0 3652058 d && btw 1 1099511627776 i && (btw 0 30 f && btw 0 30 t) && btw 0 5 c && btw 1 20 p && btw 1 1073741824 u
theorem fdue_t {i f t c p d u : Int} (h : fdue i f t c p d u = true) : (0 ≤ d ∧ d ≤ 3652058) ∧ (1 ≤ i ∧ i ≤ 1099511627776) ∧ ((0 ≤ f ∧ f ≤ 30) ∧ (0 ≤ t ∧ t ≤ 30)) ∧ (0 ≤ c ∧ c ≤ 5) ∧ (1 ≤ p ∧ p ≤ 20) ∧ (1 ≤ u ∧ u ≤ 1073741824) := by
  simp only [fdue, Bool.and_eq_true] at h
  obtain ⟨⟨⟨⟨⟨h1, h2⟩, h3, h4⟩, h5⟩, h6⟩, h7⟩ := h
  exact ⟨btw_t h1, btw_t h2, ⟨btw_t h3, btw_t h4⟩, btw_t h5, btw_t h6, btw_t h7⟩
theorem fdue_mk {i f t c p d u : Int} (h : (0 ≤ d ∧ d ≤ 3652058) ∧ (1 ≤ i ∧ i ≤ 1099511627776) ∧ ((0 ≤ f ∧ f ≤ 30) ∧ (0 ≤ t ∧ t ≤ 30)) ∧ (0 ≤ c ∧ c ≤ 5) ∧ (1 ≤ p ∧ p ≤ 20) ∧ (1 ≤ u ∧ u ≤ 1073741824)) : fdue i f t c p d u = true := by
  obtain ⟨h1, h2, ⟨h3, h4⟩, h5, h6, h7⟩ := h
  simp only [fdue, Bool.and_eq_true]
  exact ⟨⟨⟨⟨⟨decide_eq_true h1, decide_eq_true h2⟩, decide_eq_true h3, decide_eq_true h4⟩, decide_eq_true h5⟩, decide_eq_true h6⟩, decide_eq_true h7⟩
/-- may so many be delivered, bought, paid? -/
def ftk (u x b y : Int) : Bool := btw 0 u x && (btw 0 u b && btw 0 u y)
theorem ftk_t {u x b y : Int} (h : ftk u x b y = true) : (0 ≤ x ∧ x ≤ u) ∧ (0 ≤ b ∧ b ≤ u) ∧ (0 ≤ y ∧ y ≤ u) := by
  simp only [ftk, Bool.and_eq_true] at h
  exact ⟨btw_t h.1, btw_t h.2.1, btw_t h.2.2⟩
theorem ftk_mk {u x b y : Int} (h : (0 ≤ x ∧ x ≤ u) ∧ (0 ≤ b ∧ b ≤ u) ∧ (0 ≤ y ∧ y ≤ u)) : ftk u x b y = true := by
  simp only [ftk, Bool.and_eq_true]
  exact ⟨decide_eq_true h.1, decide_eq_true h.2.1, decide_eq_true h.2.2⟩
/-- the error of a fail -/
def failE (i f t c p d u x b y : Int) : Int :=
  if fdue i f t c p d u = true then (if f = t then 1 else if ftk u x b y = true then (if u - x - b - y < 0 then 4 else 0) else 3) else 3
theorem fail_0 {i f t c p d u x b y : Int} (h : failE i f t c p d u x b y = 0) : fdue i f t c p d u = true ∧ f ≠ t ∧ ftk u x b y = true ∧ 0 ≤ u - x - b - y := by
  unfold failE at h
  split at h
  · next h1 =>
    split at h
    · omega
    · next h2 =>
      split at h
      · next h3 =>
        split at h
        · omega
        · exact ⟨h1, h2, h3, by omega⟩
      · omega
  · omega
theorem fail_mk {i f t c p d u x b y : Int} (h1 : fdue i f t c p d u = true) (h2 : f ≠ t) (h3 : ftk u x b y = true) (h4 : 0 ≤ u - x - b - y) : failE i f t c p d u x b y = 0 := by
  unfold failE
  rw [if_pos h1, if_neg h2, if_pos h3, if_neg (by omega)]

theorem all_take {p : Int → Bool} {zs : List Int} {k : Nat} (hk : k < zs.length) : (zs.take (k + 1)).all p = ((zs.take k).all p && p (zs.getD k 0)) := by
  rw [List.take_add_one, List.getElem?_eq_getElem hk, List.all_append, List.getD_eq_getElem?_getD, List.getElem?_eq_getElem hk]
  simp
theorem all_false {p : Int → Bool} {zs : List Int} {k : Nat} (hk : k < zs.length) (h : p (zs.getD k 0) = false) : zs.all p = false := by
  rw [List.all_eq_false]
  refine ⟨zs.getD k 0, ?_, by rw [h]; simp⟩
  rw [List.getD_eq_getElem?_getD, List.getElem?_eq_getElem hk]
  simp

set_option maxHeartbeats 1000000 in
theorem within_run (a b : Int) (v : Value) (zs : List Int) (w : World) (hr : Reads w v zs) :
    Calls Try.prog 72 #[.int .i64 a, .int .i64 b, v] w fun e w' => e = .returned (.bool (zs.all (btw a b))) ∧ w = w' := by
  have hm := hr.len
  unfold maxLen at hm
  obtain ⟨am, cap, rfl, -⟩ := id hr
  have HC := Lib.hid hr.sl
  obtain ⟨n, hn⟩ : ∃ n, n = zs.length := ⟨_, rfl⟩
  have HN := Lib.hid hn
  have AT := Lib.hid (fun k (h : k < zs.length) => all_take (p := btw a b) h)
  have AX := Lib.hid (fun k (h : k < zs.length) h2 => all_false (p := btw a b) h h2)
  rw [← hn] at HC hm AT AX ⊢
  clear hr hn
  go_enter Try.func72, Try.ntmps72
  go_wp2
  go_loop [11] (fun i => ∃ k : Nat, k ≤ n ∧ i = .int .i64 (k : Int) ∧ Hid ((zs.take k).all (btw a b) = true)) (fun i => n - (intOf i).toNat)
  case atStart => exact ⟨0, Nat.zero_le _, rfl, rfl⟩
  case round =>
    obtain ⟨k, hk, rfl, HA⟩ := hrel
    by_cases hlt : k < n
    · obtain ⟨bm, om, rfl, c1⟩ := HC.out k hlt
      have at' := AT.out k hlt
      have ax := AX.out k hlt
      rw [HA.out, Bool.true_and] at at'
      generalize zs.getD k 0 = z at c1 at' ax
      by_cases h1 : z < a
      · have y1 : decide (z < a) = true := decide_eq_true h1
        have e : btw a b z = false := decide_eq_false (by omega)
        have EX := Lib.hid (ax e)
        clear at' ax e
        go_wp2
        go_ret
        exact ⟨by rw [EX.out]; rfl, rfl⟩
      · have y1 : decide (z < a) = false := decide_eq_false h1
        by_cases h2 : b < z
        · have y2 : decide (b < z) = true := decide_eq_true h2
          have e : btw a b z = false := decide_eq_false (by omega)
          have EX := Lib.hid (ax e)
          clear at' ax e
          go_wp2
          go_ret
          exact ⟨by rw [EX.out]; rfl, rfl⟩
        · have y2 : decide (b < z) = false := decide_eq_false h2
          have e : btw a b z = true := decide_eq_true (by omega)
          have HA' := Lib.hid (at'.trans e)
          clear at' ax e
          go_wp2
          go_round
          case rel => exact ⟨k + 1, by omega, by go_num, HA'.out⟩
          case measure => simp [intOf]; omega
    · have e : zs.all (btw a b) = true := by
        have := HA.out
        rwa [List.take_of_length_le (by have := HN.out; omega)] at this
      have EX := Lib.hid e
      clear e
      go_wp2
      go_ret
      exact ⟨by rw [EX.out]; rfl, rfl⟩

theorem reads_new {w : World} {cs : Array Value} {zs : List Int} (hm : zs.length ≤ maxLen) (h : ∀ j, j < zs.length → cs[j]? = some (.int .i64 (zs.getD j 0))) (cap : Nat) : Reads (w.alloc (.cells cs 3)) (.slice (some ⟨w.heap.size, 0, none⟩) zs.length cap) zs :=
  reads_mk rfl hm fun j hj => by
    rw [Nat.zero_add, cell_of_row _ _ j cs _ (0, 0) (heap_alloc_new w _)]
    exact h j hj
theorem one_at (z : Int) : ∀ j, j < [z].length → (#[Value.int .i64 z] : Array Value)[j]? = some (.int .i64 ([z].getD j 0)) := by
  intro j hj
  have : j = 0 := by simp at hj; exact hj
  subst this; rfl
theorem two_at (z1 z2 : Int) : ∀ j, j < [z1, z2].length → (#[Value.int .i64 z1, Value.int .i64 z2] : Array Value)[j]? = some (.int .i64 ([z1, z2].getD j 0)) := by
  intro j hj
  rcases (show j = 0 ∨ j = 1 by simp at hj; omega) with rfl | rfl <;> rfl
theorem three_at (z1 z2 z3 : Int) : ∀ j, j < [z1, z2, z3].length → (#[Value.int .i64 z1, Value.int .i64 z2, Value.int .i64 z3] : Array Value)[j]? = some (.int .i64 ([z1, z2, z3].getD j 0)) := by
  intro j hj
  rcases (show j = 0 ∨ j = 1 ∨ j = 2 by simp at hj; omega) with rfl | rfl | rfl <;> rfl
theorem within1 (a b z : Int) (B : Bool) (h : btw a b z = B) (w : World) (H : Nat) (hH : w.heap.size = H) :
    Calls Try.prog 72 #[.int .i64 a, .int .i64 b, .slice (some ⟨H, 0, none⟩) 1 1] (w.alloc (.cells #[.int .i64 z] 3)) fun e w' => e = .returned (.bool B) ∧ w.alloc (.cells #[.int .i64 z] 3) = w' := by
  subst hH
  have := within_run a b _ [z] _ (reads_new (w := w) (by unfold maxLen; simp) (one_at z) 1)
  rw [show [z].all (btw a b) = B by simp [h]] at this
  exact this
theorem within2 (a b z1 z2 : Int) (B : Bool) (h : (btw a b z1 && btw a b z2) = B) (w : World) (H : Nat) (hH : w.heap.size = H) :
    Calls Try.prog 72 #[.int .i64 a, .int .i64 b, .slice (some ⟨H, 0, none⟩) 2 2] (w.alloc (.cells #[.int .i64 z1, .int .i64 z2] 3)) fun e w' => e = .returned (.bool B) ∧ w.alloc (.cells #[.int .i64 z1, .int .i64 z2] 3) = w' := by
  subst hH
  have := within_run a b _ [z1, z2] _ (reads_new (w := w) (by unfold maxLen; simp) (two_at z1 z2) 2)
  rw [show [z1, z2].all (btw a b) = B by simp [← h]] at this
  exact this
theorem within3 (a b z1 z2 z3 : Int) (B : Bool) (h : (btw a b z1 && (btw a b z2 && btw a b z3)) = B) (w : World) (H : Nat) (hH : w.heap.size = H) :
    Calls Try.prog 72 #[.int .i64 a, .int .i64 b, .slice (some ⟨H, 0, none⟩) 3 3] (w.alloc (.cells #[.int .i64 z1, .int .i64 z2, .int .i64 z3] 3)) fun e w' => e = .returned (.bool B) ∧ w.alloc (.cells #[.int .i64 z1, .int .i64 z2, .int .i64 z3] 3) = w' := by
  subst hH
  have := within_run a b _ [z1, z2, z3] _ (reads_new (w := w) (by unfold maxLen; simp) (three_at z1 z2 z3) 3)
  rw [show [z1, z2, z3].all (btw a b) = B by simp [← h]] at this
  exact this

/-- what is open, of a fail whose numbers are small -/
theorem fopen_run (i f t c p d u x b y : Int) (w : World) (hu : 1 ≤ u ∧ u ≤ 1073741824) (hx : 0 ≤ x ∧ x ≤ u) (hb : 0 ≤ b ∧ b ≤ u) (hy : 0 ≤ y ∧ y ≤ u) :
    Calls Try.prog 53 #[.agg #[.int .i64 i, .int .i64 f, .int .i64 t, .int .i64 c, .int .i64 p, .int .i64 d, .int .i64 u, .int .i64 x, .int .i64 b, .int .i64 y]] w fun e w' => e = .returned (.int .i64 (u - x - b - y)) ∧ Kpt w w' := by
  have e1 : IntKind.i64.wrap (u - x) = u - x := by unfold IntKind.wrap; simp [IntKind.bits, IntKind.signed]; omega
  have e2 : IntKind.i64.wrap (u - x - b) = u - x - b := by unfold IntKind.wrap; simp [IntKind.bits, IntKind.signed]; omega
  have e3 : IntKind.i64.wrap (u - x - b - y) = u - x - b - y := by unfold IntKind.wrap; simp [IntKind.bits, IntKind.signed]; omega
  go_enter Try.func53, Try.ntmps53
  go_wp2
  go_ret
  exact ⟨rfl, by repeat (first | exact Kpt.refl _ | refine Kpt.alloc ?_ _)⟩

end Go.Proofs.Ytklaojahocjeiaa

-- FailB
namespace Go.Proofs.Ytklaojahocjeiaa
open Go.RowKit
set_option linter.unusedVariables false

set_option maxHeartbeats 2000000 in
theorem isDue_0 (i f t c p d u x b y : Int) (Y0 : btw 0 3652058 d = false) (w : World) :
    Calls Try.prog 71 #[.agg #[.int .i64 i, .int .i64 f, .int .i64 t, .int .i64 c, .int .i64 p, .int .i64 d, .int .i64 u, .int .i64 x, .int .i64 b, .int .i64 y]] w fun e w' => e = .returned (.bool false) ∧ Kpt w w' := by
  have HW := Lib.hid (fun w' => wk_no _ (bt_out Y0) w')
  go_enter Try.func71, Try.ntmps71
  go_wp2_with (first
    | (go_at_call 82; (with_reducible refine (HW.out _).mono ?_); rintro e w1 ⟨rfl, rfl⟩))
  go_ret
  exact ⟨rfl, by repeat (first | exact Kpt.refl _ | refine Kpt.alloc ?_ _)⟩
set_option maxHeartbeats 2000000 in
theorem isDue_1 (i f t c p d u x b y : Int) (Y0 : btw 0 3652058 d = true) (Y1 : btw 1 1099511627776 i = false) (w : World) :
    Calls Try.prog 71 #[.agg #[.int .i64 i, .int .i64 f, .int .i64 t, .int .i64 c, .int .i64 p, .int .i64 d, .int .i64 u, .int .i64 x, .int .i64 b, .int .i64 y]] w fun e w' => e = .returned (.bool false) ∧ Kpt w w' := by
  have HW := Lib.hid (fun w' => wk_ok _ (btw_t Y0).1 (btw_t Y0).2 w')
  go_enter Try.func71, Try.ntmps71
  go_wp2_with (first
    | (go_at_call 82; (with_reducible refine (HW.out _).mono ?_); rintro e w1 ⟨rfl, rfl⟩)
    | (go_at_call 72; (with_reducible refine (within1 _ _ _ _ Y1 _ _ (by simp)).mono ?_); rintro e w1 ⟨rfl, rfl⟩))
  go_ret
  exact ⟨rfl, by repeat (first | exact Kpt.refl _ | refine Kpt.alloc ?_ _)⟩
set_option maxHeartbeats 2000000 in
theorem isDue_2 (i f t c p d u x b y : Int) (Y0 : btw 0 3652058 d = true) (Y1 : btw 1 1099511627776 i = true) (Y2 : (btw 0 30 f && btw 0 30 t) = false) (w : World) :
    Calls Try.prog 71 #[.agg #[.int .i64 i, .int .i64 f, .int .i64 t, .int .i64 c, .int .i64 p, .int .i64 d, .int .i64 u, .int .i64 x, .int .i64 b, .int .i64 y]] w fun e w' => e = .returned (.bool false) ∧ Kpt w w' := by
  have HW := Lib.hid (fun w' => wk_ok _ (btw_t Y0).1 (btw_t Y0).2 w')
  go_enter Try.func71, Try.ntmps71
  go_wp2_with (first
    | (go_at_call 82; (with_reducible refine (HW.out _).mono ?_); rintro e w1 ⟨rfl, rfl⟩)
    | (go_at_call 72; (with_reducible refine (within1 _ _ _ _ Y1 _ _ (by simp)).mono ?_); rintro e w1 ⟨rfl, rfl⟩)
    | (go_at_call 72; (with_reducible refine (within2 _ _ _ _ _ Y2 _ _ (by simp)).mono ?_); rintro e w1 ⟨rfl, rfl⟩))
  go_ret
  exact ⟨rfl, by repeat (first | exact Kpt.refl _ | refine Kpt.alloc ?_ _)⟩
set_option maxHeartbeats 2000000 in
theorem isDue_3 (i f t c p d u x b y : Int) (Y0 : btw 0 3652058 d = true) (Y1 : btw 1 1099511627776 i = true) (Y2 : (btw 0 30 f && btw 0 30 t) = true) (Y3 : btw 0 5 c = false) (w : World) :
    Calls Try.prog 71 #[.agg #[.int .i64 i, .int .i64 f, .int .i64 t, .int .i64 c, .int .i64 p, .int .i64 d, .int .i64 u, .int .i64 x, .int .i64 b, .int .i64 y]] w fun e w' => e = .returned (.bool false) ∧ Kpt w w' := by
  have HW := Lib.hid (fun w' => wk_ok _ (btw_t Y0).1 (btw_t Y0).2 w')
  go_enter Try.func71, Try.ntmps71
  go_wp2_with (first
    | (go_at_call 82; (with_reducible refine (HW.out _).mono ?_); rintro e w1 ⟨rfl, rfl⟩)
    | (go_at_call 72; (with_reducible refine (within1 _ _ _ _ Y1 _ _ (by simp)).mono ?_); rintro e w1 ⟨rfl, rfl⟩)
    | (go_at_call 72; (with_reducible refine (within2 _ _ _ _ _ Y2 _ _ (by simp)).mono ?_); rintro e w1 ⟨rfl, rfl⟩)
    | (go_at_call 72; (with_reducible refine (within1 _ _ _ _ Y3 _ _ (by simp)).mono ?_); rintro e w1 ⟨rfl, rfl⟩))
  go_ret
  exact ⟨rfl, by repeat (first | exact Kpt.refl _ | refine Kpt.alloc ?_ _)⟩
set_option maxHeartbeats 2000000 in
theorem isDue_4 (i f t c p d u x b y : Int) (Y0 : btw 0 3652058 d = true) (Y1 : btw 1 1099511627776 i = true) (Y2 : (btw 0 30 f && btw 0 30 t) = true) (Y3 : btw 0 5 c = true) (Y4 : btw 1 20 p = false) (w : World) :
    Calls Try.prog 71 #[.agg #[.int .i64 i, .int .i64 f, .int .i64 t, .int .i64 c, .int .i64 p, .int .i64 d, .int .i64 u, .int .i64 x, .int .i64 b, .int .i64 y]] w fun e w' => e = .returned (.bool false) ∧ Kpt w w' := by
  have HW := Lib.hid (fun w' => wk_ok _ (btw_t Y0).1 (btw_t Y0).2 w')
  go_enter Try.func71, Try.ntmps71
  go_wp2_with (first
    | (go_at_call 82; (with_reducible refine (HW.out _).mono ?_); rintro e w1 ⟨rfl, rfl⟩)
    | (go_at_call 72; (with_reducible refine (within1 _ _ _ _ Y1 _ _ (by simp)).mono ?_); rintro e w1 ⟨rfl, rfl⟩)
    | (go_at_call 72; (with_reducible refine (within2 _ _ _ _ _ Y2 _ _ (by simp)).mono ?_); rintro e w1 ⟨rfl, rfl⟩)
    | (go_at_call 72; (with_reducible refine (within1 _ _ _ _ Y3 _ _ (by simp)).mono ?_); rintro e w1 ⟨rfl, rfl⟩)
    | (go_at_call 72; (with_reducible refine (within1 _ _ _ _ Y4 _ _ (by simp)).mono ?_); rintro e w1 ⟨rfl, rfl⟩))
  go_ret
  exact ⟨rfl, by repeat (first | exact Kpt.refl _ | refine Kpt.alloc ?_ _)⟩
set_option maxHeartbeats 2000000 in
theorem isDue_5 (i f t c p d u x b y : Int) (Y0 : btw 0 3652058 d = true) (Y1 : btw 1 1099511627776 i = true) (Y2 : (btw 0 30 f && btw 0 30 t) = true) (Y3 : btw 0 5 c = true) (Y4 : btw 1 20 p = true) (Y5 : btw 1 1073741824 u = false) (w : World) :
    Calls Try.prog 71 #[.agg #[.int .i64 i, .int .i64 f, .int .i64 t, .int .i64 c, .int .i64 p, .int .i64 d, .int .i64 u, .int .i64 x, .int .i64 b, .int .i64 y]] w fun e w' => e = .returned (.bool false) ∧ Kpt w w' := by
  have HW := Lib.hid (fun w' => wk_ok _ (btw_t Y0).1 (btw_t Y0).2 w')
  go_enter Try.func71, Try.ntmps71
  go_wp2_with (first
    | (go_at_call 82; (with_reducible refine (HW.out _).mono ?_); rintro e w1 ⟨rfl, rfl⟩)
    | (go_at_call 72; (with_reducible refine (within1 _ _ _ _ Y1 _ _ (by simp)).mono ?_); rintro e w1 ⟨rfl, rfl⟩)
    | (go_at_call 72; (with_reducible refine (within2 _ _ _ _ _ Y2 _ _ (by simp)).mono ?_); rintro e w1 ⟨rfl, rfl⟩)
    | (go_at_call 72; (with_reducible refine (within1 _ _ _ _ Y3 _ _ (by simp)).mono ?_); rintro e w1 ⟨rfl, rfl⟩)
    | (go_at_call 72; (with_reducible refine (within1 _ _ _ _ Y4 _ _ (by simp)).mono ?_); rintro e w1 ⟨rfl, rfl⟩)
    | (go_at_call 72; (with_reducible refine (within1 _ _ _ _ Y5 _ _ (by simp)).mono ?_); rintro e w1 ⟨rfl, rfl⟩))
  go_ret
  exact ⟨rfl, by repeat (first | exact Kpt.refl _ | refine Kpt.alloc ?_ _)⟩
set_option maxHeartbeats 2000000 in
theorem isDue_6 (i f t c p d u x b y : Int) (Y0 : btw 0 3652058 d = true) (Y1 : btw 1 1099511627776 i = true) (Y2 : (btw 0 30 f && btw 0 30 t) = true) (Y3 : btw 0 5 c = true) (Y4 : btw 1 20 p = true) (Y5 : btw 1 1073741824 u = true) (w : World) :
    Calls Try.prog 71 #[.agg #[.int .i64 i, .int .i64 f, .int .i64 t, .int .i64 c, .int .i64 p, .int .i64 d, .int .i64 u, .int .i64 x, .int .i64 b, .int .i64 y]] w fun e w' => e = .returned (.bool true) ∧ Kpt w w' := by
  have HW := Lib.hid (fun w' => wk_ok _ (btw_t Y0).1 (btw_t Y0).2 w')
  go_enter Try.func71, Try.ntmps71
  go_wp2_with (first
    | (go_at_call 82; (with_reducible refine (HW.out _).mono ?_); rintro e w1 ⟨rfl, rfl⟩)
    | (go_at_call 72; (with_reducible refine (within1 _ _ _ _ Y1 _ _ (by simp)).mono ?_); rintro e w1 ⟨rfl, rfl⟩)
    | (go_at_call 72; (with_reducible refine (within2 _ _ _ _ _ Y2 _ _ (by simp)).mono ?_); rintro e w1 ⟨rfl, rfl⟩)
    | (go_at_call 72; (with_reducible refine (within1 _ _ _ _ Y3 _ _ (by simp)).mono ?_); rintro e w1 ⟨rfl, rfl⟩)
    | (go_at_call 72; (with_reducible refine (within1 _ _ _ _ Y4 _ _ (by simp)).mono ?_); rintro e w1 ⟨rfl, rfl⟩)
    | (go_at_call 72; (with_reducible refine (within1 _ _ _ _ Y5 _ _ (by simp)).mono ?_); rintro e w1 ⟨rfl, rfl⟩))
  go_ret
  exact ⟨rfl, by repeat (first | exact Kpt.refl _ | refine Kpt.alloc ?_ _)⟩

theorem isDue_run (i f t c p d u x b y : Int) (w : World) :
    Calls Try.prog 71 #[.agg #[.int .i64 i, .int .i64 f, .int .i64 t, .int .i64 c, .int .i64 p, .int .i64 d, .int .i64 u, .int .i64 x, .int .i64 b, .int .i64 y]] w fun e w' => e = .returned (.bool (fdue i f t c p d u)) ∧ Kpt w w' := by
  cases Y0 : btw 0 3652058 d with
  | false => rw [show fdue i f t c p d u = false by unfold fdue; rw [Y0]; simp]; exact isDue_0 i f t c p d u x b y Y0 w
  | true =>
    cases Y1 : btw 1 1099511627776 i with
    | false => rw [show fdue i f t c p d u = false by unfold fdue; rw [Y0, Y1]; simp]; exact isDue_1 i f t c p d u x b y Y0 Y1 w
    | true =>
      cases Y2 : (btw 0 30 f && btw 0 30 t) with
      | false => rw [show fdue i f t c p d u = false by unfold fdue; rw [Y0, Y1, Y2]; simp]; exact isDue_2 i f t c p d u x b y Y0 Y1 Y2 w
      | true =>
        cases Y3 : btw 0 5 c with
        | false => rw [show fdue i f t c p d u = false by unfold fdue; rw [Y0, Y1, Y2, Y3]; simp]; exact isDue_3 i f t c p d u x b y Y0 Y1 Y2 Y3 w
        | true =>
          cases Y4 : btw 1 20 p with
          | false => rw [show fdue i f t c p d u = false by unfold fdue; rw [Y0, Y1, Y2, Y3, Y4]; simp]; exact isDue_4 i f t c p d u x b y Y0 Y1 Y2 Y3 Y4 w
          | true =>
            cases Y5 : btw 1 1073741824 u with
            | false => rw [show fdue i f t c p d u = false by unfold fdue; rw [Y0, Y1, Y2, Y3, Y4, Y5]; simp]; exact isDue_5 i f t c p d u x b y Y0 Y1 Y2 Y3 Y4 Y5 w
            | true =>
              rw [show fdue i f t c p d u = true by unfold fdue; rw [Y0, Y1, Y2, Y3, Y4, Y5]; rfl]
              exact isDue_6 i f t c p d u x b y Y0 Y1 Y2 Y3 Y4 Y5 w

end Go.Proofs.Ytklaojahocjeiaa

-- FailC
namespace Go.Proofs.Ytklaojahocjeiaa
open Go.RowKit
set_option linter.unusedVariables false

set_option maxHeartbeats 4000000 in
theorem fcheck_run (i f t c p d u x b y : Int) (w : World) :
    Calls Try.prog 50 #[.agg #[.int .i64 i, .int .i64 f, .int .i64 t, .int .i64 c, .int .i64 p, .int .i64 d, .int .i64 u, .int .i64 x, .int .i64 b, .int .i64 y]] w fun e w' => e = .returned (.int .i64 (failE i f t c p d u x b y)) ∧ Kpt w w' := by
  have ID := Lib.hid (fun w' => isDue_run i f t c p d u x b y w')
  cases Y1 : fdue i f t c p d u with
  | false =>
    rw [show failE i f t c p d u x b y = 3 by unfold failE; rw [if_neg (by rw [Y1]; simp)]]
    rw [Y1] at ID
    go_enter Try.func50, Try.ntmps50
    go_wp2_with (first
      | (go_at_call 71; (with_reducible refine (ID.out _).mono ?_); rintro e w1 ⟨rfl, k1⟩; have K1 := Lib.hid (ktr ((Kpt.refl w).alloc (.cells #[.int .i64 i, .int .i64 f, .int .i64 t, .int .i64 c, .int .i64 p, .int .i64 d, .int .i64 u, .int .i64 x, .int .i64 b, .int .i64 y] 49)) k1); have B1 := Lib.hid (Blk.kpt (Blk.made w #[.int .i64 i, .int .i64 f, .int .i64 t, .int .i64 c, .int .i64 p, .int .i64 d, .int .i64 u, .int .i64 x, .int .i64 b, .int .i64 y] 49) k1); have c0 : World.cell? w1 ⟨w.heap.size, 0, none⟩ = some (.int .i64 i) := B1.out.cell 0; have c1 : World.cell? w1 ⟨w.heap.size, 1, none⟩ = some (.int .i64 f) := B1.out.cell 1; have c2 : World.cell? w1 ⟨w.heap.size, 2, none⟩ = some (.int .i64 t) := B1.out.cell 2; have c3 : World.cell? w1 ⟨w.heap.size, 3, none⟩ = some (.int .i64 c) := B1.out.cell 3; have c4 : World.cell? w1 ⟨w.heap.size, 4, none⟩ = some (.int .i64 p) := B1.out.cell 4; have c5 : World.cell? w1 ⟨w.heap.size, 5, none⟩ = some (.int .i64 d) := B1.out.cell 5; have c6 : World.cell? w1 ⟨w.heap.size, 6, none⟩ = some (.int .i64 u) := B1.out.cell 6; have c7 : World.cell? w1 ⟨w.heap.size, 7, none⟩ = some (.int .i64 x) := B1.out.cell 7; have c8 : World.cell? w1 ⟨w.heap.size, 8, none⟩ = some (.int .i64 b) := B1.out.cell 8; have c9 : World.cell? w1 ⟨w.heap.size, 9, none⟩ = some (.int .i64 y) := B1.out.cell 9; clear k1))
    go_ret
    exact ⟨rfl, K1.out⟩
  | true =>
    rw [Y1] at ID
    by_cases h2 : f = t
    · have z2 : (f == t) = true := beq_iff_eq.2 h2
      rw [show failE i f t c p d u x b y = 1 by unfold failE; rw [if_pos Y1, if_pos h2]]
      clear h2
      go_enter Try.func50, Try.ntmps50
      go_wp2_with (first
        | (go_at_call 71; (with_reducible refine (ID.out _).mono ?_); rintro e w1 ⟨rfl, k1⟩; have K1 := Lib.hid (ktr ((Kpt.refl w).alloc (.cells #[.int .i64 i, .int .i64 f, .int .i64 t, .int .i64 c, .int .i64 p, .int .i64 d, .int .i64 u, .int .i64 x, .int .i64 b, .int .i64 y] 49)) k1); have B1 := Lib.hid (Blk.kpt (Blk.made w #[.int .i64 i, .int .i64 f, .int .i64 t, .int .i64 c, .int .i64 p, .int .i64 d, .int .i64 u, .int .i64 x, .int .i64 b, .int .i64 y] 49) k1); have c0 : World.cell? w1 ⟨w.heap.size, 0, none⟩ = some (.int .i64 i) := B1.out.cell 0; have c1 : World.cell? w1 ⟨w.heap.size, 1, none⟩ = some (.int .i64 f) := B1.out.cell 1; have c2 : World.cell? w1 ⟨w.heap.size, 2, none⟩ = some (.int .i64 t) := B1.out.cell 2; have c3 : World.cell? w1 ⟨w.heap.size, 3, none⟩ = some (.int .i64 c) := B1.out.cell 3; have c4 : World.cell? w1 ⟨w.heap.size, 4, none⟩ = some (.int .i64 p) := B1.out.cell 4; have c5 : World.cell? w1 ⟨w.heap.size, 5, none⟩ = some (.int .i64 d) := B1.out.cell 5; have c6 : World.cell? w1 ⟨w.heap.size, 6, none⟩ = some (.int .i64 u) := B1.out.cell 6; have c7 : World.cell? w1 ⟨w.heap.size, 7, none⟩ = some (.int .i64 x) := B1.out.cell 7; have c8 : World.cell? w1 ⟨w.heap.size, 8, none⟩ = some (.int .i64 b) := B1.out.cell 8; have c9 : World.cell? w1 ⟨w.heap.size, 9, none⟩ = some (.int .i64 y) := B1.out.cell 9; clear k1))
      go_ret
      exact ⟨rfl, K1.out⟩
    · have z2 : (f == t) = false := beq_eq_false_iff_ne.2 h2
      cases Y3 : ftk u x b y with
      | false =>
        rw [show failE i f t c p d u x b y = 3 by unfold failE; rw [if_pos Y1, if_neg h2, if_neg (by rw [Y3]; simp)]]
        clear h2
        unfold ftk at Y3
        go_enter Try.func50, Try.ntmps50
        go_wp2_with (first
          | (go_at_call 71; (with_reducible refine (ID.out _).mono ?_); rintro e w1 ⟨rfl, k1⟩; have K1 := Lib.hid (ktr ((Kpt.refl w).alloc (.cells #[.int .i64 i, .int .i64 f, .int .i64 t, .int .i64 c, .int .i64 p, .int .i64 d, .int .i64 u, .int .i64 x, .int .i64 b, .int .i64 y] 49)) k1); have B1 := Lib.hid (Blk.kpt (Blk.made w #[.int .i64 i, .int .i64 f, .int .i64 t, .int .i64 c, .int .i64 p, .int .i64 d, .int .i64 u, .int .i64 x, .int .i64 b, .int .i64 y] 49) k1); have c0 : World.cell? w1 ⟨w.heap.size, 0, none⟩ = some (.int .i64 i) := B1.out.cell 0; have c1 : World.cell? w1 ⟨w.heap.size, 1, none⟩ = some (.int .i64 f) := B1.out.cell 1; have c2 : World.cell? w1 ⟨w.heap.size, 2, none⟩ = some (.int .i64 t) := B1.out.cell 2; have c3 : World.cell? w1 ⟨w.heap.size, 3, none⟩ = some (.int .i64 c) := B1.out.cell 3; have c4 : World.cell? w1 ⟨w.heap.size, 4, none⟩ = some (.int .i64 p) := B1.out.cell 4; have c5 : World.cell? w1 ⟨w.heap.size, 5, none⟩ = some (.int .i64 d) := B1.out.cell 5; have c6 : World.cell? w1 ⟨w.heap.size, 6, none⟩ = some (.int .i64 u) := B1.out.cell 6; have c7 : World.cell? w1 ⟨w.heap.size, 7, none⟩ = some (.int .i64 x) := B1.out.cell 7; have c8 : World.cell? w1 ⟨w.heap.size, 8, none⟩ = some (.int .i64 b) := B1.out.cell 8; have c9 : World.cell? w1 ⟨w.heap.size, 9, none⟩ = some (.int .i64 y) := B1.out.cell 9; clear k1)
          | (go_at_call 72; (with_reducible refine (within3 _ _ _ _ _ _ Y3 _ _ (by simp)).mono ?_); rintro e w2 ⟨rfl, rfl⟩; have K2 := Lib.hid (K1.out.alloc (.cells #[.int .i64 x, .int .i64 b, .int .i64 y] 3)); have B2 := Lib.hid (B1.out.alloc (.cells #[.int .i64 x, .int .i64 b, .int .i64 y] 3)); have c0 : World.cell? (w1.alloc (.cells #[.int .i64 x, .int .i64 b, .int .i64 y] 3)) ⟨w.heap.size, 0, none⟩ = some (.int .i64 i) := B2.out.cell 0; have c1 : World.cell? (w1.alloc (.cells #[.int .i64 x, .int .i64 b, .int .i64 y] 3)) ⟨w.heap.size, 1, none⟩ = some (.int .i64 f) := B2.out.cell 1; have c2 : World.cell? (w1.alloc (.cells #[.int .i64 x, .int .i64 b, .int .i64 y] 3)) ⟨w.heap.size, 2, none⟩ = some (.int .i64 t) := B2.out.cell 2; have c3 : World.cell? (w1.alloc (.cells #[.int .i64 x, .int .i64 b, .int .i64 y] 3)) ⟨w.heap.size, 3, none⟩ = some (.int .i64 c) := B2.out.cell 3; have c4 : World.cell? (w1.alloc (.cells #[.int .i64 x, .int .i64 b, .int .i64 y] 3)) ⟨w.heap.size, 4, none⟩ = some (.int .i64 p) := B2.out.cell 4; have c5 : World.cell? (w1.alloc (.cells #[.int .i64 x, .int .i64 b, .int .i64 y] 3)) ⟨w.heap.size, 5, none⟩ = some (.int .i64 d) := B2.out.cell 5; have c6 : World.cell? (w1.alloc (.cells #[.int .i64 x, .int .i64 b, .int .i64 y] 3)) ⟨w.heap.size, 6, none⟩ = some (.int .i64 u) := B2.out.cell 6; have c7 : World.cell? (w1.alloc (.cells #[.int .i64 x, .int .i64 b, .int .i64 y] 3)) ⟨w.heap.size, 7, none⟩ = some (.int .i64 x) := B2.out.cell 7; have c8 : World.cell? (w1.alloc (.cells #[.int .i64 x, .int .i64 b, .int .i64 y] 3)) ⟨w.heap.size, 8, none⟩ = some (.int .i64 b) := B2.out.cell 8; have c9 : World.cell? (w1.alloc (.cells #[.int .i64 x, .int .i64 b, .int .i64 y] 3)) ⟨w.heap.size, 9, none⟩ = some (.int .i64 y) := B2.out.cell 9))
        go_ret
        exact ⟨rfl, K2.out⟩
      | true =>
        obtain ⟨-, -, -, -, -, hu⟩ := fdue_t Y1
        obtain ⟨hx, hb, hy⟩ := ftk_t Y3
        have OP := Lib.hid (fun w' => fopen_run i f t c p d u x b y w' hu hx hb hy)
        by_cases h4 : u - x - b - y < 0
        · have z4 : decide (u - x - b - y < 0) = true := decide_eq_true h4
          rw [show failE i f t c p d u x b y = 4 by unfold failE; rw [if_pos Y1, if_neg h2, if_pos Y3, if_pos h4]]
          clear h2
          unfold ftk at Y3
          generalize u - x - b - y = O at *
          go_enter Try.func50, Try.ntmps50
          go_wp2_with (first
            | (go_at_call 71; (with_reducible refine (ID.out _).mono ?_); rintro e w1 ⟨rfl, k1⟩; have K1 := Lib.hid (ktr ((Kpt.refl w).alloc (.cells #[.int .i64 i, .int .i64 f, .int .i64 t, .int .i64 c, .int .i64 p, .int .i64 d, .int .i64 u, .int .i64 x, .int .i64 b, .int .i64 y] 49)) k1); have B1 := Lib.hid (Blk.kpt (Blk.made w #[.int .i64 i, .int .i64 f, .int .i64 t, .int .i64 c, .int .i64 p, .int .i64 d, .int .i64 u, .int .i64 x, .int .i64 b, .int .i64 y] 49) k1); have c0 : World.cell? w1 ⟨w.heap.size, 0, none⟩ = some (.int .i64 i) := B1.out.cell 0; have c1 : World.cell? w1 ⟨w.heap.size, 1, none⟩ = some (.int .i64 f) := B1.out.cell 1; have c2 : World.cell? w1 ⟨w.heap.size, 2, none⟩ = some (.int .i64 t) := B1.out.cell 2; have c3 : World.cell? w1 ⟨w.heap.size, 3, none⟩ = some (.int .i64 c) := B1.out.cell 3; have c4 : World.cell? w1 ⟨w.heap.size, 4, none⟩ = some (.int .i64 p) := B1.out.cell 4; have c5 : World.cell? w1 ⟨w.heap.size, 5, none⟩ = some (.int .i64 d) := B1.out.cell 5; have c6 : World.cell? w1 ⟨w.heap.size, 6, none⟩ = some (.int .i64 u) := B1.out.cell 6; have c7 : World.cell? w1 ⟨w.heap.size, 7, none⟩ = some (.int .i64 x) := B1.out.cell 7; have c8 : World.cell? w1 ⟨w.heap.size, 8, none⟩ = some (.int .i64 b) := B1.out.cell 8; have c9 : World.cell? w1 ⟨w.heap.size, 9, none⟩ = some (.int .i64 y) := B1.out.cell 9; clear k1)
            | (go_at_call 72; (with_reducible refine (within3 _ _ _ _ _ _ Y3 _ _ (by simp)).mono ?_); rintro e w2 ⟨rfl, rfl⟩; have K2 := Lib.hid (K1.out.alloc (.cells #[.int .i64 x, .int .i64 b, .int .i64 y] 3)); have B2 := Lib.hid (B1.out.alloc (.cells #[.int .i64 x, .int .i64 b, .int .i64 y] 3)); have c0 : World.cell? (w1.alloc (.cells #[.int .i64 x, .int .i64 b, .int .i64 y] 3)) ⟨w.heap.size, 0, none⟩ = some (.int .i64 i) := B2.out.cell 0; have c1 : World.cell? (w1.alloc (.cells #[.int .i64 x, .int .i64 b, .int .i64 y] 3)) ⟨w.heap.size, 1, none⟩ = some (.int .i64 f) := B2.out.cell 1; have c2 : World.cell? (w1.alloc (.cells #[.int .i64 x, .int .i64 b, .int .i64 y] 3)) ⟨w.heap.size, 2, none⟩ = some (.int .i64 t) := B2.out.cell 2; have c3 : World.cell? (w1.alloc (.cells #[.int .i64 x, .int .i64 b, .int .i64 y] 3)) ⟨w.heap.size, 3, none⟩ = some (.int .i64 c) := B2.out.cell 3; have c4 : World.cell? (w1.alloc (.cells #[.int .i64 x, .int .i64 b, .int .i64 y] 3)) ⟨w.heap.size, 4, none⟩ = some (.int .i64 p) := B2.out.cell 4; have c5 : World.cell? (w1.alloc (.cells #[.int .i64 x, .int .i64 b, .int .i64 y] 3)) ⟨w.heap.size, 5, none⟩ = some (.int .i64 d) := B2.out.cell 5; have c6 : World.cell? (w1.alloc (.cells #[.int .i64 x, .int .i64 b, .int .i64 y] 3)) ⟨w.heap.size, 6, none⟩ = some (.int .i64 u) := B2.out.cell 6; have c7 : World.cell? (w1.alloc (.cells #[.int .i64 x, .int .i64 b, .int .i64 y] 3)) ⟨w.heap.size, 7, none⟩ = some (.int .i64 x) := B2.out.cell 7; have c8 : World.cell? (w1.alloc (.cells #[.int .i64 x, .int .i64 b, .int .i64 y] 3)) ⟨w.heap.size, 8, none⟩ = some (.int .i64 b) := B2.out.cell 8; have c9 : World.cell? (w1.alloc (.cells #[.int .i64 x, .int .i64 b, .int .i64 y] 3)) ⟨w.heap.size, 9, none⟩ = some (.int .i64 y) := B2.out.cell 9)
            | (go_at_call 53; (with_reducible refine (OP.out _).mono ?_); rintro e w3 ⟨rfl, k3⟩; have K3 := Lib.hid (ktr K2.out k3); clear k3))
          go_ret
          exact ⟨rfl, K3.out⟩
        · have z4 : decide (u - x - b - y < 0) = false := decide_eq_false h4
          rw [show failE i f t c p d u x b y = 0 by unfold failE; rw [if_pos Y1, if_neg h2, if_pos Y3, if_neg h4]]
          clear h2
          unfold ftk at Y3
          generalize u - x - b - y = O at *
          go_enter Try.func50, Try.ntmps50
          go_wp2_with (first
            | (go_at_call 71; (with_reducible refine (ID.out _).mono ?_); rintro e w1 ⟨rfl, k1⟩; have K1 := Lib.hid (ktr ((Kpt.refl w).alloc (.cells #[.int .i64 i, .int .i64 f, .int .i64 t, .int .i64 c, .int .i64 p, .int .i64 d, .int .i64 u, .int .i64 x, .int .i64 b, .int .i64 y] 49)) k1); have B1 := Lib.hid (Blk.kpt (Blk.made w #[.int .i64 i, .int .i64 f, .int .i64 t, .int .i64 c, .int .i64 p, .int .i64 d, .int .i64 u, .int .i64 x, .int .i64 b, .int .i64 y] 49) k1); have c0 : World.cell? w1 ⟨w.heap.size, 0, none⟩ = some (.int .i64 i) := B1.out.cell 0; have c1 : World.cell? w1 ⟨w.heap.size, 1, none⟩ = some (.int .i64 f) := B1.out.cell 1; have c2 : World.cell? w1 ⟨w.heap.size, 2, none⟩ = some (.int .i64 t) := B1.out.cell 2; have c3 : World.cell? w1 ⟨w.heap.size, 3, none⟩ = some (.int .i64 c) := B1.out.cell 3; have c4 : World.cell? w1 ⟨w.heap.size, 4, none⟩ = some (.int .i64 p) := B1.out.cell 4; have c5 : World.cell? w1 ⟨w.heap.size, 5, none⟩ = some (.int .i64 d) := B1.out.cell 5; have c6 : World.cell? w1 ⟨w.heap.size, 6, none⟩ = some (.int .i64 u) := B1.out.cell 6; have c7 : World.cell? w1 ⟨w.heap.size, 7, none⟩ = some (.int .i64 x) := B1.out.cell 7; have c8 : World.cell? w1 ⟨w.heap.size, 8, none⟩ = some (.int .i64 b) := B1.out.cell 8; have c9 : World.cell? w1 ⟨w.heap.size, 9, none⟩ = some (.int .i64 y) := B1.out.cell 9; clear k1)
            | (go_at_call 72; (with_reducible refine (within3 _ _ _ _ _ _ Y3 _ _ (by simp)).mono ?_); rintro e w2 ⟨rfl, rfl⟩; have K2 := Lib.hid (K1.out.alloc (.cells #[.int .i64 x, .int .i64 b, .int .i64 y] 3)); have B2 := Lib.hid (B1.out.alloc (.cells #[.int .i64 x, .int .i64 b, .int .i64 y] 3)); have c0 : World.cell? (w1.alloc (.cells #[.int .i64 x, .int .i64 b, .int .i64 y] 3)) ⟨w.heap.size, 0, none⟩ = some (.int .i64 i) := B2.out.cell 0; have c1 : World.cell? (w1.alloc (.cells #[.int .i64 x, .int .i64 b, .int .i64 y] 3)) ⟨w.heap.size, 1, none⟩ = some (.int .i64 f) := B2.out.cell 1; have c2 : World.cell? (w1.alloc (.cells #[.int .i64 x, .int .i64 b, .int .i64 y] 3)) ⟨w.heap.size, 2, none⟩ = some (.int .i64 t) := B2.out.cell 2; have c3 : World.cell? (w1.alloc (.cells #[.int .i64 x, .int .i64 b, .int .i64 y] 3)) ⟨w.heap.size, 3, none⟩ = some (.int .i64 c) := B2.out.cell 3; have c4 : World.cell? (w1.alloc (.cells #[.int .i64 x, .int .i64 b, .int .i64 y] 3)) ⟨w.heap.size, 4, none⟩ = some (.int .i64 p) := B2.out.cell 4; have c5 : World.cell? (w1.alloc (.cells #[.int .i64 x, .int .i64 b, .int .i64 y] 3)) ⟨w.heap.size, 5, none⟩ = some (.int .i64 d) := B2.out.cell 5; have c6 : World.cell? (w1.alloc (.cells #[.int .i64 x, .int .i64 b, .int .i64 y] 3)) ⟨w.heap.size, 6, none⟩ = some (.int .i64 u) := B2.out.cell 6; have c7 : World.cell? (w1.alloc (.cells #[.int .i64 x, .int .i64 b, .int .i64 y] 3)) ⟨w.heap.size, 7, none⟩ = some (.int .i64 x) := B2.out.cell 7; have c8 : World.cell? (w1.alloc (.cells #[.int .i64 x, .int .i64 b, .int .i64 y] 3)) ⟨w.heap.size, 8, none⟩ = some (.int .i64 b) := B2.out.cell 8; have c9 : World.cell? (w1.alloc (.cells #[.int .i64 x, .int .i64 b, .int .i64 y] 3)) ⟨w.heap.size, 9, none⟩ = some (.int .i64 y) := B2.out.cell 9)
            | (go_at_call 53; (with_reducible refine (OP.out _).mono ?_); rintro e w3 ⟨rfl, k3⟩; have K3 := Lib.hid (ktr K2.out k3); clear k3))
          go_ret
          exact ⟨rfl, K3.out⟩

/-- what Open gives: how many are open, or an error -/
def openV (i f t c p d u x b y : Int) : Int := if failE i f t c p d u x b y = 0 then u - x - b - y else 0
set_option maxHeartbeats 4000000 in
theorem fopenX_run (i f t c p d u x b y : Int) (w : World) :
    Calls Try.prog 26 #[.agg #[.int .i64 i, .int .i64 f, .int .i64 t, .int .i64 c, .int .i64 p, .int .i64 d, .int .i64 u, .int .i64 x, .int .i64 b, .int .i64 y]] w fun e w' => e = .returned (.tuple #[.int .i64 (openV i f t c p d u x b y), .int .i64 (failE i f t c p d u x b y)]) ∧ Kpt w w' := by
  have CK := Lib.hid (fun w' => fcheck_run i f t c p d u x b y w')
  by_cases h0 : failE i f t c p d u x b y = 0
  · have hv : openV i f t c p d u x b y = u - x - b - y := by unfold openV; rw [if_pos h0]
    rw [hv, h0]
    rw [h0] at CK
    obtain ⟨hd, -, hk, -⟩ := fail_0 h0
    obtain ⟨-, -, -, -, -, hu⟩ := fdue_t hd
    obtain ⟨hx, hb, hy⟩ := ftk_t hk
    have OP := Lib.hid (fun w' => fopen_run i f t c p d u x b y w' hu hx hb hy)
    clear h0 hv hd hk hu hx hb hy
    generalize u - x - b - y = O at *
    go_enter Try.func26, Try.ntmps26
    go_wp2_with (first
      | (go_at_call 50; (with_reducible refine (CK.out _).mono ?_); rintro e w1 ⟨rfl, k1⟩; have K1 := Lib.hid (ktr ((Kpt.refl w).alloc (.cells #[.int .i64 i, .int .i64 f, .int .i64 t, .int .i64 c, .int .i64 p, .int .i64 d, .int .i64 u, .int .i64 x, .int .i64 b, .int .i64 y] 49)) k1); have B1 := Lib.hid (Blk.kpt (Blk.made w #[.int .i64 i, .int .i64 f, .int .i64 t, .int .i64 c, .int .i64 p, .int .i64 d, .int .i64 u, .int .i64 x, .int .i64 b, .int .i64 y] 49) k1); have c0 : World.cell? w1 ⟨w.heap.size, 0, none⟩ = some (.int .i64 i) := B1.out.cell 0; have c1 : World.cell? w1 ⟨w.heap.size, 1, none⟩ = some (.int .i64 f) := B1.out.cell 1; have c2 : World.cell? w1 ⟨w.heap.size, 2, none⟩ = some (.int .i64 t) := B1.out.cell 2; have c3 : World.cell? w1 ⟨w.heap.size, 3, none⟩ = some (.int .i64 c) := B1.out.cell 3; have c4 : World.cell? w1 ⟨w.heap.size, 4, none⟩ = some (.int .i64 p) := B1.out.cell 4; have c5 : World.cell? w1 ⟨w.heap.size, 5, none⟩ = some (.int .i64 d) := B1.out.cell 5; have c6 : World.cell? w1 ⟨w.heap.size, 6, none⟩ = some (.int .i64 u) := B1.out.cell 6; have c7 : World.cell? w1 ⟨w.heap.size, 7, none⟩ = some (.int .i64 x) := B1.out.cell 7; have c8 : World.cell? w1 ⟨w.heap.size, 8, none⟩ = some (.int .i64 b) := B1.out.cell 8; have c9 : World.cell? w1 ⟨w.heap.size, 9, none⟩ = some (.int .i64 y) := B1.out.cell 9; clear k1)
      | (go_at_call 53; (with_reducible refine (OP.out _).mono ?_); rintro e w3 ⟨rfl, k3⟩; have K3 := Lib.hid (ktr K1.out k3); clear k3))
    go_ret2
    exact ⟨rfl, K3.out⟩
  · have hv : openV i f t c p d u x b y = 0 := by unfold openV; rw [if_neg h0]
    rw [hv]
    have z0 : (failE i f t c p d u x b y != 0) = true := bne_iff_ne.2 h0
    clear hv h0
    generalize failE i f t c p d u x b y = E at *
    go_enter Try.func26, Try.ntmps26
    go_wp2_with (first
      | (go_at_call 50; (with_reducible refine (CK.out _).mono ?_); rintro e w1 ⟨rfl, k1⟩; have K1 := Lib.hid (ktr ((Kpt.refl w).alloc (.cells #[.int .i64 i, .int .i64 f, .int .i64 t, .int .i64 c, .int .i64 p, .int .i64 d, .int .i64 u, .int .i64 x, .int .i64 b, .int .i64 y] 49)) k1); have B1 := Lib.hid (Blk.kpt (Blk.made w #[.int .i64 i, .int .i64 f, .int .i64 t, .int .i64 c, .int .i64 p, .int .i64 d, .int .i64 u, .int .i64 x, .int .i64 b, .int .i64 y] 49) k1); have c0 : World.cell? w1 ⟨w.heap.size, 0, none⟩ = some (.int .i64 i) := B1.out.cell 0; have c1 : World.cell? w1 ⟨w.heap.size, 1, none⟩ = some (.int .i64 f) := B1.out.cell 1; have c2 : World.cell? w1 ⟨w.heap.size, 2, none⟩ = some (.int .i64 t) := B1.out.cell 2; have c3 : World.cell? w1 ⟨w.heap.size, 3, none⟩ = some (.int .i64 c) := B1.out.cell 3; have c4 : World.cell? w1 ⟨w.heap.size, 4, none⟩ = some (.int .i64 p) := B1.out.cell 4; have c5 : World.cell? w1 ⟨w.heap.size, 5, none⟩ = some (.int .i64 d) := B1.out.cell 5; have c6 : World.cell? w1 ⟨w.heap.size, 6, none⟩ = some (.int .i64 u) := B1.out.cell 6; have c7 : World.cell? w1 ⟨w.heap.size, 7, none⟩ = some (.int .i64 x) := B1.out.cell 7; have c8 : World.cell? w1 ⟨w.heap.size, 8, none⟩ = some (.int .i64 b) := B1.out.cell 8; have c9 : World.cell? w1 ⟨w.heap.size, 9, none⟩ = some (.int .i64 y) := B1.out.cell 9; clear k1))
    go_ret2
    exact ⟨rfl, K1.out⟩

/-- the error of what is taken from a fail of which l are open -/
def takeE (E l n : Int) : Int := if E = 0 then (if n < 1 ∨ 1073741824 < n then 3 else if l = 0 then 5 else if l < n then 8 else 0) else E
set_option maxHeartbeats 4000000 in
theorem take_run (i f t c p d u x b y n : Int) (w : World) :
    Calls Try.prog 68 #[.agg #[.int .i64 i, .int .i64 f, .int .i64 t, .int .i64 c, .int .i64 p, .int .i64 d, .int .i64 u, .int .i64 x, .int .i64 b, .int .i64 y], .int .i64 n] w fun e w' => e = .returned (.int .i64 (takeE (failE i f t c p d u x b y) (openV i f t c p d u x b y) n)) ∧ Kpt w w' := by
  have OX := Lib.hid (fun w' => fopenX_run i f t c p d u x b y w')
  generalize failE i f t c p d u x b y = E at *
  generalize openV i f t c p d u x b y = l at *
  by_cases h0 : E = 0
  · subst h0
    by_cases h1 : n < 1
    · have y1 : decide (n < 1) = true := decide_eq_true h1
      rw [show takeE 0 l n = 3 by unfold takeE; rw [if_pos rfl, if_pos (.inl h1)]]
      go_enter Try.func68, Try.ntmps68
      go_wp2_with (first
        | (go_at_call 26; (with_reducible refine (OX.out _).mono ?_); rintro e w1 ⟨rfl, k1⟩; have K1 := Lib.hid (ktr ((Kpt.refl w).alloc (.cells #[.int .i64 i, .int .i64 f, .int .i64 t, .int .i64 c, .int .i64 p, .int .i64 d, .int .i64 u, .int .i64 x, .int .i64 b, .int .i64 y] 49)) k1); clear k1))
      go_ret
      exact ⟨rfl, K1.out⟩
    have y1 : decide (n < 1) = false := decide_eq_false h1
    by_cases h2 : 1073741824 < n
    · have y2 : decide (1073741824 < n) = true := decide_eq_true h2
      rw [show takeE 0 l n = 3 by unfold takeE; rw [if_pos rfl, if_pos (.inr h2)]]
      go_enter Try.func68, Try.ntmps68
      go_wp2_with (first
        | (go_at_call 26; (with_reducible refine (OX.out _).mono ?_); rintro e w1 ⟨rfl, k1⟩; have K1 := Lib.hid (ktr ((Kpt.refl w).alloc (.cells #[.int .i64 i, .int .i64 f, .int .i64 t, .int .i64 c, .int .i64 p, .int .i64 d, .int .i64 u, .int .i64 x, .int .i64 b, .int .i64 y] 49)) k1); clear k1))
      go_ret
      exact ⟨rfl, K1.out⟩
    have y2 : decide (1073741824 < n) = false := decide_eq_false h2
    by_cases h3 : l = 0
    · have y3 : (l == 0) = true := beq_iff_eq.2 h3
      rw [show takeE 0 l n = 5 by unfold takeE; rw [if_pos rfl, if_neg (by omega), if_pos h3]]
      clear h3
      go_enter Try.func68, Try.ntmps68
      go_wp2_with (first
        | (go_at_call 26; (with_reducible refine (OX.out _).mono ?_); rintro e w1 ⟨rfl, k1⟩; have K1 := Lib.hid (ktr ((Kpt.refl w).alloc (.cells #[.int .i64 i, .int .i64 f, .int .i64 t, .int .i64 c, .int .i64 p, .int .i64 d, .int .i64 u, .int .i64 x, .int .i64 b, .int .i64 y] 49)) k1); clear k1))
      go_ret
      exact ⟨rfl, K1.out⟩
    have y3 : (l == 0) = false := beq_eq_false_iff_ne.2 h3
    by_cases h4 : l < n
    · have y4 : decide (l < n) = true := decide_eq_true h4
      rw [show takeE 0 l n = 8 by unfold takeE; rw [if_pos rfl, if_neg (by omega), if_neg h3, if_pos h4]]
      clear h3
      go_enter Try.func68, Try.ntmps68
      go_wp2_with (first
        | (go_at_call 26; (with_reducible refine (OX.out _).mono ?_); rintro e w1 ⟨rfl, k1⟩; have K1 := Lib.hid (ktr ((Kpt.refl w).alloc (.cells #[.int .i64 i, .int .i64 f, .int .i64 t, .int .i64 c, .int .i64 p, .int .i64 d, .int .i64 u, .int .i64 x, .int .i64 b, .int .i64 y] 49)) k1); clear k1))
      go_ret
      exact ⟨rfl, K1.out⟩
    have y4 : decide (l < n) = false := decide_eq_false h4
    rw [show takeE 0 l n = 0 by unfold takeE; rw [if_pos rfl, if_neg (by omega), if_neg h3, if_neg h4]]
    clear h3
    go_enter Try.func68, Try.ntmps68
    go_wp2_with (first
      | (go_at_call 26; (with_reducible refine (OX.out _).mono ?_); rintro e w1 ⟨rfl, k1⟩; have K1 := Lib.hid (ktr ((Kpt.refl w).alloc (.cells #[.int .i64 i, .int .i64 f, .int .i64 t, .int .i64 c, .int .i64 p, .int .i64 d, .int .i64 u, .int .i64 x, .int .i64 b, .int .i64 y] 49)) k1); clear k1))
    go_ret
    exact ⟨rfl, K1.out⟩
  · have z0 : (E != 0) = true := bne_iff_ne.2 h0
    rw [show takeE E l n = E by unfold takeE; rw [if_neg h0]]
    clear h0
    go_enter Try.func68, Try.ntmps68
    go_wp2_with (first
      | (go_at_call 26; (with_reducible refine (OX.out _).mono ?_); rintro e w1 ⟨rfl, k1⟩; have K1 := Lib.hid (ktr ((Kpt.refl w).alloc (.cells #[.int .i64 i, .int .i64 f, .int .i64 t, .int .i64 c, .int .i64 p, .int .i64 d, .int .i64 u, .int .i64 x, .int .i64 b, .int .i64 y] 49)) k1); clear k1))
    go_ret
    exact ⟨rfl, K1.out⟩

end Go.Proofs.Ytklaojahocjeiaa

-- FailS
namespace Go.Proofs.Ytklaojahocjeiaa
open Go.RowKit
set_option linter.unusedVariables false

theorem Try.sizeFail : (Try.prog.info? 49).map (·.size) = some 10 := by kernel_rfl
theorem wp_storeF {ops : Array Oper} {rest : List Oper} {o : Oper} {a : Act} {w : World} {Q : Exit → Act → World → Prop} (hgd : o.guard = none) (x y : Operand) (ho : o.op = .store 49 x y)
    (g : Nat) (cs old : Array Value) (hx : a.eval x = .pointer (some ⟨g, 0, none⟩)) (hy : a.eval y = .agg cs) (hg : Blk w g old 49) (hs : old.size = 10) (hc : cs.size = 10) (h1 : cs.all (·.oneCell') = true)
    (h : ∀ w', Blk w' g cs 49 → (∀ B w0, Below B w0 w → B ≤ g → Below B w0 w') → (∀ k, k ≠ g → w'.heap[k]? = w.heap[k]?) → wpList Try.prog ops Q rest (a.put o.dst undef) w') : wpList Try.prog ops Q (o :: rest) a w :=
  wpList_store_row hgd _ x y ho g cs hx hy _ old hg (by rw [hc]; exact Try.sizeFail) (by omega) h1 (h _ (setRow_heap w g old cs _ _ hg) (fun B w0 hb hB => below_setRow hb hB cs) (fun k hk => setRow_other w g k cs hk))
theorem wp_loadF {ops : Array Oper} {rest : List Oper} {o : Oper} {a : Act} {w : World} {Q : Exit → Act → World → Prop} (hgd : o.guard = none) (x : Operand) (ho : o.op = .load 49 x)
    (g : Nat) (cs : Array Value) (hx : a.eval x = .pointer (some ⟨g, 0, none⟩)) (hg : Blk w g cs 49) (hc : cs.size = 10)
    (h : wpList Try.prog ops Q rest (a.put o.dst (.agg cs)) w) : wpList Try.prog ops Q (o :: rest) a w :=
  wpList_load_row hgd _ x ho g hx _ cs _ _ hg Try.underlying49 rfl (by rw [hc]; exact Try.sizeFail) h
theorem results_F2 {fn : Func} {p q : Tmp} (h : fn.results = #[.cell p 49, .tmp q]) (tmps : Array Value) (w : World) (g : Nat) (cs : Array Value) (z : Value)
    (hp : tmps.getD p undef = .pointer (some ⟨g, 0, none⟩)) (hq : tmps.getD q undef = z) (hg : Blk w g cs 49) (hc : cs.size = 10) : (results fn tmps).run Try.prog w = .ok (.tuple #[.agg cs, z]) w := by
  have hp' : tmps[p]?.getD undef = .pointer (some ⟨g, 0, none⟩) := by simpa using hp
  have hq' : tmps[q]?.getD undef = z := by simpa using hq
  have hl := run_loadVar_row (P := Try.prog) w g 49 49 cs (0, 0) _ hg Try.underlying49 rfl (by rw [hc]; exact Try.sizeFail)
  simp [results, h, hp', hq', asAddr, hl]
theorem results_F3 {fn : Func} {p q r : Tmp} (h : fn.results = #[.cell p 49, .tmp q, .tmp r]) (tmps : Array Value) (w : World) (g : Nat) (cs : Array Value) (z y : Value)
    (hp : tmps.getD p undef = .pointer (some ⟨g, 0, none⟩)) (hq : tmps.getD q undef = z) (hr : tmps.getD r undef = y) (hg : Blk w g cs 49) (hc : cs.size = 10) : (results fn tmps).run Try.prog w = .ok (.tuple #[.agg cs, z, y]) w := by
  have hp' : tmps[p]?.getD undef = .pointer (some ⟨g, 0, none⟩) := by simpa using hp
  have hq' : tmps[q]?.getD undef = z := by simpa using hq
  have hr' : tmps[r]?.getD undef = y := by simpa using hr
  have hl := run_loadVar_row (P := Try.prog) w g 49 49 cs (0, 0) _ hg Try.underlying49 rfl (by rw [hc]; exact Try.sizeFail)
  simp [results, h, hp', hq', hr', asAddr, hl]

end Go.Proofs.Ytklaojahocjeiaa

-- FailD
namespace Go.Proofs.Ytklaojahocjeiaa
open Go.RowKit
set_option linter.unusedVariables false


set_option maxHeartbeats 2000000 in
theorem deliver_bad (i f t c p d u x b y n E : Int) (w : World) (hE : takeE (failE i f t c p d u x b y) (openV i f t c p d u x b y) n = E) (h : E ≠ 0) :
    Calls Try.prog 46 #[.agg #[.int .i64 i, .int .i64 f, .int .i64 t, .int .i64 c, .int .i64 p, .int .i64 d, .int .i64 u, .int .i64 x, .int .i64 b, .int .i64 y], .int .i64 n] w fun e w' => e = .returned (.tuple #[.agg #[.int .i64 0, .int .i64 0, .int .i64 0, .int .i64 0, .int .i64 0, .int .i64 0, .int .i64 0, .int .i64 0, .int .i64 0, .int .i64 0], .int .i64 E]) ∧ Kpt w w' := by
  have TK := Lib.hid (fun w' => take_run i f t c p d u x b y n w')
  rw [hE] at TK
  have z0 : (E != 0) = true := bne_iff_ne.2 h
  clear hE h
  go_enter Try.func46, Try.ntmps46
  go_wp2_with (first
    | (go_at_call 68; (with_reducible refine (TK.out _).mono ?_); rintro e w1 ⟨rfl, k1⟩; have K1 := Lib.hid (ktr (((Kpt.refl w).alloc (.cells #[.int .i64 i, .int .i64 f, .int .i64 t, .int .i64 c, .int .i64 p, .int .i64 d, .int .i64 u, .int .i64 x, .int .i64 b, .int .i64 y] 49)).alloc (.cells #[.int .i64 0, .int .i64 0, .int .i64 0, .int .i64 0, .int .i64 0, .int .i64 0, .int .i64 0, .int .i64 0, .int .i64 0, .int .i64 0] 49)) k1); have B1 : Hid (Blk w1 w.heap.size #[.int .i64 i, .int .i64 f, .int .i64 t, .int .i64 c, .int .i64 p, .int .i64 d, .int .i64 u, .int .i64 x, .int .i64 b, .int .i64 y] 49) := Blk.kpt ((Blk.made w #[.int .i64 i, .int .i64 f, .int .i64 t, .int .i64 c, .int .i64 p, .int .i64 d, .int .i64 u, .int .i64 x, .int .i64 b, .int .i64 y] 49).alloc _) k1; have R1 : Hid (Blk w1 (w.heap.size + 1) #[.int .i64 0, .int .i64 0, .int .i64 0, .int .i64 0, .int .i64 0, .int .i64 0, .int .i64 0, .int .i64 0, .int .i64 0, .int .i64 0] 49) := Blk.kpt (by have := Blk.made (w.alloc (.cells #[.int .i64 i, .int .i64 f, .int .i64 t, .int .i64 c, .int .i64 p, .int .i64 d, .int .i64 u, .int .i64 x, .int .i64 b, .int .i64 y] 49)) #[.int .i64 0, .int .i64 0, .int .i64 0, .int .i64 0, .int .i64 0, .int .i64 0, .int .i64 0, .int .i64 0, .int .i64 0, .int .i64 0] 49; simpa using this) k1; have ck : World.cell? w1 ⟨w.heap.size, 7, none⟩ = some (.int .i64 x) := B1.out.cell 7; have fk := B1.out.frozen 7; clear k1)
    | (refine wp_storeF rfl (.tmp 4) (.tmp 12) rfl (w.heap.size + 1) _ _ rfl rfl R1.out rfl rfl (by simp [Value.oneCell']) ?_; intro w9 r9 k9 _; have R9 := Lib.hid r9; have K9 := Lib.hid (k9 _ _ K1.out (by omega)); clear r9 k9))
  exact bodyPost_ret (v := .tuple #[.agg #[.int .i64 0, .int .i64 0, .int .i64 0, .int .i64 0, .int .i64 0, .int .i64 0, .int .i64 0, .int .i64 0, .int .i64 0, .int .i64 0], .int .i64 E]) (results_F2 Try.results46 _ _ _ _ _ rfl rfl R9.out rfl) rfl ⟨rfl, K9.out⟩
set_option maxHeartbeats 2000000 in
theorem deliver_ok (i f t c p d u x b y n : Int) (w : World) (hE : takeE (failE i f t c p d u x b y) (openV i f t c p d u x b y) n = 0) (h0 : 0 ≤ x) (h1 : x ≤ 1073741824) (h2 : 1 ≤ n) (h3 : n ≤ 1073741824) :
    Calls Try.prog 46 #[.agg #[.int .i64 i, .int .i64 f, .int .i64 t, .int .i64 c, .int .i64 p, .int .i64 d, .int .i64 u, .int .i64 x, .int .i64 b, .int .i64 y], .int .i64 n] w fun e w' => e = .returned (.tuple #[.agg #[.int .i64 i, .int .i64 f, .int .i64 t, .int .i64 c, .int .i64 p, .int .i64 d, .int .i64 u, .int .i64 (x + n), .int .i64 b, .int .i64 y], .int .i64 0]) ∧ Kpt w w' := by
  have TK := Lib.hid (fun w' => take_run i f t c p d u x b y n w')
  rw [hE] at TK
  have e1 : IntKind.i64.wrap (x + n) = x + n := by unfold IntKind.wrap; simp [IntKind.bits, IntKind.signed]; omega
  clear hE
  go_enter Try.func46, Try.ntmps46
  go_wp2_with (first
    | (go_at_call 68; (with_reducible refine (TK.out _).mono ?_); rintro e w1 ⟨rfl, k1⟩; have K1 := Lib.hid (ktr (((Kpt.refl w).alloc (.cells #[.int .i64 i, .int .i64 f, .int .i64 t, .int .i64 c, .int .i64 p, .int .i64 d, .int .i64 u, .int .i64 x, .int .i64 b, .int .i64 y] 49)).alloc (.cells #[.int .i64 0, .int .i64 0, .int .i64 0, .int .i64 0, .int .i64 0, .int .i64 0, .int .i64 0, .int .i64 0, .int .i64 0, .int .i64 0] 49)) k1); have B1 : Hid (Blk w1 w.heap.size #[.int .i64 i, .int .i64 f, .int .i64 t, .int .i64 c, .int .i64 p, .int .i64 d, .int .i64 u, .int .i64 x, .int .i64 b, .int .i64 y] 49) := Blk.kpt ((Blk.made w #[.int .i64 i, .int .i64 f, .int .i64 t, .int .i64 c, .int .i64 p, .int .i64 d, .int .i64 u, .int .i64 x, .int .i64 b, .int .i64 y] 49).alloc _) k1; have R1 : Hid (Blk w1 (w.heap.size + 1) #[.int .i64 0, .int .i64 0, .int .i64 0, .int .i64 0, .int .i64 0, .int .i64 0, .int .i64 0, .int .i64 0, .int .i64 0, .int .i64 0] 49) := Blk.kpt (by have := Blk.made (w.alloc (.cells #[.int .i64 i, .int .i64 f, .int .i64 t, .int .i64 c, .int .i64 p, .int .i64 d, .int .i64 u, .int .i64 x, .int .i64 b, .int .i64 y] 49)) #[.int .i64 0, .int .i64 0, .int .i64 0, .int .i64 0, .int .i64 0, .int .i64 0, .int .i64 0, .int .i64 0, .int .i64 0, .int .i64 0] 49; simpa using this) k1; have ck : World.cell? w1 ⟨w.heap.size, 7, none⟩ = some (.int .i64 x) := B1.out.cell 7; have fk := B1.out.frozen 7; clear k1; have B2 : Hid (Blk (w1.setCell ⟨w.heap.size, 7, none⟩ (.int .i64 (x + n))) w.heap.size #[.int .i64 i, .int .i64 f, .int .i64 t, .int .i64 c, .int .i64 p, .int .i64 d, .int .i64 u, .int .i64 (x + n), .int .i64 b, .int .i64 y] 49) := B1.out.put 7 _; have R2 := Lib.hid (R1.out.away (p := ⟨w.heap.size, 7, none⟩) (by simp) (.int .i64 (x + n))); have K2 := Lib.hid (Kpt.setCell K1.out (p := ⟨w.heap.size, 7, none⟩) (Nat.le_refl _) (.int .i64 (x + n))))
    | (refine wp_loadF rfl (.tmp 2) rfl w.heap.size _ rfl B2.out rfl ?_)
    | (refine wp_storeF rfl (.tmp 4) (.tmp 19) rfl (w.heap.size + 1) _ _ rfl rfl R2.out rfl rfl (by simp [Value.oneCell']) ?_; intro w9 r9 k9 _; have R9 := Lib.hid r9; have K9 := Lib.hid (k9 _ _ K2.out (by omega)); clear r9 k9))
  exact bodyPost_ret (v := .tuple #[.agg #[.int .i64 i, .int .i64 f, .int .i64 t, .int .i64 c, .int .i64 p, .int .i64 d, .int .i64 u, .int .i64 (x + n), .int .i64 b, .int .i64 y], .int .i64 0]) (results_F2 Try.results46 _ _ _ _ _ rfl rfl R9.out rfl) rfl ⟨rfl, K9.out⟩

set_option maxHeartbeats 2000000 in
theorem buy_bad (i f t c p d u x b y n E : Int) (w : World) (hE : takeE (failE i f t c p d u x b y) (openV i f t c p d u x b y) n = E) (h : E ≠ 0) :
    Calls Try.prog 47 #[.agg #[.int .i64 i, .int .i64 f, .int .i64 t, .int .i64 c, .int .i64 p, .int .i64 d, .int .i64 u, .int .i64 x, .int .i64 b, .int .i64 y], .int .i64 n] w fun e w' => e = .returned (.tuple #[.agg #[.int .i64 0, .int .i64 0, .int .i64 0, .int .i64 0, .int .i64 0, .int .i64 0, .int .i64 0, .int .i64 0, .int .i64 0, .int .i64 0], .int .i64 E]) ∧ Kpt w w' := by
  have TK := Lib.hid (fun w' => take_run i f t c p d u x b y n w')
  rw [hE] at TK
  have z0 : (E != 0) = true := bne_iff_ne.2 h
  clear hE h
  go_enter Try.func47, Try.ntmps47
  go_wp2_with (first
    | (go_at_call 68; (with_reducible refine (TK.out _).mono ?_); rintro e w1 ⟨rfl, k1⟩; have K1 := Lib.hid (ktr (((Kpt.refl w).alloc (.cells #[.int .i64 i, .int .i64 f, .int .i64 t, .int .i64 c, .int .i64 p, .int .i64 d, .int .i64 u, .int .i64 x, .int .i64 b, .int .i64 y] 49)).alloc (.cells #[.int .i64 0, .int .i64 0, .int .i64 0, .int .i64 0, .int .i64 0, .int .i64 0, .int .i64 0, .int .i64 0, .int .i64 0, .int .i64 0] 49)) k1); have B1 : Hid (Blk w1 w.heap.size #[.int .i64 i, .int .i64 f, .int .i64 t, .int .i64 c, .int .i64 p, .int .i64 d, .int .i64 u, .int .i64 x, .int .i64 b, .int .i64 y] 49) := Blk.kpt ((Blk.made w #[.int .i64 i, .int .i64 f, .int .i64 t, .int .i64 c, .int .i64 p, .int .i64 d, .int .i64 u, .int .i64 x, .int .i64 b, .int .i64 y] 49).alloc _) k1; have R1 : Hid (Blk w1 (w.heap.size + 1) #[.int .i64 0, .int .i64 0, .int .i64 0, .int .i64 0, .int .i64 0, .int .i64 0, .int .i64 0, .int .i64 0, .int .i64 0, .int .i64 0] 49) := Blk.kpt (by have := Blk.made (w.alloc (.cells #[.int .i64 i, .int .i64 f, .int .i64 t, .int .i64 c, .int .i64 p, .int .i64 d, .int .i64 u, .int .i64 x, .int .i64 b, .int .i64 y] 49)) #[.int .i64 0, .int .i64 0, .int .i64 0, .int .i64 0, .int .i64 0, .int .i64 0, .int .i64 0, .int .i64 0, .int .i64 0, .int .i64 0] 49; simpa using this) k1; have ck : World.cell? w1 ⟨w.heap.size, 8, none⟩ = some (.int .i64 b) := B1.out.cell 8; have fk := B1.out.frozen 8; clear k1)
    | (refine wp_storeF rfl (.tmp 4) (.tmp 12) rfl (w.heap.size + 1) _ _ rfl rfl R1.out rfl rfl (by simp [Value.oneCell']) ?_; intro w9 r9 k9 _; have R9 := Lib.hid r9; have K9 := Lib.hid (k9 _ _ K1.out (by omega)); clear r9 k9))
  exact bodyPost_ret (v := .tuple #[.agg #[.int .i64 0, .int .i64 0, .int .i64 0, .int .i64 0, .int .i64 0, .int .i64 0, .int .i64 0, .int .i64 0, .int .i64 0, .int .i64 0], .int .i64 E]) (results_F2 Try.results47 _ _ _ _ _ rfl rfl R9.out rfl) rfl ⟨rfl, K9.out⟩
set_option maxHeartbeats 2000000 in
theorem buy_ok (i f t c p d u x b y n : Int) (w : World) (hE : takeE (failE i f t c p d u x b y) (openV i f t c p d u x b y) n = 0) (h0 : 0 ≤ b) (h1 : b ≤ 1073741824) (h2 : 1 ≤ n) (h3 : n ≤ 1073741824) :
    Calls Try.prog 47 #[.agg #[.int .i64 i, .int .i64 f, .int .i64 t, .int .i64 c, .int .i64 p, .int .i64 d, .int .i64 u, .int .i64 x, .int .i64 b, .int .i64 y], .int .i64 n] w fun e w' => e = .returned (.tuple #[.agg #[.int .i64 i, .int .i64 f, .int .i64 t, .int .i64 c, .int .i64 p, .int .i64 d, .int .i64 u, .int .i64 x, .int .i64 (b + n), .int .i64 y], .int .i64 0]) ∧ Kpt w w' := by
  have TK := Lib.hid (fun w' => take_run i f t c p d u x b y n w')
  rw [hE] at TK
  have e1 : IntKind.i64.wrap (b + n) = b + n := by unfold IntKind.wrap; simp [IntKind.bits, IntKind.signed]; omega
  clear hE
  go_enter Try.func47, Try.ntmps47
  go_wp2_with (first
    | (go_at_call 68; (with_reducible refine (TK.out _).mono ?_); rintro e w1 ⟨rfl, k1⟩; have K1 := Lib.hid (ktr (((Kpt.refl w).alloc (.cells #[.int .i64 i, .int .i64 f, .int .i64 t, .int .i64 c, .int .i64 p, .int .i64 d, .int .i64 u, .int .i64 x, .int .i64 b, .int .i64 y] 49)).alloc (.cells #[.int .i64 0, .int .i64 0, .int .i64 0, .int .i64 0, .int .i64 0, .int .i64 0, .int .i64 0, .int .i64 0, .int .i64 0, .int .i64 0] 49)) k1); have B1 : Hid (Blk w1 w.heap.size #[.int .i64 i, .int .i64 f, .int .i64 t, .int .i64 c, .int .i64 p, .int .i64 d, .int .i64 u, .int .i64 x, .int .i64 b, .int .i64 y] 49) := Blk.kpt ((Blk.made w #[.int .i64 i, .int .i64 f, .int .i64 t, .int .i64 c, .int .i64 p, .int .i64 d, .int .i64 u, .int .i64 x, .int .i64 b, .int .i64 y] 49).alloc _) k1; have R1 : Hid (Blk w1 (w.heap.size + 1) #[.int .i64 0, .int .i64 0, .int .i64 0, .int .i64 0, .int .i64 0, .int .i64 0, .int .i64 0, .int .i64 0, .int .i64 0, .int .i64 0] 49) := Blk.kpt (by have := Blk.made (w.alloc (.cells #[.int .i64 i, .int .i64 f, .int .i64 t, .int .i64 c, .int .i64 p, .int .i64 d, .int .i64 u, .int .i64 x, .int .i64 b, .int .i64 y] 49)) #[.int .i64 0, .int .i64 0, .int .i64 0, .int .i64 0, .int .i64 0, .int .i64 0, .int .i64 0, .int .i64 0, .int .i64 0, .int .i64 0] 49; simpa using this) k1; have ck : World.cell? w1 ⟨w.heap.size, 8, none⟩ = some (.int .i64 b) := B1.out.cell 8; have fk := B1.out.frozen 8; clear k1; have B2 : Hid (Blk (w1.setCell ⟨w.heap.size, 8, none⟩ (.int .i64 (b + n))) w.heap.size #[.int .i64 i, .int .i64 f, .int .i64 t, .int .i64 c, .int .i64 p, .int .i64 d, .int .i64 u, .int .i64 x, .int .i64 (b + n), .int .i64 y] 49) := B1.out.put 8 _; have R2 := Lib.hid (R1.out.away (p := ⟨w.heap.size, 8, none⟩) (by simp) (.int .i64 (b + n))); have K2 := Lib.hid (Kpt.setCell K1.out (p := ⟨w.heap.size, 8, none⟩) (Nat.le_refl _) (.int .i64 (b + n))))
    | (refine wp_loadF rfl (.tmp 2) rfl w.heap.size _ rfl B2.out rfl ?_)
    | (refine wp_storeF rfl (.tmp 4) (.tmp 19) rfl (w.heap.size + 1) _ _ rfl rfl R2.out rfl rfl (by simp [Value.oneCell']) ?_; intro w9 r9 k9 _; have R9 := Lib.hid r9; have K9 := Lib.hid (k9 _ _ K2.out (by omega)); clear r9 k9))
  exact bodyPost_ret (v := .tuple #[.agg #[.int .i64 i, .int .i64 f, .int .i64 t, .int .i64 c, .int .i64 p, .int .i64 d, .int .i64 u, .int .i64 x, .int .i64 (b + n), .int .i64 y], .int .i64 0]) (results_F2 Try.results47 _ _ _ _ _ rfl rfl R9.out rfl) rfl ⟨rfl, K9.out⟩

set_option maxHeartbeats 2000000 in
theorem pay_bad (i f t c p d u x b y : Int) (w : World) (E l : Int) (hE : failE i f t c p d u x b y = E) (hl : openV i f t c p d u x b y = l) (h : E ≠ 0) :
    Calls Try.prog 48 #[.agg #[.int .i64 i, .int .i64 f, .int .i64 t, .int .i64 c, .int .i64 p, .int .i64 d, .int .i64 u, .int .i64 x, .int .i64 b, .int .i64 y]] w fun e w' => e = .returned (.tuple #[.agg #[.int .i64 0, .int .i64 0, .int .i64 0, .int .i64 0, .int .i64 0, .int .i64 0, .int .i64 0, .int .i64 0, .int .i64 0, .int .i64 0], .int .i64 0, .int .i64 E]) ∧ Kpt w w' := by
  have OX := Lib.hid (fun w' => fopenX_run i f t c p d u x b y w')
  rw [hE, hl] at OX
  have z0 : (E != 0) = true := bne_iff_ne.2 h
  clear h
  clear hE hl
  go_enter Try.func48, Try.ntmps48
  go_wp2_with (first
    | (go_at_call 26; (with_reducible refine (OX.out _).mono ?_); rintro e w1 ⟨rfl, k1⟩; have K1 := Lib.hid (ktr (((Kpt.refl w).alloc (.cells #[.int .i64 i, .int .i64 f, .int .i64 t, .int .i64 c, .int .i64 p, .int .i64 d, .int .i64 u, .int .i64 x, .int .i64 b, .int .i64 y] 49)).alloc (.cells #[.int .i64 0, .int .i64 0, .int .i64 0, .int .i64 0, .int .i64 0, .int .i64 0, .int .i64 0, .int .i64 0, .int .i64 0, .int .i64 0] 49)) k1); have B1 : Hid (Blk w1 w.heap.size #[.int .i64 i, .int .i64 f, .int .i64 t, .int .i64 c, .int .i64 p, .int .i64 d, .int .i64 u, .int .i64 x, .int .i64 b, .int .i64 y] 49) := Blk.kpt ((Blk.made w #[.int .i64 i, .int .i64 f, .int .i64 t, .int .i64 c, .int .i64 p, .int .i64 d, .int .i64 u, .int .i64 x, .int .i64 b, .int .i64 y] 49).alloc _) k1; have R1 : Hid (Blk w1 (w.heap.size + 1) #[.int .i64 0, .int .i64 0, .int .i64 0, .int .i64 0, .int .i64 0, .int .i64 0, .int .i64 0, .int .i64 0, .int .i64 0, .int .i64 0] 49) := Blk.kpt (by have := Blk.made (w.alloc (.cells #[.int .i64 i, .int .i64 f, .int .i64 t, .int .i64 c, .int .i64 p, .int .i64 d, .int .i64 u, .int .i64 x, .int .i64 b, .int .i64 y] 49)) #[.int .i64 0, .int .i64 0, .int .i64 0, .int .i64 0, .int .i64 0, .int .i64 0, .int .i64 0, .int .i64 0, .int .i64 0, .int .i64 0] 49; simpa using this) k1; have ck : World.cell? w1 ⟨w.heap.size, 9, none⟩ = some (.int .i64 y) := B1.out.cell 9; have fk := B1.out.frozen 9; clear k1)
    | (refine wp_storeF rfl (.tmp 2) (.tmp 14) rfl (w.heap.size + 1) _ _ rfl rfl R1.out rfl rfl (by simp [Value.oneCell']) ?_; intro w9 r9 k9 _; have R9 := Lib.hid r9; have K9 := Lib.hid (k9 _ _ K1.out (by omega)); clear r9 k9))
  exact bodyPost_ret (v := .tuple #[.agg #[.int .i64 0, .int .i64 0, .int .i64 0, .int .i64 0, .int .i64 0, .int .i64 0, .int .i64 0, .int .i64 0, .int .i64 0, .int .i64 0], .int .i64 0, .int .i64 E]) (results_F3 Try.results48 _ _ _ _ _ _ rfl rfl rfl R9.out rfl) rfl ⟨rfl, K9.out⟩

set_option maxHeartbeats 2000000 in
theorem pay_none (i f t c p d u x b y : Int) (w : World) (hE : failE i f t c p d u x b y = 0) (hl : openV i f t c p d u x b y = 0) :
    Calls Try.prog 48 #[.agg #[.int .i64 i, .int .i64 f, .int .i64 t, .int .i64 c, .int .i64 p, .int .i64 d, .int .i64 u, .int .i64 x, .int .i64 b, .int .i64 y]] w fun e w' => e = .returned (.tuple #[.agg #[.int .i64 0, .int .i64 0, .int .i64 0, .int .i64 0, .int .i64 0, .int .i64 0, .int .i64 0, .int .i64 0, .int .i64 0, .int .i64 0], .int .i64 0, .int .i64 5]) ∧ Kpt w w' := by
  have OX := Lib.hid (fun w' => fopenX_run i f t c p d u x b y w')
  rw [hE, hl] at OX

  clear hE hl
  go_enter Try.func48, Try.ntmps48
  go_wp2_with (first
    | (go_at_call 26; (with_reducible refine (OX.out _).mono ?_); rintro e w1 ⟨rfl, k1⟩; have K1 := Lib.hid (ktr (((Kpt.refl w).alloc (.cells #[.int .i64 i, .int .i64 f, .int .i64 t, .int .i64 c, .int .i64 p, .int .i64 d, .int .i64 u, .int .i64 x, .int .i64 b, .int .i64 y] 49)).alloc (.cells #[.int .i64 0, .int .i64 0, .int .i64 0, .int .i64 0, .int .i64 0, .int .i64 0, .int .i64 0, .int .i64 0, .int .i64 0, .int .i64 0] 49)) k1); have B1 : Hid (Blk w1 w.heap.size #[.int .i64 i, .int .i64 f, .int .i64 t, .int .i64 c, .int .i64 p, .int .i64 d, .int .i64 u, .int .i64 x, .int .i64 b, .int .i64 y] 49) := Blk.kpt ((Blk.made w #[.int .i64 i, .int .i64 f, .int .i64 t, .int .i64 c, .int .i64 p, .int .i64 d, .int .i64 u, .int .i64 x, .int .i64 b, .int .i64 y] 49).alloc _) k1; have R1 : Hid (Blk w1 (w.heap.size + 1) #[.int .i64 0, .int .i64 0, .int .i64 0, .int .i64 0, .int .i64 0, .int .i64 0, .int .i64 0, .int .i64 0, .int .i64 0, .int .i64 0] 49) := Blk.kpt (by have := Blk.made (w.alloc (.cells #[.int .i64 i, .int .i64 f, .int .i64 t, .int .i64 c, .int .i64 p, .int .i64 d, .int .i64 u, .int .i64 x, .int .i64 b, .int .i64 y] 49)) #[.int .i64 0, .int .i64 0, .int .i64 0, .int .i64 0, .int .i64 0, .int .i64 0, .int .i64 0, .int .i64 0, .int .i64 0, .int .i64 0] 49; simpa using this) k1; have ck : World.cell? w1 ⟨w.heap.size, 9, none⟩ = some (.int .i64 y) := B1.out.cell 9; have fk := B1.out.frozen 9; clear k1)
    | (refine wp_storeF rfl (.tmp 2) (.tmp 18) rfl (w.heap.size + 1) _ _ rfl rfl R1.out rfl rfl (by simp [Value.oneCell']) ?_; intro w9 r9 k9 _; have R9 := Lib.hid r9; have K9 := Lib.hid (k9 _ _ K1.out (by omega)); clear r9 k9))
  exact bodyPost_ret (v := .tuple #[.agg #[.int .i64 0, .int .i64 0, .int .i64 0, .int .i64 0, .int .i64 0, .int .i64 0, .int .i64 0, .int .i64 0, .int .i64 0, .int .i64 0], .int .i64 0, .int .i64 5]) (results_F3 Try.results48 _ _ _ _ _ _ rfl rfl rfl R9.out rfl) rfl ⟨rfl, K9.out⟩

set_option maxHeartbeats 2000000 in
theorem pay_ok (i f t c p d u x b y : Int) (w : World) (l : Int) (hE : failE i f t c p d u x b y = 0) (hl : openV i f t c p d u x b y = l) (h : l ≠ 0) (h0 : 0 ≤ y) (h1 : y ≤ 1073741824) (h2 : 0 ≤ l) (h3 : l ≤ 1073741824) :
    Calls Try.prog 48 #[.agg #[.int .i64 i, .int .i64 f, .int .i64 t, .int .i64 c, .int .i64 p, .int .i64 d, .int .i64 u, .int .i64 x, .int .i64 b, .int .i64 y]] w fun e w' => e = .returned (.tuple #[.agg #[.int .i64 i, .int .i64 f, .int .i64 t, .int .i64 c, .int .i64 p, .int .i64 d, .int .i64 u, .int .i64 x, .int .i64 b, .int .i64 (y + l)], .int .i64 l, .int .i64 0]) ∧ Kpt w w' := by
  have OX := Lib.hid (fun w' => fopenX_run i f t c p d u x b y w')
  rw [hE, hl] at OX
  have z0 : (l == 0) = false := beq_eq_false_iff_ne.2 h
  have e1 : IntKind.i64.wrap (y + l) = y + l := by unfold IntKind.wrap; simp [IntKind.bits, IntKind.signed]; omega
  clear h
  clear hE hl
  go_enter Try.func48, Try.ntmps48
  go_wp2_with (first
    | (go_at_call 26; (with_reducible refine (OX.out _).mono ?_); rintro e w1 ⟨rfl, k1⟩; have K1 := Lib.hid (ktr (((Kpt.refl w).alloc (.cells #[.int .i64 i, .int .i64 f, .int .i64 t, .int .i64 c, .int .i64 p, .int .i64 d, .int .i64 u, .int .i64 x, .int .i64 b, .int .i64 y] 49)).alloc (.cells #[.int .i64 0, .int .i64 0, .int .i64 0, .int .i64 0, .int .i64 0, .int .i64 0, .int .i64 0, .int .i64 0, .int .i64 0, .int .i64 0] 49)) k1); have B1 : Hid (Blk w1 w.heap.size #[.int .i64 i, .int .i64 f, .int .i64 t, .int .i64 c, .int .i64 p, .int .i64 d, .int .i64 u, .int .i64 x, .int .i64 b, .int .i64 y] 49) := Blk.kpt ((Blk.made w #[.int .i64 i, .int .i64 f, .int .i64 t, .int .i64 c, .int .i64 p, .int .i64 d, .int .i64 u, .int .i64 x, .int .i64 b, .int .i64 y] 49).alloc _) k1; have R1 : Hid (Blk w1 (w.heap.size + 1) #[.int .i64 0, .int .i64 0, .int .i64 0, .int .i64 0, .int .i64 0, .int .i64 0, .int .i64 0, .int .i64 0, .int .i64 0, .int .i64 0] 49) := Blk.kpt (by have := Blk.made (w.alloc (.cells #[.int .i64 i, .int .i64 f, .int .i64 t, .int .i64 c, .int .i64 p, .int .i64 d, .int .i64 u, .int .i64 x, .int .i64 b, .int .i64 y] 49)) #[.int .i64 0, .int .i64 0, .int .i64 0, .int .i64 0, .int .i64 0, .int .i64 0, .int .i64 0, .int .i64 0, .int .i64 0, .int .i64 0] 49; simpa using this) k1; have ck : World.cell? w1 ⟨w.heap.size, 9, none⟩ = some (.int .i64 y) := B1.out.cell 9; have fk := B1.out.frozen 9; clear k1; have B2 : Hid (Blk (w1.setCell ⟨w.heap.size, 9, none⟩ (.int .i64 (y + l))) w.heap.size #[.int .i64 i, .int .i64 f, .int .i64 t, .int .i64 c, .int .i64 p, .int .i64 d, .int .i64 u, .int .i64 x, .int .i64 b, .int .i64 (y + l)] 49) := B1.out.put 9 _; have R2 := Lib.hid (R1.out.away (p := ⟨w.heap.size, 9, none⟩) (by simp) (.int .i64 (y + l))); have K2 := Lib.hid (Kpt.setCell K1.out (p := ⟨w.heap.size, 9, none⟩) (Nat.le_refl _) (.int .i64 (y + l))))
    | (refine wp_loadF rfl (.tmp 1) rfl w.heap.size _ rfl B2.out rfl ?_)
    | (refine wp_storeF rfl (.tmp 2) (.tmp 24) rfl (w.heap.size + 1) _ _ rfl rfl R2.out rfl rfl (by simp [Value.oneCell']) ?_; intro w9 r9 k9 _; have R9 := Lib.hid r9; have K9 := Lib.hid (k9 _ _ K2.out (by omega)); clear r9 k9))
  exact bodyPost_ret (v := .tuple #[.agg #[.int .i64 i, .int .i64 f, .int .i64 t, .int .i64 c, .int .i64 p, .int .i64 d, .int .i64 u, .int .i64 x, .int .i64 b, .int .i64 (y + l)], .int .i64 l, .int .i64 0]) (results_F3 Try.results48 _ _ _ _ _ _ rfl rfl rfl R9.out rfl) rfl ⟨rfl, K9.out⟩

end Go.Proofs.Ytklaojahocjeiaa

-- MapIds
namespace Go.Proofs.Ytklaojahocjeiaa
open Go.RowKit Go.Maps
set_option linter.unusedVariables false

def idsD (ids : List Int) : DataW Unit := setOf (.lit (.bool true)) (ids.map fun i => Lit.int .i64 i)
def OwnsIds (w : World) (b n : Nat) (ids : List Int) : Prop := w.ownsMap Try.prog 3 (plainElem Try.prog 4) b n (idsD ids)
theorem OwnsIds.nil (w : World) : OwnsIds (w.alloc (.map #[] 0)) w.heap.size 0 [] := World.ownsMap_made w _ _ _
theorem OwnsIds.block {w w' : World} {b n : Nat} {ids : List Int} (h : OwnsIds w b n ids) (e : w'.heap[b]? = w.heap[b]?) : OwnsIds w' b n ids := by
  obtain ⟨es, clock, hb, r⟩ := h
  exact ⟨es, clock, e.trans hb, r⟩
theorem OwnsIds.lt {w : World} {b n : Nat} {ids : List Int} (h : OwnsIds w b n ids) : b < w.heap.size := World.ownsMap.lt h
theorem OwnsIds.kpt {w w' : World} {b n : Nat} {ids : List Int} (h : OwnsIds w b n ids) (k : Kpt w w') : OwnsIds w' b n ids := h.block (k.block b h.lt)
theorem ids_snoc (ids : List Int) (i : Int) : (idsD ids).put (.int .i64 i) (.lit (.bool true)) = idsD (ids ++ [i]) := by
  unfold idsD; rw [List.map_append, List.map_singleton, setOf_snoc]
theorem atKey_in (u z : DataW Unit) (k : Lit) (hk : WideAt.IsKeyLit k) : ∀ (acc : List Lit) (m : DataW Unit), IsMap m → k ∈ acc ∨ m.atKey k z = u → (acc.foldl (fun m x => m.put x u) m).atKey k z = u
  | [], m, _, h => by
    rcases h with h | h
    · cases h
    · exact h
  | x :: r, m, hm, h => by
    rw [List.foldl_cons]
    refine atKey_in u z k hk r (m.put x u) (hm.put x u) ?_
    by_cases e : k = x
    · subst e
      exact .inr (atKey_put_same hm hk u z)
    · rcases h with h | h
      · rcases List.mem_cons.1 h with h | h
        · exact absurd h e
        · exact .inl h
      · exact .inr (by rw [atKey_put_other e]; exact h)
theorem atKey_out (u z : DataW Unit) (k : Lit) : ∀ (acc : List Lit) (m : DataW Unit), k ∉ acc → (acc.foldl (fun m x => m.put x u) m).atKey k z = m.atKey k z
  | [], m, _ => rfl
  | x :: r, m, h => by
    rw [List.foldl_cons, atKey_out u z k r _ (fun e => h (List.mem_cons_of_mem _ e)), atKey_put_other (fun e => h (by rw [e]; exact List.mem_cons_self))]
theorem ids_at (ids : List Int) (i : Int) (hk : WideAt.IsKeyLit (Lit.int .i64 i)) : (idsD ids).atKey (.int .i64 i) (.lit (.bool false)) = .lit (.bool (decide (i ∈ ids))) := by
  unfold idsD setOf
  by_cases h : i ∈ ids
  · rw [decide_eq_true h]
    exact atKey_in _ _ _ hk _ _ isMap_empty (.inl (List.mem_map.2 ⟨i, h, rfl⟩))
  · rw [decide_eq_false h, atKey_out _ _ _ _ _ (fun hm => h (by
      obtain ⟨j, hj, e⟩ := List.mem_map.1 hm
      injection e with _ e
      rwa [e] at hj))]
    rfl
theorem Try.zeroBool (w : World) : (zeroValue 4).run Try.prog w = .ok (.bool false) w := by kernel_rfl
theorem plainElem_bool_inv {P : Program} {e : TypeId} (he : P.underlying e = some .bool) {v : Value} {z : DataW Unit × List MemPlace} (h : plainElem P e v = some z) : ∃ x, v = .bool x ∧ z = (.lit (.bool x), []) := by
  unfold plainElem at h
  rw [he] at h
  cases v <;> simp at h
  exact ⟨_, rfl, h.symm⟩
theorem i64_wf {i : Int} (h : -9223372036854775808 ≤ i ∧ i ≤ 9223372036854775807) : (Lit.int .i64 i).wf = true := WalkArith.wf_i64 h
/-- the look-up, for the walk -/
theorem wp_lookup_ids (w : World) {ops : Array Oper} {rest : List Oper} {o : Oper} {a : Act} {Q : Exit → Act → World → Prop} (hg : o.guard = none) (m x : Operand) (hop : o.op = Op.lookup 87 m x false)
    (b n : Nat) (ids : List Int) (hm : a.eval m = .map (some b)) (hown : OwnsIds w b n ids) (i : Int) (hi : -9223372036854775808 ≤ i ∧ i ≤ 9223372036854775807) (hx : a.eval x = .int .i64 i) (B : Bool) (hB : decide (i ∈ ids) = B)
    (hK : wpList Try.prog ops Q rest (a.put o.dst (.bool B)) w) : wpList Try.prog ops Q (o :: rest) a w := by
  refine wpList_plain hg fun K' hK' => ?_
  have hkey : keyOf Try.prog 3 (.int .i64 i) = some (.int .i64 i) := keyOf_int_mk Try.underlying3 (i64_wf hi)
  obtain ⟨v, ps, hrun, hv⟩ := World.ownsMap.lookup hown (int_keyed Try.underlying3) Try.underlying87 (Try.zeroBool w) (plainElem_bool Try.underlying4 false) hkey
  obtain ⟨y, rfl, e⟩ := plainElem_bool_inv Try.underlying4 hv
  have hk := (int_keyed (P := Try.prog) Try.underlying3).key hkey
  have e1 := congrArg Prod.fst e
  simp only at e1
  rw [ids_at ids i hk, hB] at e1
  injection e1 with e1
  injection e1 with e1
  subst e1
  unfold Oper.wp
  simp [execOp, hop, hm, hx, hrun, Result.andThen]
  exact hK' _ _ hK
/-- the store, for the walk -/
theorem wp_store_ids (w : World) {ops : Array Oper} {rest : List Oper} {o : Oper} {a : Act} {Q : Exit → Act → World → Prop} (hg : o.guard = none) (m x v : Operand) (hop : o.op = Op.mapUpdate 87 m x v)
    (b n : Nat) (ids : List Int) (hm : a.eval m = .map (some b)) (hown : OwnsIds w b n ids) (hn : n ≤ 1000000) (i : Int) (hi : -9223372036854775808 ≤ i ∧ i ≤ 9223372036854775807) (hx : a.eval x = .int .i64 i) (hv : a.eval v = .bool true)
    (hK : ∀ w', OwnsIds w' b (n + 1) (ids ++ [i]) → (∀ B, B ≤ b → Below B w w') → (∀ k, k < w.heap.size → k ≠ b → w'.heap[k]? = w.heap[k]?) → wpList Try.prog ops Q rest (a.put o.dst undef) w') : wpList Try.prog ops Q (o :: rest) a w := by
  refine wpList_mapUpdate_own w hg m x v 87 hop 3 4 (int_keyed Try.underlying3) Try.underlying87 (plainElem Try.prog 4) b n (idsD ids) hm hown (by unfold maxLen; omega) (.int .i64 i) (.bool true) (.int .i64 i) hx hv (keyOf_int_mk Try.underlying3 (i64_wf hi)) (.lit (.bool true)) [] (plainElem_bool Try.underlying4 true) ?_
  intro w' h1 h2
  rw [ids_snoc] at h1
  have hlt := OwnsIds.lt hown
  exact hK w' h1 (fun B hB => (Below.refl B w).grown h2 (by omega) (fun k e => by cases e; exact hB)) (fun k hk hne => h2.block k hk (fun e => hne (Option.some.inj e)))

end Go.Proofs.Ytklaojahocjeiaa

-- FailE
namespace Go.Proofs.Ytklaojahocjeiaa
open Go.RowKit Go.Maps
set_option linter.unusedVariables false

/-- a fail lies at this address: ten ints -/
def FlAt (w : World) (g off : Nat) (l : List Int) : Prop := ∀ j, j < 10 → w.cell? ⟨g, off + j, none⟩ = some (.int .i64 (l.getD j 0))
theorem FlAt.kpt {w w' : World} {g off : Nat} {l : List Int} (h : FlAt w g off l) (k : Kpt w w') : FlAt w' g off l := fun j hj => k.cell (h j hj)
def FlB (l : List Int) : Prop := ∀ j, j < 10 → -9223372036854775808 ≤ l.getD j 0 ∧ l.getD j 0 ≤ 9223372036854775807
/-- the slice value v reads as these fails -/
def ReadsF (w : World) (v : Value) (fs : List (List Int)) : Prop :=
  ∃ (a : Option Addr) (cap : Nat), v = .slice a fs.length cap ∧ fs.length ≤ maxLen ∧ (∀ l ∈ fs, FlB l) ∧ ∀ k, k < fs.length → ∃ g off, a = some ⟨g, off, none⟩ ∧ FlAt w g (off + k * 10) (fs.getD k [])
theorem ReadsF.kpt {w w' : World} {v : Value} {fs : List (List Int)} (h : ReadsF w v fs) (k : Kpt w w') : ReadsF w' v fs := by
  obtain ⟨a, cap, rfl, hm, hb, hc⟩ := h
  refine ⟨a, cap, rfl, hm, hb, fun j hj => ?_⟩
  obtain ⟨g, off, rfl, h'⟩ := hc j hj
  exact ⟨g, off, rfl, h'.kpt k⟩
theorem getF_mem {fs : List (List Int)} {k : Nat} (hk : k < fs.length) : fs.getD k [] ∈ fs := by
  rw [List.getD_eq_getElem?_getD, List.getElem?_eq_getElem hk]; simp
/-- the error of a fail, told as a list -/
def failEL (l : List Int) : Int := failE (l.getD 0 0) (l.getD 1 0) (l.getD 2 0) (l.getD 3 0) (l.getD 4 0) (l.getD 5 0) (l.getD 6 0) (l.getD 7 0) (l.getD 8 0) (l.getD 9 0)
/-- the error of the first fail that stands wrong, or whose number was there before -/
def idsE (ids : List Int) : List (List Int) → Int
  | [] => 0
  | l :: fs => if failEL l ≠ 0 then failEL l else if l.getD 0 0 ∈ ids then 6 else idsE (ids ++ [l.getD 0 0]) fs
def checksE (fs : List (List Int)) : Int := if 60 < fs.length then 2 else idsE [] fs
def idsOf (fs : List (List Int)) : List Int := fs.map fun l => l.getD 0 0
theorem drop_at {fs : List (List Int)} {k : Nat} (h : k < fs.length) : fs.drop k = fs.getD k [] :: fs.drop (k + 1) := by
  rw [List.drop_eq_getElem_cons h, List.getD_eq_getElem?_getD, List.getElem?_eq_getElem h]; rfl
theorem idsOf_s {fs : List (List Int)} {k : Nat} (h : k < fs.length) : idsOf (fs.take (k + 1)) = idsOf (fs.take k) ++ [(fs.getD k []).getD 0 0] := by
  unfold idsOf
  rw [List.take_add_one, List.getElem?_eq_getElem h, List.map_append]
  simp only [Option.toList_some, List.map_cons, List.map_nil]
  rw [List.getD_eq_getElem?_getD (l := fs), List.getElem?_eq_getElem h]; rfl
theorem id_wf {i f t c p d u x b y : Int} (h : failE i f t c p d u x b y = 0) : -9223372036854775808 ≤ i ∧ i ≤ 9223372036854775807 := by
  have := (fdue_t (fail_0 h).1).2.1; omega

set_option maxHeartbeats 4000000 in
theorem checks_run (v : Value) (fs : List (List Int)) (w : World) (hr : ReadsF w v fs) :
    Calls Try.prog 27 #[v] w fun e w' => e = .returned (.int .i64 (checksE fs)) ∧ Kpt w w' := by
  obtain ⟨a, cap, rfl, hm, -, hc⟩ := hr
  unfold maxLen at hm
  have HC := Lib.hid hc
  obtain ⟨n, hn⟩ : ∃ n, n = fs.length := ⟨_, rfl⟩
  by_cases h60 : 60 < fs.length
  · have HX : Hid (checksE fs = 2) := by unfold Hid checksE; rw [if_pos h60]
    rw [← hn] at h60 HC hm ⊢
    have y1 : decide ((60 : Int) < (n : Int)) = true := decide_eq_true (by omega)
    have y2 : (60 : Int) < (n : Int) := by omega
    clear hc hn
    go_enter Try.func27, Try.ntmps27
    go_wp2
    go_ret
    exact ⟨ret_int HX.out.symm, Kpt.refl _⟩
  · have HX : Hid (checksE fs = idsE (idsOf (fs.take 0)) (fs.drop 0)) := by unfold Hid checksE; rw [if_neg h60]; rfl
    have DR := Lib.hid (fun k (h : k < fs.length) => drop_at h)
    have IS := Lib.hid (fun k (h : k < fs.length) => idsOf_s h)
    have DA : Hid (fs.drop n = []) := by unfold Hid; rw [hn, List.drop_length]
    rw [← hn] at h60 HC hm DR IS ⊢
    have y1 : decide ((60 : Int) < (n : Int)) = false := decide_eq_false (by omega)
    have y2 : ¬ (60 : Int) < (n : Int) := by omega
    clear hc hn
    have hmm := @run_makeMap Try.prog
    have HO0 := Lib.hid (OwnsIds.nil w)
    have K0 : Hid (Kpt w (w.alloc (.map #[] 0))) := (Kpt.refl w).alloc _
    go_enter Try.func27, Try.ntmps27
    go_wp2
    clear hmm
    go_loopw [13] (fun ii wr => ∃ k : Nat, k ≤ n ∧ ii = .int .i64 (k : Int) ∧ Hid (checksE fs = idsE (idsOf (fs.take k)) (fs.drop k)) ∧ Hid (OwnsIds wr w.heap.size k (idsOf (fs.take k))) ∧ Hid (Kpt w wr)) (fun ii _ => n - (intOf ii).toNat)
    case atStart => exact ⟨0, Nat.zero_le _, rfl, HX.out, HO0.out, K0.out⟩
    case round =>
      obtain ⟨k, hk, rfl, HE, HO, HK⟩ := hrel
      by_cases hlt : k < n
      · obtain ⟨g, off, rfl, hfl⟩ := HC.out k hlt
        have hf := hfl.kpt HK.out
        have dr := DR.out k hlt
        have is' := IS.out k hlt
        have he := HE.out
        rw [dr] at he
        unfold idsE failEL at he
        have c0 : wr.cell? ⟨g, off + k * 10, none⟩ = _ := hf 0 (by omega)
        have c1 : wr.cell? ⟨g, off + k * 10 + 1, none⟩ = _ := hf 1 (by omega)
        have c2 : wr.cell? ⟨g, off + k * 10 + 2, none⟩ = _ := hf 2 (by omega)
        have c3 : wr.cell? ⟨g, off + k * 10 + 3, none⟩ = _ := hf 3 (by omega)
        have c4 : wr.cell? ⟨g, off + k * 10 + 4, none⟩ = _ := hf 4 (by omega)
        have c5 : wr.cell? ⟨g, off + k * 10 + 5, none⟩ = _ := hf 5 (by omega)
        have c6 : wr.cell? ⟨g, off + k * 10 + 6, none⟩ = _ := hf 6 (by omega)
        have c7 : wr.cell? ⟨g, off + k * 10 + 7, none⟩ = _ := hf 7 (by omega)
        have c8 : wr.cell? ⟨g, off + k * 10 + 8, none⟩ = _ := hf 8 (by omega)
        have c9 : wr.cell? ⟨g, off + k * 10 + 9, none⟩ = _ := hf 9 (by omega)
        generalize fs.getD k [] = l at *
        generalize l.getD 0 0 = i at *
        generalize l.getD 1 0 = f at *
        generalize l.getD 2 0 = t at *
        generalize l.getD 3 0 = c at *
        generalize l.getD 4 0 = p at *
        generalize l.getD 5 0 = d at *
        generalize l.getD 6 0 = u at *
        generalize l.getD 7 0 = x at *
        generalize l.getD 8 0 = b at *
        generalize l.getD 9 0 = y at *
        have hE0 : w.heap.size < wr.heap.size := HO.out.lt
        have CK := Lib.hid (fun w' => fcheck_run i f t c p d u x b y w')
        have ZB : Hid (Blk (wr.alloc (.cells #[.int .i64 0, .int .i64 0, .int .i64 0, .int .i64 0, .int .i64 0, .int .i64 0, .int .i64 0, .int .i64 0, .int .i64 0, .int .i64 0] 49)) wr.heap.size #[.int .i64 0, .int .i64 0, .int .i64 0, .int .i64 0, .int .i64 0, .int .i64 0, .int .i64 0, .int .i64 0, .int .i64 0, .int .i64 0] 49) := Blk.made _ _ _
        have KZ : Hid (Kpt w (wr.alloc (.cells #[.int .i64 0, .int .i64 0, .int .i64 0, .int .i64 0, .int .i64 0, .int .i64 0, .int .i64 0, .int .i64 0, .int .i64 0, .int .i64 0] 49))) := HK.out.alloc _
        have OZ : Hid (OwnsIds (wr.alloc (.cells #[.int .i64 0, .int .i64 0, .int .i64 0, .int .i64 0, .int .i64 0, .int .i64 0, .int .i64 0, .int .i64 0, .int .i64 0, .int .i64 0] 49)) w.heap.size k (idsOf (fs.take k))) := HO.out.kpt ((Kpt.refl _).alloc _)
        by_cases hE : failE i f t c p d u x b y = 0
        · rw [hE] at CK he
          rw [if_neg (by simp)] at he
          have hi := id_wf hE
          by_cases hin : i ∈ idsOf (fs.take k)
          · rw [if_pos hin] at he
            have HE2 := Lib.hid he
            have yb : decide (i ∈ idsOf (fs.take k)) = true := decide_eq_true hin
            clear he hE hin dr is' hf hfl HE
            go_wp2_with (first
              | (refine wp_storeF rfl (.tmp 5) (.tmp 16) rfl wr.heap.size _ _ rfl rfl ZB.out rfl rfl (by simp [Value.oneCell']) ?_; intro w9 r9 k9 o9; have R9 := Lib.hid r9; have K9 := Lib.hid (k9 _ _ KZ.out HK.out.size); have O9 := Lib.hid (OZ.out.block (o9 _ (by omega))); clear r9 k9 o9)
              | (refine wp_loadF rfl (.tmp 5) rfl wr.heap.size _ rfl R9.out rfl ?_)
              | (go_at_call 50; (with_reducible refine (CK.out _).mono ?_); rintro e w10 ⟨rfl, k10⟩; have K10 := Lib.hid (ktr K9.out k10); have O10 := Lib.hid (O9.out.kpt k10); have R10 : Hid (Blk w10 wr.heap.size #[.int .i64 i, .int .i64 f, .int .i64 t, .int .i64 c, .int .i64 p, .int .i64 d, .int .i64 u, .int .i64 x, .int .i64 b, .int .i64 y] 49) := R9.out.kpt k10; have ci : World.cell? w10 ⟨wr.heap.size, 0, none⟩ = some (.int .i64 i) := R10.out.cell 0; clear k10)
              | (at_lookup; refine wp_lookup_ids _ rfl _ _ rfl w.heap.size k _ rfl O10.out i hi rfl true yb ?_))
            go_ret
            exact ⟨ret_int HE2.out.symm, K10.out⟩
          · rw [if_neg hin] at he
            have yb : decide (i ∈ idsOf (fs.take k)) = false := decide_eq_false hin
            rw [← is'] at he
            have HE2 := Lib.hid he
            have IS2 := Lib.hid is'
            clear he hE hin dr is' hf hfl HE
            go_wp2_with (first
              | (refine wp_storeF rfl (.tmp 5) (.tmp 16) rfl wr.heap.size _ _ rfl rfl ZB.out rfl rfl (by simp [Value.oneCell']) ?_; intro w9 r9 k9 o9; have R9 := Lib.hid r9; have K9 := Lib.hid (k9 _ _ KZ.out HK.out.size); have O9 := Lib.hid (OZ.out.block (o9 _ (by omega))); clear r9 k9 o9)
              | (refine wp_loadF rfl (.tmp 5) rfl wr.heap.size _ rfl R9.out rfl ?_)
              | (go_at_call 50; (with_reducible refine (CK.out _).mono ?_); rintro e w10 ⟨rfl, k10⟩; have K10 := Lib.hid (ktr K9.out k10); have O10 := Lib.hid (O9.out.kpt k10); have R10 : Hid (Blk w10 wr.heap.size #[.int .i64 i, .int .i64 f, .int .i64 t, .int .i64 c, .int .i64 p, .int .i64 d, .int .i64 u, .int .i64 x, .int .i64 b, .int .i64 y] 49) := R9.out.kpt k10; have ci : World.cell? w10 ⟨wr.heap.size, 0, none⟩ = some (.int .i64 i) := R10.out.cell 0; clear k10)
              | (at_lookup; refine wp_lookup_ids _ rfl _ _ rfl w.heap.size k _ rfl O10.out i hi rfl false yb ?_)
              | (at_mapUpdate; refine wp_store_ids _ rfl _ _ _ rfl w.heap.size k _ rfl O10.out (by omega) i hi rfl rfl ?_; intro w11 h1 h2 _; rw [← IS2.out] at h1; have O11 := Lib.hid h1; have K11 : Hid (Kpt w w11) := Below.trans K10.out (h2 _ (Nat.le_refl _)); clear h1 h2))
            go_roundw
            case rel => exact ⟨k + 1, by omega, by go_num, HE2.out, O11.out, K11.out⟩
            case measure => simp [intOf]; omega
        · rw [if_pos hE] at he
          have z0 : (failE i f t c p d u x b y != 0) = true := bne_iff_ne.2 hE
          have HE2 := Lib.hid he
          clear he hE dr is' hf hfl HE
          generalize failE i f t c p d u x b y = E at *
          go_wp2_with (first
            | (refine wp_storeF rfl (.tmp 5) (.tmp 16) rfl wr.heap.size _ _ rfl rfl ZB.out rfl rfl (by simp [Value.oneCell']) ?_; intro w9 r9 k9 o9; have R9 := Lib.hid r9; have K9 := Lib.hid (k9 _ _ KZ.out HK.out.size); have O9 := Lib.hid (OZ.out.block (o9 _ (by omega))); clear r9 k9 o9)
            | (refine wp_loadF rfl (.tmp 5) rfl wr.heap.size _ rfl R9.out rfl ?_)
            | (go_at_call 50; (with_reducible refine (CK.out _).mono ?_); rintro e w10 ⟨rfl, k10⟩; have K10 := Lib.hid (ktr K9.out k10); have O10 := Lib.hid (O9.out.kpt k10); have R10 : Hid (Blk w10 wr.heap.size #[.int .i64 i, .int .i64 f, .int .i64 t, .int .i64 c, .int .i64 p, .int .i64 d, .int .i64 u, .int .i64 x, .int .i64 b, .int .i64 y] 49) := R9.out.kpt k10; have ci : World.cell? w10 ⟨wr.heap.size, 0, none⟩ = some (.int .i64 i) := R10.out.cell 0; clear k10))
          go_ret
          exact ⟨ret_int HE2.out.symm, K10.out⟩
      · obtain rfl : k = n := by omega
        rw [DA.out] at HE
        go_wp2
        go_ret
        exact ⟨ret_int HE.out.symm, HK.out⟩

end Go.Proofs.Ytklaojahocjeiaa
