/-
  The plain arithmetic of the Gregorian calendar: years, months, days, and their numbers. Nothing of the program is used here.
-/
import Derived.Below
namespace Go.Proofs.Ytgccipmeiceonaa

/-- a leap year -/
def leapB (y : Int) : Bool := decide (y % 4 = 0 ∧ (y % 100 ≠ 0 ∨ y % 400 = 0))
def lp (y : Int) : Int := if leapB y = true then 1 else 0
theorem lp_cases (y : Int) : (leapB y = true ∧ lp y = 1 ∧ y % 4 = 0 ∧ (y % 100 ≠ 0 ∨ y % 400 = 0)) ∨ (leapB y = false ∧ lp y = 0 ∧ (y % 4 ≠ 0 ∨ (y % 100 = 0 ∧ y % 400 ≠ 0))) := by
  unfold lp
  cases h : leapB y with
  | true => exact .inl ⟨rfl, by simp, of_decide_eq_true h⟩
  | false =>
    have := of_decide_eq_false h
    exact .inr ⟨rfl, by simp, by omega⟩
theorem lp_t {y : Int} (h : leapB y = true) : lp y = 1 := by unfold lp; rw [if_pos h]
theorem lp_f {y : Int} (h : leapB y = false) : lp y = 0 := by unfold lp; rw [h]; rfl
theorem leap_mk {y : Int} (h : y % 4 = 0 ∧ (y % 100 ≠ 0 ∨ y % 400 = 0)) : leapB y = true := decide_eq_true h
theorem leap_no {y : Int} (h : ¬ (y % 4 = 0 ∧ (y % 100 ≠ 0 ∨ y % 400 = 0))) : leapB y = false := decide_eq_false h
theorem lp_01 (y : Int) : 0 ≤ lp y ∧ lp y ≤ 1 := by rcases lp_cases y with h | h <;> omega

/-- the days ahead of a year -/
def yd (y : Int) : Int := 365 * (y - 1) + (y - 1) / 4 - (y - 1) / 100 + (y - 1) / 400
theorem yd_succ (y : Int) : yd (y + 1) = yd y + 365 + lp y := by
  unfold yd
  rcases lp_cases y with ⟨_, h, a, b⟩ | ⟨_, h, a⟩ <;> rw [h] <;> omega
theorem yd_mono {a b : Int} (h : a ≤ b) : yd a ≤ yd b := by unfold yd; omega
theorem yd_lt {a b : Int} (h : a < b) : yd a + 365 + lp a ≤ yd b := by rw [← yd_succ]; exact yd_mono h
theorem yd_bd {y : Int} (h1 : 1 ≤ y) (h2 : y ≤ 10000) : 0 ≤ yd y ∧ yd y ≤ 3652059 := by unfold yd; omega
theorem yd_400 (y : Int) : yd (y + 400) = yd y + 146097 := by unfold yd; omega
theorem leap_400 (y : Int) : leapB (y + 400) = leapB y := by
  unfold leapB; rw [show (y + 400) % 4 = y % 4 by omega, show (y + 400) % 100 = y % 100 by omega, show (y + 400) % 400 = y % 400 by omega]
theorem lp_400 (y : Int) : lp (y + 400) = lp y := by unfold lp; rw [leap_400]

/-- how long a month is -/
def dim (y m : Int) : Int := if m = 2 then 28 + lp y else if m = 4 ∨ m = 6 ∨ m = 9 ∨ m = 11 then 30 else 31
/-- the days of a year ahead of a month -/
def cum (y m : Int) : Int :=
  if m ≤ 1 then 0 else if m = 2 then 31 else if m = 3 then 59 + lp y else if m = 4 then 90 + lp y else if m = 5 then 120 + lp y else if m = 6 then 151 + lp y else if m = 7 then 181 + lp y else if m = 8 then 212 + lp y else if m = 9 then 243 + lp y else if m = 10 then 273 + lp y else if m = 11 then 304 + lp y else if m = 12 then 334 + lp y else 365 + lp y
theorem m12 {m : Int} (h1 : 1 ≤ m) (h2 : m ≤ 12) : m = 1 ∨ m = 2 ∨ m = 3 ∨ m = 4 ∨ m = 5 ∨ m = 6 ∨ m = 7 ∨ m = 8 ∨ m = 9 ∨ m = 10 ∨ m = 11 ∨ m = 12 := by omega
theorem dim_bd (y m : Int) : 28 ≤ dim y m ∧ dim y m ≤ 31 := by
  have := lp_01 y
  unfold dim; split
  · omega
  · split <;> omega
theorem cum_one (y : Int) : cum y 1 = 0 := rfl
theorem cum_13 (y : Int) : cum y 13 = 365 + lp y := rfl
theorem cum_succ (y : Int) {m : Int} (h1 : 1 ≤ m) (h2 : m ≤ 12) : cum y (m + 1) = cum y m + dim y m := by
  rcases m12 h1 h2 with h | h | h | h | h | h | h | h | h | h | h | h <;> subst h <;> simp [cum, dim] <;> omega
theorem cum_bd (y : Int) {m : Int} (h1 : 1 ≤ m) (h2 : m ≤ 12) : 0 ≤ cum y m ∧ cum y m + dim y m ≤ 365 + lp y := by
  have := lp_01 y
  rcases m12 h1 h2 with h | h | h | h | h | h | h | h | h | h | h | h <;> subst h <;> simp [cum, dim] <;> omega
theorem cum_lt (y : Int) {a b : Int} (h1 : 1 ≤ a) (h2 : a < b) (h3 : b ≤ 13) : cum y a + dim y a ≤ cum y b := by
  have := lp_01 y
  rcases m12 h1 (by omega) with h | h | h | h | h | h | h | h | h | h | h | h <;> subst h <;>
    · rcases (show b = 2 ∨ b = 3 ∨ b = 4 ∨ b = 5 ∨ b = 6 ∨ b = 7 ∨ b = 8 ∨ b = 9 ∨ b = 10 ∨ b = 11 ∨ b = 12 ∨ b = 13 by omega) with h | h | h | h | h | h | h | h | h | h | h | h <;> subst h <;> first | (exfalso; omega) | (simp [cum, dim] <;> omega)
theorem dim_400 (y m : Int) : dim (y + 400) m = dim y m := by unfold dim; rw [lp_400]
theorem cum_400 (y m : Int) : cum (y + 400) m = cum y m := by unfold cum; rw [lp_400]

/-- a date that is -/
def vldB (y m d : Int) : Bool := decide (1 ≤ y ∧ y ≤ 9999 ∧ 1 ≤ m ∧ m ≤ 12 ∧ 1 ≤ d ∧ d ≤ dim y m)
theorem vld_t {y m d : Int} (h : vldB y m d = true) : 1 ≤ y ∧ y ≤ 9999 ∧ 1 ≤ m ∧ m ≤ 12 ∧ 1 ≤ d ∧ d ≤ dim y m := of_decide_eq_true h
theorem vld_f {y m d : Int} (h : vldB y m d = false) : ¬ (1 ≤ y ∧ y ≤ 9999 ∧ 1 ≤ m ∧ m ≤ 12 ∧ 1 ≤ d ∧ d ≤ dim y m) := of_decide_eq_false h
theorem vld_mk {y m d : Int} (h : 1 ≤ y ∧ y ≤ 9999 ∧ 1 ≤ m ∧ m ≤ 12 ∧ 1 ≤ d ∧ d ≤ dim y m) : vldB y m d = true := decide_eq_true h
theorem vld_no {y m d : Int} (h : ¬ (1 ≤ y ∧ y ≤ 9999 ∧ 1 ≤ m ∧ m ≤ 12 ∧ 1 ≤ d ∧ d ≤ dim y m)) : vldB y m d = false := decide_eq_false h
/-- its number -/
def num (y m d : Int) : Int := yd y + cum y m + (d - 1)
theorem num_bd {y m d : Int} (h : vldB y m d = true) : 0 ≤ num y m d ∧ num y m d ≤ 3652058 := by
  obtain ⟨a, b, c, e, f, g⟩ := vld_t h
  have h1 := cum_bd y c e
  have h2 := yd_lt (show y < y + 1 by omega)
  have h3 := yd_bd (y := y + 1) (by omega) (by omega)
  have h4 := yd_bd (y := y) (by omega) (by omega)
  unfold num; omega
/-- later by year, month and day -/
def laterB (a b c x y z : Int) : Bool := decide (a < x ∨ (a = x ∧ (b < y ∨ (b = y ∧ c < z))))
theorem num_lt {a b c x y z : Int} (h : vldB a b c = true) (k : vldB x y z = true) (l : laterB a b c x y z = true) : num a b c < num x y z := by
  obtain ⟨h1, h2, h3, h4, h5, h6⟩ := vld_t h
  obtain ⟨k1, k2, k3, k4, k5, k6⟩ := vld_t k
  have c1 := cum_bd a h3 h4
  have c2 := cum_bd x k3 k4
  unfold num
  rcases of_decide_eq_true l with l | ⟨rfl, l | ⟨rfl, l⟩⟩
  · have := yd_lt l; omega
  · have := cum_lt a h3 l (by omega); omega
  · omega
theorem num_inj {a b c x y z : Int} (h : vldB a b c = true) (k : vldB x y z = true) (e : num a b c = num x y z) : a = x ∧ b = y ∧ c = z := by
  cases l : laterB a b c x y z with
  | true => have := num_lt h k l; omega
  | false =>
    cases l' : laterB x y z a b c with
    | true => have := num_lt k h l'; omega
    | false =>
      have h1 := of_decide_eq_false l
      have h2 := of_decide_eq_false l'
      omega
theorem num_later {a b c x y z : Int} (h : vldB a b c = true) (k : vldB x y z = true) : laterB a b c x y z = decide (num a b c < num x y z) := by
  cases l : laterB a b c x y z with
  | true => rw [decide_eq_true (num_lt h k l)]
  | false =>
    symm
    apply decide_eq_false
    intro g
    cases l' : laterB x y z a b c with
    | true => have := num_lt k h l'; omega
    | false =>
      have h1 := of_decide_eq_false l
      have h2 := of_decide_eq_false l'
      have h3 : a = x ∧ b = y ∧ c = z := by omega
      obtain ⟨rfl, rfl, rfl⟩ := h3
      omega

theorem yd_parts {C K F S : Int} (hK : 0 ≤ K ∧ K ≤ 3) (hF : 0 ≤ F ∧ F ≤ 24) (hS : 0 ≤ S ∧ S ≤ 3) :
    yd (400 * C + 100 * K + 4 * F + S + 1) = 146097 * C + 36524 * K + 1461 * F + 365 * S := by
  unfold yd
  have a : (400 * C + 100 * K + 4 * F + S + 1 - 1) / 4 = 100 * C + 25 * K + F := by omega
  have b : (400 * C + 100 * K + 4 * F + S + 1 - 1) / 100 = 4 * C + K := by omega
  have c : (400 * C + 100 * K + 4 * F + S + 1 - 1) / 400 = C := by omega
  rw [a, b, c]; omega
theorem lp_parts {C K F S : Int} (hK : 0 ≤ K ∧ K ≤ 3) (hF : 0 ≤ F ∧ F ≤ 24) (hS : 0 ≤ S ∧ S ≤ 3) :
    (S = 3 ∧ (F < 24 ∨ K = 3) ∧ lp (400 * C + 100 * K + 4 * F + S + 1) = 1) ∨ ((S < 3 ∨ (F = 24 ∧ K < 3)) ∧ lp (400 * C + 100 * K + 4 * F + S + 1) = 0) := by
  have a : (400 * C + 100 * K + 4 * F + S + 1) % 4 = (S + 1) % 4 := by omega
  have b : (400 * C + 100 * K + 4 * F + S + 1) % 100 = (4 * F + S + 1) % 100 := by omega
  have c : (400 * C + 100 * K + 4 * F + S + 1) % 400 = (100 * K + 4 * F + S + 1) % 400 := by omega
  rcases lp_cases (400 * C + 100 * K + 4 * F + S + 1) with ⟨_, e, h1, h2⟩ | ⟨_, e, h1⟩
  · rw [a] at h1; rw [b, c] at h2
    clear a b c
    exact .inl ⟨by omega, by omega, e⟩
  · rw [a, b, c] at h1
    clear a b c
    exact .inr ⟨by omega, e⟩

/-- the year of a day, by the program's way -/
theorem yearOf_spec {n C R K R' F S : Int} (h0 : 0 ≤ n) (h1 : n ≤ 3652058) (hC : C = n / 146097) (hR : R = n % 146097) (hK : K = min (R / 36524) 3) (hR' : R' = R - K * 36524) (hF : F = R' / 1461) (hS : S = min (R' % 1461 / 365) 3) :
    1 ≤ 400 * C + 100 * K + 4 * F + S + 1 ∧ 400 * C + 100 * K + 4 * F + S + 1 ≤ 9999 ∧ yd (400 * C + 100 * K + 4 * F + S + 1) ≤ n ∧ n < yd (400 * C + 100 * K + 4 * F + S + 1 + 1) := by
  have k0 : 0 ≤ K ∧ K ≤ 3 := by omega
  have b1 : 0 ≤ R' ∧ R' ≤ 36524 := by
    rcases (show K = 0 ∨ K = 1 ∨ K = 2 ∨ K = 3 by omega) with h | h | h | h <;> subst h <;> omega
  have b2 : 0 ≤ F ∧ F ≤ 24 := by omega
  have b3 : 0 ≤ S ∧ S ≤ 3 := by omega
  have e1 : R = K * 36524 + R' := by omega
  have b5 : K < 3 → R' < 36524 := by
    intro h
    rcases (show K = 0 ∨ K = 1 ∨ K = 2 by omega) with h | h | h <;> subst h <;> omega
  have b4 : 0 ≤ C ∧ C ≤ 24 := by omega
  have e2 : n = 146097 * C + R := by omega
  have y1 := lp_parts (C := C) k0 b2 b3
  rw [yd_succ (400 * C + 100 * K + 4 * F + S + 1), yd_parts k0 b2 b3]
  clear hC hR hK hR'
  refine ⟨by omega, by omega, by omega, ?_⟩
  rcases y1 with ⟨_, _, h⟩ | ⟨hs, h⟩
  · rw [h]; omega
  · rw [h]
    rcases hs with hs | ⟨hf, hk⟩
    · omega
    · have := b5 hk; omega

end Go.Proofs.Ytgccipmeiceonaa
