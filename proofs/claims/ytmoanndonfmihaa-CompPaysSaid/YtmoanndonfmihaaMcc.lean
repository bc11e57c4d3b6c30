/-
  Merged: CompA, CompB, CompC, CompD, LawCP.
-/
import Derived.Test.YtmoanndonfmihaaCost
import Derived.Test.YtmoanndonfmihaaSlV
import Derived.Test.YtmoanndonfmihaaFailE
import Derived.Test.YtmoanndonfmihaaTrip
import Derived.Deep.Cut
import Derived.Test.YtmoanndonfmihaaFailF
import Derived.Test.YtmoanndonfmihaaSameP
import Derived.Test.YtmoanndonfmihaaFailG
import Derived.Test.YtmoanndonfmihaaMcb
-- CompA
namespace Go.Proofs.Ytmoanndonfmihaa
open Go.RowKit
set_option linter.unusedVariables false

def wthB (u p x : Int) : Bool := decide (0 ≤ u ∧ u ≤ 1073741824) && decide (0 ≤ x ∧ x ≤ 10000) && prcB p
theorem wth_t {u p x : Int} (h : wthB u p x = true) : (0 ≤ u ∧ u ≤ 1073741824) ∧ (0 ≤ x ∧ x ≤ 10000) ∧ 0 ≤ p ∧ p ≤ 1099511627776 := by
  unfold wthB at h
  simp only [Bool.and_eq_true] at h
  exact ⟨of_decide_eq_true h.1.1, of_decide_eq_true h.1.2, prc_t h.2⟩
theorem wth_mk {u p x : Int} (h1 : 0 ≤ u ∧ u ≤ 1073741824) (h2 : 0 ≤ x ∧ x ≤ 10000) (h3 : 0 ≤ p ∧ p ≤ 1099511627776) : wthB u p x = true := by
  unfold wthB prcB
  rw [decide_eq_true h1, decide_eq_true h2, decide_eq_true h3]; rfl
def wthE (u p x : Int) : Int := if wthB u p x = true then 0 else 3
def wthV (u p x : Int) : Int := u * p / 10000 + u * p / 10000 * x / 10000
def wthQ (u p x : Int) : Int := if wthB u p x = true then wthV u p x else 0
theorem wth_bd {u p x : Int} (h1 : 0 ≤ u ∧ u ≤ 1073741824) (h2 : 0 ≤ x ∧ x ≤ 10000) (h3 : 0 ≤ p ∧ p ≤ 1099511627776) : 0 ≤ u * p / 10000 * x / 10000 ∧ u * p / 10000 * x / 10000 ≤ u * p / 10000 := by
  have c := cost_bd h1 h3
  have a : 0 ≤ u * p / 10000 * x := Int.mul_nonneg c.1 h2.1
  have b : u * p / 10000 * x ≤ u * p / 10000 * 10000 := Int.mul_le_mul_of_nonneg_left h2.2 c.1
  omega
set_option maxHeartbeats 1000000 in
theorem worth_any (u p x : Int) (w : World) : Calls Try.prog 21 #[.int .i64 u, .int .i64 p, .int .i64 x] w fun e w' => e = .returned (.tuple #[.int .i64 (wthQ u p x), .int .i64 (wthE u p x)]) ∧ Kpt w w' := by
  by_cases hu : 0 ≤ u ∧ u ≤ 1073741824
  · by_cases hr : 0 ≤ x ∧ x ≤ 10000
    · have CA := Lib.hid (fun w => cost_any u p w)
      have cd := cos_dly (p := p) hu
      rw [cd.1, cd.2] at CA
      have y1 : ¬ u < 0 := by omega
      have y2 : ¬ 1073741824 < u := by omega
      have y3 : ¬ x < 0 := by omega
      have y4 : ¬ 10000 < x := by omega
      cases hp : prcB p with
      | true =>
        have hb : wthB u p x = true := wth_mk hu hr (prc_t hp)
        have hE : wthE u p x = 0 := by unfold wthE; rw [if_pos hb]
        have hQ : wthQ u p x = u * p / 10000 + u * p / 10000 * x / 10000 := by unfold wthQ; rw [if_pos hb]; rfl
        rw [hp, if_pos rfl, if_pos rfl] at CA
        rw [hE, hQ]
        have c := cost_bd hu (prc_t hp)
        have d := wth_bd hu hr (prc_t hp)
        have PT := Lib.hid (fun w => part_ok (u * p / 10000) x 10000 (amt_mk (by omega) (by omega)) (rng_mk hr.1 (by omega) (by decide) (by decide)) (amt_mk (by omega) (by omega)) w)
        obtain ⟨c0, c1⟩ := c
        obtain ⟨d0, d1⟩ := d
        clear hE hQ hb cd hu hr hp
        generalize u * p / 10000 = k at *
        generalize cosR u p = m at *
        generalize k * x / 10000 = n at *
        generalize k * x % 10000 = o at *
        go_enter Try.func21, Try.ntmps21
        go_wp2_with (first
          | (go_at_call 70; (with_reducible refine (CA.out _).mono ?_); rintro e w1 ⟨rfl, g1⟩)
          | (go_at_call 71; (with_reducible refine (PT.out _).mono ?_); rintro e w2 ⟨rfl, g2⟩))
        go_ret2
        exact ⟨rfl, ktr g1 g2.kpt⟩
      | false =>
        have hb : wthB u p x = false := by unfold wthB; rw [hp]; simp
        have hE : wthE u p x = 3 := by unfold wthE; rw [hb]; rfl
        have hQ : wthQ u p x = 0 := by unfold wthQ; rw [hb]; rfl
        rw [hp, if_neg (by decide), if_neg (by decide)] at CA
        rw [hE, hQ]
        clear hE hQ hb cd hu hr hp
        generalize cosR u p = m at *
        go_enter Try.func21, Try.ntmps21
        go_wp2_with (go_at_call 70; (with_reducible refine (CA.out _).mono ?_); rintro e w1 ⟨rfl, g1⟩)
        go_ret2
        exact ⟨rfl, g1⟩
    · have hb : wthB u p x = false := by unfold wthB; rw [decide_eq_false hr]; simp
      have hE : wthE u p x = 3 := by unfold wthE; rw [hb]; rfl
      have hQ : wthQ u p x = 0 := by unfold wthQ; rw [hb]; rfl
      rw [hE, hQ]
      have y1 : ¬ u < 0 := by omega
      have y2 : ¬ 1073741824 < u := by omega
      by_cases y3 : x < 0
      · clear hE hQ hb hu hr
        go_enter Try.func21, Try.ntmps21
        go_wp2
        go_ret2
        exact ⟨rfl, Kpt.refl _⟩
      · have y4 : 10000 < x := by omega
        clear hE hQ hb hu hr
        go_enter Try.func21, Try.ntmps21
        go_wp2
        go_ret2
        exact ⟨rfl, Kpt.refl _⟩
  · have hb : wthB u p x = false := by unfold wthB; rw [decide_eq_false hu]; simp
    have hE : wthE u p x = 3 := by unfold wthE; rw [hb]; rfl
    have hQ : wthQ u p x = 0 := by unfold wthQ; rw [hb]; rfl
    rw [hE, hQ]
    by_cases y3 : u < 0
    · clear hE hQ hb hu
      go_enter Try.func21, Try.ntmps21
      go_wp2
      go_ret2
      exact ⟨rfl, Kpt.refl _⟩
    · have y4 : 1073741824 < u := by omega
      clear hE hQ hb hu
      go_enter Try.func21, Try.ntmps21
      go_wp2
      go_ret2
      exact ⟨rfl, Kpt.refl _⟩

def limB (p s m : Int) : Bool := prcB p && prcB s && decide (0 ≤ m ∧ m ≤ 10000)
theorem lim_t {p s m : Int} (h : limB p s m = true) : (0 ≤ p ∧ p ≤ 1099511627776) ∧ (0 ≤ s ∧ s ≤ 1099511627776) ∧ 0 ≤ m ∧ m ≤ 10000 := by
  unfold limB at h
  simp only [Bool.and_eq_true] at h
  exact ⟨prc_t h.1.1, prc_t h.1.2, of_decide_eq_true h.2⟩
theorem lim_mk {p s m : Int} (h1 : 0 ≤ p ∧ p ≤ 1099511627776) (h2 : 0 ≤ s ∧ s ≤ 1099511627776) (h3 : 0 ≤ m ∧ m ≤ 10000) : limB p s m = true := by
  unfold limB prcB
  rw [decide_eq_true h1, decide_eq_true h2, decide_eq_true h3]; rfl
def limE (p s m : Int) : Int := if limB p s m = true then 0 else 3
def limV (p s m : Int) : Int := max (s - s * m / 10000) (min p (s + s * m / 10000))
def limQ (p s m : Int) : Int := if limB p s m = true then limV p s m else 0
theorem lim_bd {s m : Int} (h2 : 0 ≤ s ∧ s ≤ 1099511627776) (h3 : 0 ≤ m ∧ m ≤ 10000) : 0 ≤ s * m / 10000 ∧ s * m / 10000 ≤ s := by
  have a : 0 ≤ s * m := Int.mul_nonneg h2.1 h3.1
  have b : s * m ≤ s * 10000 := Int.mul_le_mul_of_nonneg_left h3.2 h2.1
  omega
set_option maxHeartbeats 1000000 in
theorem limit_any (p s m : Int) (w : World) : Calls Try.prog 65 #[.int .i64 p, .int .i64 s, .int .i64 m] w fun e w' => e = .returned (.tuple #[.int .i64 (limQ p s m), .int .i64 (limE p s m)]) ∧ Kpt w w' := by
  cases hp : prcB p with
  | false =>
    have hb : limB p s m = false := by unfold limB; rw [hp]; simp
    have hE : limE p s m = 3 := by unfold limE; rw [hb]; rfl
    have hQ : limQ p s m = 0 := by unfold limQ; rw [hb]; rfl
    rw [hE, hQ]
    have P1 := Lib.hid (fun w => pcheck_no p hp w)
    clear hE hQ hb hp
    go_enter Try.func65, Try.ntmps65
    go_wp2_with (go_at_call 80; (with_reducible refine (P1.out _).mono ?_); rintro e w1 ⟨rfl, rfl⟩)
    go_ret2
    exact ⟨rfl, Kpt.refl _⟩
  | true =>
    have P1 := Lib.hid (fun w => pcheck_ok p hp w)
    cases hs : prcB s with
    | false =>
      have hb : limB p s m = false := by unfold limB; rw [hs]; simp
      have hE : limE p s m = 3 := by unfold limE; rw [hb]; rfl
      have hQ : limQ p s m = 0 := by unfold limQ; rw [hb]; rfl
      rw [hE, hQ]
      have P2 := Lib.hid (fun w => pcheck_no s hs w)
      clear hE hQ hb hp hs
      go_enter Try.func65, Try.ntmps65
      go_wp2_with (go_at_call 80; first
        | ((with_reducible refine (P1.out _).mono ?_); rintro e w1 ⟨rfl, rfl⟩)
        | ((with_reducible refine (P2.out _).mono ?_); rintro e w1 ⟨rfl, rfl⟩))
      go_ret2
      exact ⟨rfl, Kpt.refl _⟩
    | true =>
      have P2 := Lib.hid (fun w => pcheck_ok s hs w)
      by_cases hm : 0 ≤ m ∧ m ≤ 10000
      · have hb : limB p s m = true := lim_mk (prc_t hp) (prc_t hs) hm
        have hE : limE p s m = 0 := by unfold limE; rw [if_pos hb]
        have hQ : limQ p s m = max (s - s * m / 10000) (min p (s + s * m / 10000)) := by unfold limQ; rw [if_pos hb]; rfl
        rw [hE, hQ]
        have y1 : ¬ m < 0 := by omega
        have y2 : ¬ 10000 < m := by omega
        have s0 := prc_t hs
        have p0 := prc_t hp
        have d := lim_bd s0 hm
        have PT := Lib.hid (fun w => part_ok s m 10000 (amt_mk (by omega) (by omega)) (rng_mk hm.1 (by omega) (by decide) (by decide)) (amt_mk (by omega) (by omega)) w)
        obtain ⟨d0, d1⟩ := d
        obtain ⟨p1, p2⟩ := p0
        obtain ⟨s1, s2⟩ := s0
        clear hE hQ hb hm hs hp
        generalize s * m / 10000 = n at *
        generalize s * m % 10000 = o at *
        go_enter Try.func65, Try.ntmps65
        go_wp2_with (first
          | (go_at_call 80; first
            | ((with_reducible refine (P1.out _).mono ?_); rintro e w1 ⟨rfl, rfl⟩)
            | ((with_reducible refine (P2.out _).mono ?_); rintro e w1 ⟨rfl, rfl⟩))
          | (go_at_call 71; (with_reducible refine (PT.out _).mono ?_); rintro e w2 ⟨rfl, g2⟩))
        go_ret2
        exact ⟨rfl, g2.kpt⟩
      · have hb : limB p s m = false := by unfold limB; rw [decide_eq_false hm]; simp
        have hE : limE p s m = 3 := by unfold limE; rw [hb]; rfl
        have hQ : limQ p s m = 0 := by unfold limQ; rw [hb]; rfl
        rw [hE, hQ]
        by_cases y1 : m < 0
        · clear hE hQ hb hp hs hm
          go_enter Try.func65, Try.ntmps65
          go_wp2_with (go_at_call 80; first
            | ((with_reducible refine (P1.out _).mono ?_); rintro e w1 ⟨rfl, rfl⟩)
            | ((with_reducible refine (P2.out _).mono ?_); rintro e w1 ⟨rfl, rfl⟩))
          go_ret2
          exact ⟨rfl, Kpt.refl _⟩
        · have y2 : 10000 < m := by omega
          clear hE hQ hb hp hs hm
          go_enter Try.func65, Try.ntmps65
          go_wp2_with (go_at_call 80; first
            | ((with_reducible refine (P1.out _).mono ?_); rintro e w1 ⟨rfl, rfl⟩)
            | ((with_reducible refine (P2.out _).mono ?_); rintro e w1 ⟨rfl, rfl⟩))
          go_ret2
          exact ⟨rfl, Kpt.refl _⟩

end Go.Proofs.Ytmoanndonfmihaa

-- CompB
namespace Go.Proofs.Ytmoanndonfmihaa
open Go.RowKit
set_option linter.unusedVariables false

def midE (zs : List Int) : Int := if zs.length = 0 then 1 else if 40 < zs.length then 2 else if zs.all prcB = true then 0 else 3
def midQ (zs : List Int) : Int := if midE zs = 0 then (srt zs).getD ((zs.length - 1) / 2) 0 else 0
theorem mid_0 {zs : List Int} (h : midE zs = 0) : 0 < zs.length ∧ zs.length ≤ 40 ∧ zs.all prcB = true ∧ midQ zs = (srt zs).getD ((zs.length - 1) / 2) 0 := by
  unfold midQ
  rw [if_pos h]
  unfold midE at h
  split at h
  · cases h
  · split at h
    · cases h
    · split at h
      · rename_i a b c; exact ⟨by omega, by omega, c, rfl⟩
      · cases h
theorem mid_no {zs : List Int} (h : midE zs ≠ 0) : midQ zs = 0 ∧ (midE zs = 1 ∨ midE zs = 2 ∨ midE zs = 3) := by
  unfold midQ
  rw [if_neg h]
  refine ⟨rfl, ?_⟩
  unfold midE at h ⊢
  split
  · exact .inl rfl
  · split
    · exact .inr (.inl rfl)
    · split
      · rename_i a b c; rw [if_neg a, if_neg b, if_pos c] at h; exact absurd rfl h
      · exact .inr (.inr rfl)
theorem all_upto {zs : List Int} {k : Nat} (h : zs.all prcB = true) (hk : k < zs.length) : prcB (zs.getD k 0) = true := by
  rw [List.getD_eq_getElem?_getD, List.getElem?_eq_getElem hk]
  exact List.all_eq_true.1 h _ (List.getElem_mem hk)

theorem middle_none (a : Option Addr) (cap : Nat) (w : World) : Calls Try.prog 64 #[.slice a 0 cap] w fun e w' => e = .returned (.tuple #[.int .i64 0, .int .i64 1]) ∧ Kpt w w' := by
  go_enter Try.func64, Try.ntmps64
  go_wp2
  go_ret2
  exact ⟨rfl, Kpt.refl _⟩
theorem middle_many (a : Option Addr) (n cap : Nat) (hn : 40 < n) (hb : n ≤ maxLen) (w : World) : Calls Try.prog 64 #[.slice a n cap] w fun e w' => e = .returned (.tuple #[.int .i64 0, .int .i64 2]) ∧ Kpt w w' := by
  unfold maxLen at hb
  have h1 : (40 : Int) < (n : Int) := by omega
  have q1 : ((n : Int) == 0) = false := beq_eq_false_iff_ne.2 (by omega)
  go_enter Try.func64, Try.ntmps64
  go_wp2
  go_ret2
  exact ⟨rfl, Kpt.refl _⟩

set_option maxRecDepth 100000 in
set_option maxHeartbeats 2000000 in
theorem middle_few (a : Option Addr) (cap : Nat) (zs : List Int) (w : World) (h0 : 0 < zs.length) (h40 : zs.length ≤ 40) (hr : Reads w (.slice a zs.length cap) zs) :
    Calls Try.prog 64 #[.slice a zs.length cap] w fun e w' => e = .returned (.tuple #[.int .i64 (midQ zs), .int .i64 (midE zs)]) ∧ Kpt w w' := by
  have q1 : ((zs.length : Int) == 0) = false := beq_eq_false_iff_ne.2 (by omega)
  have q2 : decide ((40 : Int) < (zs.length : Int)) = false := decide_eq_false (by omega)
  have HR := Lib.hid hr.sl
  have HRD := Lib.hid hr
  have HN : Hid (∀ k, k < zs.length → prcB (zs.getD k 0) = false → midE zs = 3) := fun k hk hb => by
    unfold midE
    rw [if_neg (by omega), if_neg (by omega), if_neg]
    intro h
    rw [all_upto h hk] at hb; cases hb
  have HY : Hid ((∀ j, j < zs.length → prcB (zs.getD j 0) = true) → midE zs = 0) := fun h => by
    unfold midE
    rw [if_neg (by omega), if_neg (by omega), if_pos]
    refine List.all_eq_true.2 fun z hz => ?_
    obtain ⟨j, hj, rfl⟩ := List.getElem_of_mem hz
    have := h j hj
    rwa [List.getD_eq_getElem?_getD, List.getElem?_eq_getElem hj] at this
  have HM0 : Hid (midE zs = 3 → midQ zs = 0) := fun h => by unfold midQ; rw [h]; rfl
  have HM1 : Hid (midE zs = 0 → midQ zs = (srt zs).getD ((zs.length - 1) / 2) 0) := fun h => by unfold midQ; rw [if_pos h]
  have HSL := Lib.hid (srt_len zs)
  clear hr
  go_enter Try.func64, Try.ntmps64
  go_wp2
  go_loop [16] (fun i => ∃ k : Nat, k ≤ zs.length ∧ i = .int .i64 k ∧ Hid (∀ j, j < k → prcB (zs.getD j 0) = true)) (fun i => zs.length - (intOf i).toNat)
  case atStart => exact ⟨0, Nat.zero_le _, rfl, fun j hj => absurd hj (Nat.not_lt_zero j)⟩
  case round =>
    obtain ⟨k, hk, rfl, HA⟩ := hrel
    by_cases hlt : k < zs.length
    · obtain ⟨b, off, rfl, c1⟩ := HR.out k hlt
      have HN2 := Lib.hid (HN.out k hlt)
      have HA2 : Hid (prcB (zs.getD k 0) = true → ∀ j, j < k + 1 → prcB (zs.getD j 0) = true) := fun h j hj => by
        rcases Nat.lt_or_ge j k with g | g
        · exact HA.out j g
        · obtain rfl : j = k := by omega
          exact h
      have hk0 : (0 : Int) ≤ (k : Int) := by omega
      have hk1 : (k : Int) < (zs.length : Int) := by omega
      generalize zs.getD k 0 = z at *
      cases hp : prcB z with
      | true =>
        have P1 := Lib.hid (fun w => pcheck_ok z hp w)
        have HA3 := Lib.hid (HA2.out hp)
        clear hp
        go_wp2_with (go_at_call 80; (with_reducible refine (P1.out _).mono ?_); rintro e w1 ⟨rfl, rfl⟩)
        go_round
        case rel => exact ⟨k + 1, by omega, by go_num, HA3.out⟩
        case measure => simp [intOf]; omega
      | false =>
        have P1 := Lib.hid (fun w => pcheck_no z hp w)
        have E1 := Lib.hid (HN2.out hp)
        have E2 := Lib.hid (HM0.out E1.out)
        clear hp
        go_wp2_with (go_at_call 80; (with_reducible refine (P1.out _).mono ?_); rintro e w1 ⟨rfl, rfl⟩)
        go_ret2
        exact ⟨by rw [E1.out, E2.out]; rfl, Kpt.refl _⟩
    · obtain rfl : k = zs.length := by omega
      have E1 := Lib.hid (HY.out HA.out)
      have E2 := Lib.hid (HM1.out E1.out)
      have kA : Kpt w (w.alloc (.cells #[.slice a zs.length cap] 22)) := (Kpt.refl w).alloc _
      have SO := Lib.hid (sorted_run a cap zs w.heap.size (w.alloc (.cells #[.slice a zs.length cap] 22)) h0 (by omega) (by simp [go_sem]) (HRD.out.kpt kA))
      have KA := Lib.hid kA
      obtain ⟨m, hm⟩ : ∃ m : Nat, m = (zs.length - 1) / 2 := ⟨_, rfl⟩
      have hml : m < zs.length := by omega
      have m0 : (0 : Int) ≤ (m : Int) := by omega
      have m1 : (m : Int) < (zs.length : Int) := by omega
      have HM : Hid (midQ zs = (srt zs).getD m 0) := by unfold Hid; rw [E2.out, hm]
      have hmid : ((zs.length : Int) - 1) / 2 = (m : Int) := by omega
      clear kA hm E2
      go_wp2_with (first
        | (go_at_call 98; (with_reducible refine (values_run _ _ _ _).mono ?_); rintro e w1 ⟨rfl, rfl⟩)
        | (go_at_call 97; (with_reducible refine SO.out.mono ?_); rintro e w2 ⟨g, c, rfl, r2, k2⟩; have K2 := Lib.hid (ktr KA.out k2); have c2 : World.cell? w2 ⟨g, m, none⟩ = some (.int .i64 ((srt zs).getD m 0)) := (by obtain ⟨b', off', e', h'⟩ := r2.sl m (by rw [HSL.out]; exact hml); injection e' with e'; injection e' with e1 e2 _; subst e1 e2; simpa using h'); clear k2 r2))
      go_ret2
      exact ⟨by rw [E1.out, HM.out]; rfl, K2.out⟩
theorem middle_any (v : Value) (zs : List Int) (w : World) (hr : Reads w v zs) : Calls Try.prog 64 #[v] w fun e w' => e = .returned (.tuple #[.int .i64 (midQ zs), .int .i64 (midE zs)]) ∧ Kpt w w' := by
  obtain ⟨a, cap, rfl, hm, hc⟩ := id hr
  by_cases h0 : zs.length = 0
  · have e : midE zs = 1 := if_pos h0
    rw [show midQ zs = 0 by unfold midQ; rw [e]; rfl, e, h0]
    exact middle_none a cap w
  · by_cases h40 : 40 < zs.length
    · have e : midE zs = 2 := by unfold midE; rw [if_neg h0, if_pos h40]
      rw [show midQ zs = 0 by unfold midQ; rw [e]; rfl, e]
      exact middle_many a _ cap h40 hm w
    · exact middle_few a cap zs w (by omega) (by omega) hr

end Go.Proofs.Ytmoanndonfmihaa

-- CompC
namespace Go.Proofs.Ytmoanndonfmihaa
open Go.RowKit
set_option linter.unusedVariables false

/-- what a call of fail.Pay answers -/
def FpIs (F G : Array Value) (l E : Int) : Prop := ∀ w, Calls Try.prog 50 #[.agg F] w fun e w' => e = .returned (.tuple #[.agg G, .int .i64 l, .int .i64 E]) ∧ Kpt w w'
theorem FpIs.run {F G : Array Value} {l E : Int} (h : FpIs F G l E) (w : World) : Calls Try.prog 50 #[.agg F] w fun e w' => e = .returned (.tuple #[.agg G, .int .i64 l, .int .i64 E]) ∧ Kpt w w' := h w
def WtIs (u p x n e : Int) : Prop := ∀ w, Calls Try.prog 21 #[.int .i64 u, .int .i64 p, .int .i64 x] w fun r w' => r = .returned (.tuple #[.int .i64 n, .int .i64 e]) ∧ Kpt w w'
theorem WtIs.run {u p x n e : Int} (h : WtIs u p x n e) (w : World) : Calls Try.prog 21 #[.int .i64 u, .int .i64 p, .int .i64 x] w fun r w' => r = .returned (.tuple #[.int .i64 n, .int .i64 e]) ∧ Kpt w w' := h w
theorem wt_is (u p x : Int) : WtIs u p x (wthQ u p x) (wthE u p x) := worth_any u p x

set_option maxRecDepth 100000 in
set_option maxHeartbeats 2000000 in
theorem cpay_err (i f t c p d u x b y y2 l E n P X : Int) (h : E ≠ 0) (FP0 : FpIs #[.int .i64 i, .int .i64 f, .int .i64 t, .int .i64 c, .int .i64 p, .int .i64 d, .int .i64 u, .int .i64 x, .int .i64 b, .int .i64 y] #[.int .i64 0, .int .i64 0, .int .i64 0, .int .i64 0, .int .i64 0, .int .i64 0, .int .i64 0, .int .i64 0, .int .i64 0, .int .i64 0] 0 E) (w : World) :
    Calls Try.prog 18 #[.agg #[.int .i64 i, .int .i64 f, .int .i64 t, .int .i64 c, .int .i64 p, .int .i64 d, .int .i64 u, .int .i64 x, .int .i64 b, .int .i64 y], .int .i64 P, .int .i64 X] w fun e w' => e = .returned (.tuple #[.agg #[.int .i64 0, .int .i64 0, .int .i64 0, .int .i64 0, .int .i64 0, .int .i64 0, .int .i64 0, .int .i64 0, .int .i64 0, .int .i64 0], .slice none 0 0, .int .i64 E]) ∧ Kpt w w' := by
  have FP := Lib.hid FP0
  have q : (E != 0) = true := bne_iff_ne.2 h
  clear FP0 h
  have BF : Hid (Blk ((w.alloc (.cells #[.int .i64 i, .int .i64 f, .int .i64 t, .int .i64 c, .int .i64 p, .int .i64 d, .int .i64 u, .int .i64 x, .int .i64 b, .int .i64 y] 39)).alloc (.cells #[.int .i64 0, .int .i64 0, .int .i64 0, .int .i64 0, .int .i64 0, .int .i64 0, .int .i64 0, .int .i64 0, .int .i64 0, .int .i64 0] 39)) w.heap.size #[.int .i64 i, .int .i64 f, .int .i64 t, .int .i64 c, .int .i64 p, .int .i64 d, .int .i64 u, .int .i64 x, .int .i64 b, .int .i64 y] 39) := (Blk.made w #[.int .i64 i, .int .i64 f, .int .i64 t, .int .i64 c, .int .i64 p, .int .i64 d, .int .i64 u, .int .i64 x, .int .i64 b, .int .i64 y] 39).alloc _
  go_enter Try.func18, Try.ntmps18
  go_wp2_with (first
    | (refine wp_loadF rfl (.tmp 3) rfl w.heap.size _ rfl BF.out rfl ?_)
    | (go_at_call 50; (with_reducible refine (FP.out.run _).mono ?_); rintro e w1 ⟨rfl, k1⟩; have K1 := Lib.hid (ktr (((Kpt.refl w).alloc (.cells #[.int .i64 i, .int .i64 f, .int .i64 t, .int .i64 c, .int .i64 p, .int .i64 d, .int .i64 u, .int .i64 x, .int .i64 b, .int .i64 y] 39)).alloc (.cells #[.int .i64 0, .int .i64 0, .int .i64 0, .int .i64 0, .int .i64 0, .int .i64 0, .int .i64 0, .int .i64 0, .int .i64 0, .int .i64 0] 39)) k1); have B1 : Hid (Blk w1 w.heap.size #[.int .i64 i, .int .i64 f, .int .i64 t, .int .i64 c, .int .i64 p, .int .i64 d, .int .i64 u, .int .i64 x, .int .i64 b, .int .i64 y] 39) := Blk.kpt ((Blk.made w #[.int .i64 i, .int .i64 f, .int .i64 t, .int .i64 c, .int .i64 p, .int .i64 d, .int .i64 u, .int .i64 x, .int .i64 b, .int .i64 y] 39).alloc _) k1; have R1 : Hid (Blk w1 (w.heap.size + 1) #[.int .i64 0, .int .i64 0, .int .i64 0, .int .i64 0, .int .i64 0, .int .i64 0, .int .i64 0, .int .i64 0, .int .i64 0, .int .i64 0] 39) := Blk.kpt (by have := Blk.made (w.alloc (.cells #[.int .i64 i, .int .i64 f, .int .i64 t, .int .i64 c, .int .i64 p, .int .i64 d, .int .i64 u, .int .i64 x, .int .i64 b, .int .i64 y] 39)) #[.int .i64 0, .int .i64 0, .int .i64 0, .int .i64 0, .int .i64 0, .int .i64 0, .int .i64 0, .int .i64 0, .int .i64 0, .int .i64 0] 39; rwa [World.size_alloc] at this) k1; have D1 : Hid (Blk (w1.alloc (.cells #[.int .i64 0, .int .i64 0, .int .i64 0, .int .i64 0, .int .i64 0, .int .i64 0, .int .i64 0, .int .i64 0, .int .i64 0, .int .i64 0] 39)) w1.heap.size #[.int .i64 0, .int .i64 0, .int .i64 0, .int .i64 0, .int .i64 0, .int .i64 0, .int .i64 0, .int .i64 0, .int .i64 0, .int .i64 0] 39) := Blk.made _ _ _; have K2 := Lib.hid (K1.out.alloc (.cells #[.int .i64 0, .int .i64 0, .int .i64 0, .int .i64 0, .int .i64 0, .int .i64 0, .int .i64 0, .int .i64 0, .int .i64 0, .int .i64 0] 39)); have R2 : Hid (Blk (w1.alloc (.cells #[.int .i64 0, .int .i64 0, .int .i64 0, .int .i64 0, .int .i64 0, .int .i64 0, .int .i64 0, .int .i64 0, .int .i64 0, .int .i64 0] 39)) (w.heap.size + 1) #[.int .i64 0, .int .i64 0, .int .i64 0, .int .i64 0, .int .i64 0, .int .i64 0, .int .i64 0, .int .i64 0, .int .i64 0, .int .i64 0] 39) := R1.out.alloc _; have B2 : Hid (Blk (w1.alloc (.cells #[.int .i64 0, .int .i64 0, .int .i64 0, .int .i64 0, .int .i64 0, .int .i64 0, .int .i64 0, .int .i64 0, .int .i64 0, .int .i64 0] 39)) w.heap.size #[.int .i64 i, .int .i64 f, .int .i64 t, .int .i64 c, .int .i64 p, .int .i64 d, .int .i64 u, .int .i64 x, .int .i64 b, .int .i64 y] 39) := B1.out.alloc _; clear k1)
    | (refine wp_storeF rfl (.tmp 6) (.tmp 22) rfl (w.heap.size + 1) _ _ rfl rfl R2.out rfl rfl (by simp [Value.oneCell']) ?_; intro w9 r9 k9 o9; have R9 := Lib.hid r9; have K9 := Lib.hid (k9 _ _ K2.out (by omega)); clear r9 k9 o9))
  exact bodyPost_ret (v := .tuple #[.agg #[.int .i64 0, .int .i64 0, .int .i64 0, .int .i64 0, .int .i64 0, .int .i64 0, .int .i64 0, .int .i64 0, .int .i64 0, .int .i64 0], .slice none 0 0, .int .i64 E]) (results_F3 Try.results18 _ _ _ _ _ _ rfl rfl rfl R9.out rfl) rfl ⟨rfl, K9.out⟩
set_option maxRecDepth 100000 in
set_option maxHeartbeats 2000000 in
theorem cpay_rng (i f t c p d u x b y y2 l E n P X : Int) (FP0 : FpIs #[.int .i64 i, .int .i64 f, .int .i64 t, .int .i64 c, .int .i64 p, .int .i64 d, .int .i64 u, .int .i64 x, .int .i64 b, .int .i64 y] #[.int .i64 i, .int .i64 f, .int .i64 t, .int .i64 c, .int .i64 p, .int .i64 d, .int .i64 u, .int .i64 x, .int .i64 b, .int .i64 y2] l 0) (W0 : WtIs l P X 0 3) (w : World) :
    Calls Try.prog 18 #[.agg #[.int .i64 i, .int .i64 f, .int .i64 t, .int .i64 c, .int .i64 p, .int .i64 d, .int .i64 u, .int .i64 x, .int .i64 b, .int .i64 y], .int .i64 P, .int .i64 X] w fun e w' => e = .returned (.tuple #[.agg #[.int .i64 0, .int .i64 0, .int .i64 0, .int .i64 0, .int .i64 0, .int .i64 0, .int .i64 0, .int .i64 0, .int .i64 0, .int .i64 0], .slice none 0 0, .int .i64 3]) ∧ Kpt w w' := by
  have FP := Lib.hid FP0
  have WT := Lib.hid W0
  clear FP0 W0
  have BF : Hid (Blk ((w.alloc (.cells #[.int .i64 i, .int .i64 f, .int .i64 t, .int .i64 c, .int .i64 p, .int .i64 d, .int .i64 u, .int .i64 x, .int .i64 b, .int .i64 y] 39)).alloc (.cells #[.int .i64 0, .int .i64 0, .int .i64 0, .int .i64 0, .int .i64 0, .int .i64 0, .int .i64 0, .int .i64 0, .int .i64 0, .int .i64 0] 39)) w.heap.size #[.int .i64 i, .int .i64 f, .int .i64 t, .int .i64 c, .int .i64 p, .int .i64 d, .int .i64 u, .int .i64 x, .int .i64 b, .int .i64 y] 39) := (Blk.made w #[.int .i64 i, .int .i64 f, .int .i64 t, .int .i64 c, .int .i64 p, .int .i64 d, .int .i64 u, .int .i64 x, .int .i64 b, .int .i64 y] 39).alloc _
  go_enter Try.func18, Try.ntmps18
  go_wp2_with (first
    | (refine wp_loadF rfl (.tmp 3) rfl w.heap.size _ rfl BF.out rfl ?_)
    | (go_at_call 50; (with_reducible refine (FP.out.run _).mono ?_); rintro e w1 ⟨rfl, k1⟩; have K1 := Lib.hid (ktr (((Kpt.refl w).alloc (.cells #[.int .i64 i, .int .i64 f, .int .i64 t, .int .i64 c, .int .i64 p, .int .i64 d, .int .i64 u, .int .i64 x, .int .i64 b, .int .i64 y] 39)).alloc (.cells #[.int .i64 0, .int .i64 0, .int .i64 0, .int .i64 0, .int .i64 0, .int .i64 0, .int .i64 0, .int .i64 0, .int .i64 0, .int .i64 0] 39)) k1); have B1 : Hid (Blk w1 w.heap.size #[.int .i64 i, .int .i64 f, .int .i64 t, .int .i64 c, .int .i64 p, .int .i64 d, .int .i64 u, .int .i64 x, .int .i64 b, .int .i64 y] 39) := Blk.kpt ((Blk.made w #[.int .i64 i, .int .i64 f, .int .i64 t, .int .i64 c, .int .i64 p, .int .i64 d, .int .i64 u, .int .i64 x, .int .i64 b, .int .i64 y] 39).alloc _) k1; have R1 : Hid (Blk w1 (w.heap.size + 1) #[.int .i64 0, .int .i64 0, .int .i64 0, .int .i64 0, .int .i64 0, .int .i64 0, .int .i64 0, .int .i64 0, .int .i64 0, .int .i64 0] 39) := Blk.kpt (by have := Blk.made (w.alloc (.cells #[.int .i64 i, .int .i64 f, .int .i64 t, .int .i64 c, .int .i64 p, .int .i64 d, .int .i64 u, .int .i64 x, .int .i64 b, .int .i64 y] 39)) #[.int .i64 0, .int .i64 0, .int .i64 0, .int .i64 0, .int .i64 0, .int .i64 0, .int .i64 0, .int .i64 0, .int .i64 0, .int .i64 0] 39; rwa [World.size_alloc] at this) k1; have D1 : Hid (Blk (w1.alloc (.cells #[.int .i64 i, .int .i64 f, .int .i64 t, .int .i64 c, .int .i64 p, .int .i64 d, .int .i64 u, .int .i64 x, .int .i64 b, .int .i64 y2] 39)) w1.heap.size #[.int .i64 i, .int .i64 f, .int .i64 t, .int .i64 c, .int .i64 p, .int .i64 d, .int .i64 u, .int .i64 x, .int .i64 b, .int .i64 y2] 39) := Blk.made _ _ _; have K2 := Lib.hid (K1.out.alloc (.cells #[.int .i64 i, .int .i64 f, .int .i64 t, .int .i64 c, .int .i64 p, .int .i64 d, .int .i64 u, .int .i64 x, .int .i64 b, .int .i64 y2] 39)); have R2 : Hid (Blk (w1.alloc (.cells #[.int .i64 i, .int .i64 f, .int .i64 t, .int .i64 c, .int .i64 p, .int .i64 d, .int .i64 u, .int .i64 x, .int .i64 b, .int .i64 y2] 39)) (w.heap.size + 1) #[.int .i64 0, .int .i64 0, .int .i64 0, .int .i64 0, .int .i64 0, .int .i64 0, .int .i64 0, .int .i64 0, .int .i64 0, .int .i64 0] 39) := R1.out.alloc _; have B2 : Hid (Blk (w1.alloc (.cells #[.int .i64 i, .int .i64 f, .int .i64 t, .int .i64 c, .int .i64 p, .int .i64 d, .int .i64 u, .int .i64 x, .int .i64 b, .int .i64 y2] 39)) w.heap.size #[.int .i64 i, .int .i64 f, .int .i64 t, .int .i64 c, .int .i64 p, .int .i64 d, .int .i64 u, .int .i64 x, .int .i64 b, .int .i64 y] 39) := B1.out.alloc _; clear k1)
    | (go_at_call 21; (with_reducible refine (WT.out.run _).mono ?_); rintro e w3 ⟨rfl, k3⟩; have K3 := Lib.hid (ktr K2.out k3); have R3 := Lib.hid (R2.out.kpt k3); have D3 := Lib.hid (D1.out.kpt k3); have B3 := Lib.hid (B2.out.kpt k3); clear k3)
    | (refine wp_storeF rfl (.tmp 6) (.tmp 33) rfl (w.heap.size + 1) _ _ rfl rfl R3.out rfl rfl (by simp [Value.oneCell']) ?_; intro w9 r9 k9 o9; have R9 := Lib.hid r9; have K9 := Lib.hid (k9 _ _ K3.out (by omega)); clear r9 k9 o9))
  exact bodyPost_ret (v := .tuple #[.agg #[.int .i64 0, .int .i64 0, .int .i64 0, .int .i64 0, .int .i64 0, .int .i64 0, .int .i64 0, .int .i64 0, .int .i64 0, .int .i64 0], .slice none 0 0, .int .i64 3]) (results_F3 Try.results18 _ _ _ _ _ _ rfl rfl rfl R9.out rfl) rfl ⟨rfl, K9.out⟩
set_option maxRecDepth 100000 in
set_option maxHeartbeats 2000000 in
theorem cpay_zero (i f t c p d u x b y y2 l E n P X : Int) (FP0 : FpIs #[.int .i64 i, .int .i64 f, .int .i64 t, .int .i64 c, .int .i64 p, .int .i64 d, .int .i64 u, .int .i64 x, .int .i64 b, .int .i64 y] #[.int .i64 i, .int .i64 f, .int .i64 t, .int .i64 c, .int .i64 p, .int .i64 d, .int .i64 u, .int .i64 x, .int .i64 b, .int .i64 y2] l 0) (W0 : WtIs l P X 0 0) (w : World) :
    Calls Try.prog 18 #[.agg #[.int .i64 i, .int .i64 f, .int .i64 t, .int .i64 c, .int .i64 p, .int .i64 d, .int .i64 u, .int .i64 x, .int .i64 b, .int .i64 y], .int .i64 P, .int .i64 X] w fun e w' => e = .returned (.tuple #[.agg #[.int .i64 i, .int .i64 f, .int .i64 t, .int .i64 c, .int .i64 p, .int .i64 d, .int .i64 u, .int .i64 x, .int .i64 b, .int .i64 y2], .slice none 0 0, .int .i64 0]) ∧ Kpt w w' := by
  have FP := Lib.hid FP0
  have WT := Lib.hid W0
  clear FP0 W0
  have BF : Hid (Blk ((w.alloc (.cells #[.int .i64 i, .int .i64 f, .int .i64 t, .int .i64 c, .int .i64 p, .int .i64 d, .int .i64 u, .int .i64 x, .int .i64 b, .int .i64 y] 39)).alloc (.cells #[.int .i64 0, .int .i64 0, .int .i64 0, .int .i64 0, .int .i64 0, .int .i64 0, .int .i64 0, .int .i64 0, .int .i64 0, .int .i64 0] 39)) w.heap.size #[.int .i64 i, .int .i64 f, .int .i64 t, .int .i64 c, .int .i64 p, .int .i64 d, .int .i64 u, .int .i64 x, .int .i64 b, .int .i64 y] 39) := (Blk.made w #[.int .i64 i, .int .i64 f, .int .i64 t, .int .i64 c, .int .i64 p, .int .i64 d, .int .i64 u, .int .i64 x, .int .i64 b, .int .i64 y] 39).alloc _
  go_enter Try.func18, Try.ntmps18
  go_upto_region 8 with (first
    | (refine wp_loadF rfl (.tmp 3) rfl w.heap.size _ rfl BF.out rfl ?_)
    | (go_at_call 50; (with_reducible refine (FP.out.run _).mono ?_); rintro e w1 ⟨rfl, k1⟩; have K1 := Lib.hid (ktr (((Kpt.refl w).alloc (.cells #[.int .i64 i, .int .i64 f, .int .i64 t, .int .i64 c, .int .i64 p, .int .i64 d, .int .i64 u, .int .i64 x, .int .i64 b, .int .i64 y] 39)).alloc (.cells #[.int .i64 0, .int .i64 0, .int .i64 0, .int .i64 0, .int .i64 0, .int .i64 0, .int .i64 0, .int .i64 0, .int .i64 0, .int .i64 0] 39)) k1); have B1 : Hid (Blk w1 w.heap.size #[.int .i64 i, .int .i64 f, .int .i64 t, .int .i64 c, .int .i64 p, .int .i64 d, .int .i64 u, .int .i64 x, .int .i64 b, .int .i64 y] 39) := Blk.kpt ((Blk.made w #[.int .i64 i, .int .i64 f, .int .i64 t, .int .i64 c, .int .i64 p, .int .i64 d, .int .i64 u, .int .i64 x, .int .i64 b, .int .i64 y] 39).alloc _) k1; have R1 : Hid (Blk w1 (w.heap.size + 1) #[.int .i64 0, .int .i64 0, .int .i64 0, .int .i64 0, .int .i64 0, .int .i64 0, .int .i64 0, .int .i64 0, .int .i64 0, .int .i64 0] 39) := Blk.kpt (by have := Blk.made (w.alloc (.cells #[.int .i64 i, .int .i64 f, .int .i64 t, .int .i64 c, .int .i64 p, .int .i64 d, .int .i64 u, .int .i64 x, .int .i64 b, .int .i64 y] 39)) #[.int .i64 0, .int .i64 0, .int .i64 0, .int .i64 0, .int .i64 0, .int .i64 0, .int .i64 0, .int .i64 0, .int .i64 0, .int .i64 0] 39; rwa [World.size_alloc] at this) k1; have D1 : Hid (Blk (w1.alloc (.cells #[.int .i64 i, .int .i64 f, .int .i64 t, .int .i64 c, .int .i64 p, .int .i64 d, .int .i64 u, .int .i64 x, .int .i64 b, .int .i64 y2] 39)) w1.heap.size #[.int .i64 i, .int .i64 f, .int .i64 t, .int .i64 c, .int .i64 p, .int .i64 d, .int .i64 u, .int .i64 x, .int .i64 b, .int .i64 y2] 39) := Blk.made _ _ _; have K2 := Lib.hid (K1.out.alloc (.cells #[.int .i64 i, .int .i64 f, .int .i64 t, .int .i64 c, .int .i64 p, .int .i64 d, .int .i64 u, .int .i64 x, .int .i64 b, .int .i64 y2] 39)); have R2 : Hid (Blk (w1.alloc (.cells #[.int .i64 i, .int .i64 f, .int .i64 t, .int .i64 c, .int .i64 p, .int .i64 d, .int .i64 u, .int .i64 x, .int .i64 b, .int .i64 y2] 39)) (w.heap.size + 1) #[.int .i64 0, .int .i64 0, .int .i64 0, .int .i64 0, .int .i64 0, .int .i64 0, .int .i64 0, .int .i64 0, .int .i64 0, .int .i64 0] 39) := R1.out.alloc _; have B2 : Hid (Blk (w1.alloc (.cells #[.int .i64 i, .int .i64 f, .int .i64 t, .int .i64 c, .int .i64 p, .int .i64 d, .int .i64 u, .int .i64 x, .int .i64 b, .int .i64 y2] 39)) w.heap.size #[.int .i64 i, .int .i64 f, .int .i64 t, .int .i64 c, .int .i64 p, .int .i64 d, .int .i64 u, .int .i64 x, .int .i64 b, .int .i64 y] 39) := B1.out.alloc _; clear k1)
    | (go_at_call 21; (with_reducible refine (WT.out.run _).mono ?_); rintro e w3 ⟨rfl, k3⟩; have K3 := Lib.hid (ktr K2.out k3); have R3 := Lib.hid (R2.out.kpt k3); have D3 := Lib.hid (D1.out.kpt k3); have B3 := Lib.hid (B2.out.kpt k3); clear k3))
  go_wp2_with (first
    | (refine wp_loadF rfl (.tmp 9) rfl w1.heap.size _ rfl D3.out rfl ?_)
    | (refine wp_storeF rfl (.tmp 6) (.tmp 37) rfl (w.heap.size + 1) _ _ rfl rfl R3.out rfl rfl (by simp [Value.oneCell']) ?_; intro w9 r9 k9 o9; have R9 := Lib.hid r9; have K9 := Lib.hid (k9 _ _ K3.out (by omega)); clear r9 k9 o9))
  exact bodyPost_ret (v := .tuple #[.agg #[.int .i64 i, .int .i64 f, .int .i64 t, .int .i64 c, .int .i64 p, .int .i64 d, .int .i64 u, .int .i64 x, .int .i64 b, .int .i64 y2], .slice none 0 0, .int .i64 0]) (results_F3 Try.results18 _ _ _ _ _ _ rfl rfl rfl R9.out rfl) rfl ⟨rfl, K9.out⟩
/-- how a call of Pay ends that has money to post -/
def PayEnd (w : World) (G : Array Value) (f t n : Int) (e : Ending) (w' : World) : Prop := ∃ g, e = .returned (.tuple #[.agg G, .slice (some ⟨g, 0, none⟩) 2 2, .int .i64 0]) ∧ Blk w' g #[.int .i64 f, .int .i64 0, .int .i64 (-n), .int .i64 t, .int .i64 0, .int .i64 n] 77 ∧ Kpt w w'

set_option maxRecDepth 100000 in
set_option maxHeartbeats 2000000 in
theorem cpay_ok (i f t c p d u x b y y2 l E n P X : Int) (h : n ≠ 0) (h0 : 0 ≤ n) (h1 : n ≤ 1152921504606846976) (FP0 : FpIs #[.int .i64 i, .int .i64 f, .int .i64 t, .int .i64 c, .int .i64 p, .int .i64 d, .int .i64 u, .int .i64 x, .int .i64 b, .int .i64 y] #[.int .i64 i, .int .i64 f, .int .i64 t, .int .i64 c, .int .i64 p, .int .i64 d, .int .i64 u, .int .i64 x, .int .i64 b, .int .i64 y2] l 0) (W0 : WtIs l P X n 0) (w : World) :
    Calls Try.prog 18 #[.agg #[.int .i64 i, .int .i64 f, .int .i64 t, .int .i64 c, .int .i64 p, .int .i64 d, .int .i64 u, .int .i64 x, .int .i64 b, .int .i64 y], .int .i64 P, .int .i64 X] w fun e w' => PayEnd w #[.int .i64 i, .int .i64 f, .int .i64 t, .int .i64 c, .int .i64 p, .int .i64 d, .int .i64 u, .int .i64 x, .int .i64 b, .int .i64 y2] f t n e w' := by
  have FP := Lib.hid FP0
  have WT := Lib.hid W0
  have q : (n == 0) = false := beq_eq_false_iff_ne.2 h
  have m1 : IntKind.i64.wrap (-n) = -n := IntWalk.i64_in _ (by omega)
  clear FP0 W0 h
  have BF : Hid (Blk ((w.alloc (.cells #[.int .i64 i, .int .i64 f, .int .i64 t, .int .i64 c, .int .i64 p, .int .i64 d, .int .i64 u, .int .i64 x, .int .i64 b, .int .i64 y] 39)).alloc (.cells #[.int .i64 0, .int .i64 0, .int .i64 0, .int .i64 0, .int .i64 0, .int .i64 0, .int .i64 0, .int .i64 0, .int .i64 0, .int .i64 0] 39)) w.heap.size #[.int .i64 i, .int .i64 f, .int .i64 t, .int .i64 c, .int .i64 p, .int .i64 d, .int .i64 u, .int .i64 x, .int .i64 b, .int .i64 y] 39) := (Blk.made w #[.int .i64 i, .int .i64 f, .int .i64 t, .int .i64 c, .int .i64 p, .int .i64 d, .int .i64 u, .int .i64 x, .int .i64 b, .int .i64 y] 39).alloc _
  go_enter Try.func18, Try.ntmps18
  go_upto_region 10 with (first
    | (refine wp_loadF rfl (.tmp 3) rfl w.heap.size _ rfl BF.out rfl ?_)
    | (go_at_call 50; (with_reducible refine (FP.out.run _).mono ?_); rintro e w1 ⟨rfl, k1⟩; have K1 := Lib.hid (ktr (((Kpt.refl w).alloc (.cells #[.int .i64 i, .int .i64 f, .int .i64 t, .int .i64 c, .int .i64 p, .int .i64 d, .int .i64 u, .int .i64 x, .int .i64 b, .int .i64 y] 39)).alloc (.cells #[.int .i64 0, .int .i64 0, .int .i64 0, .int .i64 0, .int .i64 0, .int .i64 0, .int .i64 0, .int .i64 0, .int .i64 0, .int .i64 0] 39)) k1); have B1 : Hid (Blk w1 w.heap.size #[.int .i64 i, .int .i64 f, .int .i64 t, .int .i64 c, .int .i64 p, .int .i64 d, .int .i64 u, .int .i64 x, .int .i64 b, .int .i64 y] 39) := Blk.kpt ((Blk.made w #[.int .i64 i, .int .i64 f, .int .i64 t, .int .i64 c, .int .i64 p, .int .i64 d, .int .i64 u, .int .i64 x, .int .i64 b, .int .i64 y] 39).alloc _) k1; have R1 : Hid (Blk w1 (w.heap.size + 1) #[.int .i64 0, .int .i64 0, .int .i64 0, .int .i64 0, .int .i64 0, .int .i64 0, .int .i64 0, .int .i64 0, .int .i64 0, .int .i64 0] 39) := Blk.kpt (by have := Blk.made (w.alloc (.cells #[.int .i64 i, .int .i64 f, .int .i64 t, .int .i64 c, .int .i64 p, .int .i64 d, .int .i64 u, .int .i64 x, .int .i64 b, .int .i64 y] 39)) #[.int .i64 0, .int .i64 0, .int .i64 0, .int .i64 0, .int .i64 0, .int .i64 0, .int .i64 0, .int .i64 0, .int .i64 0, .int .i64 0] 39; rwa [World.size_alloc] at this) k1; have D1 : Hid (Blk (w1.alloc (.cells #[.int .i64 i, .int .i64 f, .int .i64 t, .int .i64 c, .int .i64 p, .int .i64 d, .int .i64 u, .int .i64 x, .int .i64 b, .int .i64 y2] 39)) w1.heap.size #[.int .i64 i, .int .i64 f, .int .i64 t, .int .i64 c, .int .i64 p, .int .i64 d, .int .i64 u, .int .i64 x, .int .i64 b, .int .i64 y2] 39) := Blk.made _ _ _; have K2 := Lib.hid (K1.out.alloc (.cells #[.int .i64 i, .int .i64 f, .int .i64 t, .int .i64 c, .int .i64 p, .int .i64 d, .int .i64 u, .int .i64 x, .int .i64 b, .int .i64 y2] 39)); have R2 : Hid (Blk (w1.alloc (.cells #[.int .i64 i, .int .i64 f, .int .i64 t, .int .i64 c, .int .i64 p, .int .i64 d, .int .i64 u, .int .i64 x, .int .i64 b, .int .i64 y2] 39)) (w.heap.size + 1) #[.int .i64 0, .int .i64 0, .int .i64 0, .int .i64 0, .int .i64 0, .int .i64 0, .int .i64 0, .int .i64 0, .int .i64 0, .int .i64 0] 39) := R1.out.alloc _; have B2 : Hid (Blk (w1.alloc (.cells #[.int .i64 i, .int .i64 f, .int .i64 t, .int .i64 c, .int .i64 p, .int .i64 d, .int .i64 u, .int .i64 x, .int .i64 b, .int .i64 y2] 39)) w.heap.size #[.int .i64 i, .int .i64 f, .int .i64 t, .int .i64 c, .int .i64 p, .int .i64 d, .int .i64 u, .int .i64 x, .int .i64 b, .int .i64 y] 39) := B1.out.alloc _; clear k1)
    | (go_at_call 21; (with_reducible refine (WT.out.run _).mono ?_); rintro e w3 ⟨rfl, k3⟩; have K3 := Lib.hid (ktr K2.out k3); have R3 := Lib.hid (R2.out.kpt k3); have D3 := Lib.hid (D1.out.kpt k3); have B3 := Lib.hid (B2.out.kpt k3); have c1 : World.cell? w3 ⟨w.heap.size, 1, none⟩ = some (.int .i64 f) := B3.out.cell 1; have c2 : World.cell? w3 ⟨w.heap.size, 2, none⟩ = some (.int .i64 t) := B3.out.cell 2; clear k3))
  have PB4 : Hid (Blk (w3.alloc (.cells #[.int .i64 f, .int .i64 0, .int .i64 (-n), .int .i64 t, .int .i64 0, .int .i64 n] 77)) w3.heap.size #[.int .i64 f, .int .i64 0, .int .i64 (-n), .int .i64 t, .int .i64 0, .int .i64 n] 77) := Blk.made _ _ _
  have D4 := Lib.hid (D3.out.alloc (.cells #[.int .i64 f, .int .i64 0, .int .i64 (-n), .int .i64 t, .int .i64 0, .int .i64 n] 77))
  have R4 := Lib.hid (R3.out.alloc (.cells #[.int .i64 f, .int .i64 0, .int .i64 (-n), .int .i64 t, .int .i64 0, .int .i64 n] 77))
  have K4 := Lib.hid (K3.out.alloc (.cells #[.int .i64 f, .int .i64 0, .int .i64 (-n), .int .i64 t, .int .i64 0, .int .i64 n] 77))
  have N4 := R3.out.lt
  go_wp2_with (first
    | (refine wp_loadF rfl (.tmp 9) rfl w1.heap.size _ rfl D4.out rfl ?_)
    | (refine wp_storeF rfl (.tmp 6) (.tmp 48) rfl (w.heap.size + 1) _ _ rfl rfl R4.out rfl rfl (by simp [Value.oneCell']) ?_; intro w9 r9 k9 o9; have R9 := Lib.hid r9; have K9 := Lib.hid (k9 _ _ K4.out (by omega)); have PB9 := Lib.hid (PB4.out.block (o9 _ (by omega))); clear r9 k9 o9))
  exact bodyPost_ret (v := .tuple #[.agg #[.int .i64 i, .int .i64 f, .int .i64 t, .int .i64 c, .int .i64 p, .int .i64 d, .int .i64 u, .int .i64 x, .int .i64 b, .int .i64 y2], .slice (some ⟨w3.heap.size, 0, none⟩) 2 2, .int .i64 0]) (results_F3 Try.results18 _ _ _ _ _ _ rfl rfl rfl R9.out rfl) rfl ⟨_, rfl, PB9.out, K9.out⟩
end Go.Proofs.Ytmoanndonfmihaa

-- CompD
namespace Go.Proofs.Ytmoanndonfmihaa
open Go.RowKit
set_option linter.unusedVariables false

theorem two_post {w : World} {g : Nat} {f t m n : Int} (B : Blk w g #[.int .i64 f, .int .i64 0, .int .i64 m, .int .i64 t, .int .i64 0, .int .i64 n] 77) (h : InP [(f, 0, m), (t, 0, n)]) : ReadsP w (.slice (some ⟨g, 0, none⟩) 2 2) [(f, 0, m), (t, 0, n)] := by
  refine ⟨_, 2, rfl, (fun e => by cases e), by unfold maxLen; simp, h, fun j hj => ⟨g, 0, rfl, ?_⟩⟩
  rcases (show j = 0 ∨ j = 1 by simp at hj; omega) with rfl | rfl
  · exact ⟨B.cell 0, B.cell 1, B.cell 2⟩
  · exact ⟨B.cell 3, B.cell 4, B.cell 5⟩
theorem cb_worth (w : World) : Calls Try.prog 21 #[.int .i64 30, .int .i64 100000, .int .i64 500] w fun e w' => e = .returned (.tuple #[.int .i64 315, .int .i64 0]) ∧ Kpt w w' := worth_any 30 100000 500 w
def F0 : Array Value := #[.int .i64 7, .int .i64 1, .int .i64 2, .int .i64 0, .int .i64 3, .int .i64 739935, .int .i64 100, .int .i64 0, .int .i64 0, .int .i64 0]
theorem cb_pay (w : World) : Calls Try.prog 18 #[.agg #[.int .i64 7, .int .i64 1, .int .i64 2, .int .i64 0, .int .i64 3, .int .i64 739935, .int .i64 100, .int .i64 0, .int .i64 0, .int .i64 0], .int .i64 100000, .int .i64 0] w fun e w' => ∃ g, e = .returned (.tuple #[.agg #[.int .i64 7, .int .i64 1, .int .i64 2, .int .i64 0, .int .i64 3, .int .i64 739935, .int .i64 100, .int .i64 0, .int .i64 0, .int .i64 100], .slice (some ⟨g, 0, none⟩) 2 2, .int .i64 0]) ∧ Blk w' g #[.int .i64 1, .int .i64 0, .int .i64 (-1000), .int .i64 2, .int .i64 0, .int .i64 1000] 77 ∧ Kpt w w' :=
  cpay_ok 7 1 2 0 3 739935 100 0 0 0 100 100 0 1000 100000 0 (by decide) (by decide) (by decide) (fun w => pay_ok 7 1 2 0 3 739935 100 0 0 0 w 100 (by decide) (by decide) (by decide) (by decide) (by decide) (by decide) (by decide)) (wt_is 100 100000 0) w
theorem cb_none (w : World) : Calls Try.prog 18 #[.agg #[.int .i64 7, .int .i64 1, .int .i64 2, .int .i64 0, .int .i64 3, .int .i64 739935, .int .i64 100, .int .i64 0, .int .i64 0, .int .i64 100], .int .i64 1, .int .i64 1] w fun e w' => e = .returned (.tuple #[.agg #[.int .i64 0, .int .i64 0, .int .i64 0, .int .i64 0, .int .i64 0, .int .i64 0, .int .i64 0, .int .i64 0, .int .i64 0, .int .i64 0], .slice none 0 0, .int .i64 5]) ∧ Kpt w w' :=
  cpay_err 7 1 2 0 3 739935 100 0 0 100 0 0 5 0 1 1 (by decide) (fun w => pay_none 7 1 2 0 3 739935 100 0 0 100 w (by decide) (by decide)) w
theorem srt_4 : srt [9, 2, 5, 7] = [2, 5, 7, 9] := by
  exact srt_is (by decide) (by decide)
theorem cb_mid (w : World) (H : Nat) (hH : w.heap.size = H) : Calls Try.prog 64 #[.slice (some ⟨H, 0, none⟩) 4 4] (w.alloc (.cells #[.int .i64 9, .int .i64 2, .int .i64 5, .int .i64 7] 3)) fun e w' => e = .returned (.tuple #[.int .i64 5, .int .i64 0]) ∧ Kpt w w' := by
  subst hH
  have B := Blk.made w #[.int .i64 9, .int .i64 2, .int .i64 5, .int .i64 7] 3
  have r : Reads (w.alloc (.cells #[.int .i64 9, .int .i64 2, .int .i64 5, .int .i64 7] 3)) (.slice (some ⟨w.heap.size, 0, none⟩) 4 4) [9, 2, 5, 7] := by
    refine reads_mk rfl (by unfold maxLen; decide) fun j hj => ?_
    rw [Nat.zero_add]
    rcases (show j = 0 ∨ j = 1 ∨ j = 2 ∨ j = 3 by simp at hj; omega) with rfl | rfl | rfl | rfl
    · exact B.cell 0
    · exact B.cell 1
    · exact B.cell 2
    · exact B.cell 3
  refine (middle_any _ _ _ r).mono ?_
  rintro e w' ⟨rfl, k⟩
  have e1 : midE [9, 2, 5, 7] = 0 := by decide
  have e2 : midQ [9, 2, 5, 7] = 5 := by rw [(mid_0 e1).2.2.2, srt_4]; rfl
  exact ⟨by rw [e1, e2], ktr ((Kpt.refl w).alloc _) k⟩
theorem cb_lim (w : World) : Calls Try.prog 65 #[.int .i64 150, .int .i64 100, .int .i64 2000] w fun e w' => e = .returned (.tuple #[.int .i64 120, .int .i64 0]) ∧ Kpt w w' := limit_any 150 100 2000 w

set_option maxRecDepth 100000 in
set_option maxHeartbeats 4000000 in
theorem compBegun (w : World) : Calls Try.prog 19 #[] w fun e w' => e = .returned (.bool true) ∧ Kpt w w' := by
  have K0 : Hid (Kpt w w) := Kpt.refl w
  have BX : Hid True := trivial
  have PB : Hid True := trivial
  go_enter Try.func19, Try.ntmps19
  go_wp2_with (first
    | (go_at_call 21; (with_reducible refine (cb_worth _).mono ?_); rintro e w1 ⟨rfl, k1⟩; have K0 := Lib.hid (ktr K0.out k1); clear k1)
    | (go_at_call 37; (with_reducible refine (some_run _).mono ?_); rintro e w1 ⟨rfl, k1⟩; have K0 := Lib.hid (ktr K0.out k1); clear k1)
    | (go_at_call 18; (with_reducible refine (cb_pay _).mono ?_); rintro e w3 ⟨g, rfl, pb, k1⟩; have K0 := Lib.hid ((ktr K0.out k1).alloc (.cells #[.int .i64 7, .int .i64 1, .int .i64 2, .int .i64 0, .int .i64 3, .int .i64 739935, .int .i64 100, .int .i64 0, .int .i64 0, .int .i64 100] 39)); have BX : Hid (Blk (w3.alloc (.cells #[.int .i64 7, .int .i64 1, .int .i64 2, .int .i64 0, .int .i64 3, .int .i64 739935, .int .i64 100, .int .i64 0, .int .i64 0, .int .i64 100] 39)) w3.heap.size #[.int .i64 7, .int .i64 1, .int .i64 2, .int .i64 0, .int .i64 3, .int .i64 739935, .int .i64 100, .int .i64 0, .int .i64 0, .int .i64 100] 39) := Blk.made _ _ _; have PB := Lib.hid (Blk.alloc pb (.cells #[.int .i64 7, .int .i64 1, .int .i64 2, .int .i64 0, .int .i64 3, .int .i64 739935, .int .i64 100, .int .i64 0, .int .i64 0, .int .i64 100] 39)); clear k1 pb)
    | (go_at_call 64; (with_reducible refine (cb_mid _ _ (by simp)).mono ?_); rintro e w4 ⟨rfl, k1⟩; have K0 := Lib.hid (ktr K0.out k1); have BX := Lib.hid (Blk.kpt BX.out k1); have PB := Lib.hid (Blk.kpt PB.out k1); clear k1)
    | (go_at_call 65; (with_reducible refine (cb_lim _).mono ?_); rintro e w4 ⟨rfl, k1⟩; have K0 := Lib.hid (ktr K0.out k1); have BX := Lib.hid (Blk.kpt BX.out k1); have PB := Lib.hid (Blk.kpt PB.out k1); clear k1)
    | (go_at_call 64; (with_reducible refine (middle_none none 0 _).mono ?_); rintro e w4 ⟨rfl, k1⟩; have K0 := Lib.hid (ktr K0.out k1); have BX := Lib.hid (Blk.kpt BX.out k1); have PB := Lib.hid (Blk.kpt PB.out k1); clear k1)
    | (refine wp_loadF rfl (.tmp 3) rfl w3.heap.size _ rfl BX.out rfl ?_)
    | (go_at_call 18; (with_reducible refine (cb_none _).mono ?_); rintro e w7 ⟨rfl, k1⟩; have K0 := Lib.hid ((ktr K0.out k1).alloc (.cells #[.int .i64 0, .int .i64 0, .int .i64 0, .int .i64 0, .int .i64 0, .int .i64 0, .int .i64 0, .int .i64 0, .int .i64 0, .int .i64 0] 39)); have c8 : World.cell? w7 ⟨w3.heap.size, 9, none⟩ = some (.int .i64 100) := (Blk.kpt BX.out k1).cell 9; have c9 : World.cell? (w7.alloc (.cells #[.int .i64 0, .int .i64 0, .int .i64 0, .int .i64 0, .int .i64 0, .int .i64 0, .int .i64 0, .int .i64 0, .int .i64 0, .int .i64 0] 39)) ⟨w3.heap.size, 9, none⟩ = some (.int .i64 100) := ((Blk.kpt BX.out k1).alloc _).cell 9; have PB := Lib.hid (Blk.alloc (Blk.kpt PB.out k1) (.cells #[.int .i64 0, .int .i64 0, .int .i64 0, .int .i64 0, .int .i64 0, .int .i64 0, .int .i64 0, .int .i64 0, .int .i64 0, .int .i64 0] 39)); clear k1)
    | (go_at_call 42; (with_reducible refine (sameP_any _ _ [(1, 0, -1000), (2, 0, 1000)] _ (two_post (Blk.alloc PB.out _) (by unfold InP; decide)) (two_post (by have := Blk.made (w7.alloc (.cells #[.int .i64 0, .int .i64 0, .int .i64 0, .int .i64 0, .int .i64 0, .int .i64 0, .int .i64 0, .int .i64 0, .int .i64 0, .int .i64 0] 39)) #[.int .i64 1, .int .i64 0, .int .i64 (-1000), .int .i64 2, .int .i64 0, .int .i64 1000] 77; rw [World.size_alloc] at this; exact this) (by unfold InP; decide))).mono ?_); rintro e w9 ⟨rfl, k2⟩; have K0 := Lib.hid (ktr (K0.out.alloc _) k2); clear k2))
  go_ret
  exact ⟨rfl, K0.out⟩

end Go.Proofs.Ytmoanndonfmihaa

-- LawCP
namespace Go.Proofs.Ytmoanndonfmihaa
open Go.RowKit
set_option linter.unusedVariables false

/-- the book that such a payment makes -/
def payB (f t n : Int) : List (Int × Int × Int) := if f < t then [(f, 0, -n), (t, 0, n)] else [(t, 0, n), (f, 0, -n)]
theorem pay_sumAt {f t n : Int} (h : f ≠ t) (a u : Int) : sumAt [(f, 0, -n), (t, 0, n)] a u = if u = 0 then (if a = f then -n else if a = t then n else 0) else 0 := by
  simp only [sumAt]
  by_cases hu : u = 0
  · subst hu
    by_cases h1 : a = f
    · subst h1
      rw [if_pos ⟨rfl, rfl⟩, if_neg (by simp; omega)]; simp
    · rw [if_neg (by simp; omega)]
      by_cases h2 : a = t
      · subst h2; rw [if_pos ⟨rfl, rfl⟩]; simp [h1]
      · rw [if_neg (by simp; omega)]; simp [h1, h2]
  · rw [if_neg (by simp; omega), if_neg (by simp; omega)]; simp [hu]
theorem pay_book {f t n : Int} (h : f ≠ t) (hf : 0 ≤ f ∧ f ≤ 30) (ht : 0 ≤ t ∧ t ≤ 30) (hn : 1 ≤ n ∧ n ≤ 1152921504606846976) : IsBook (payB f t n) [(f, 0, -n), (t, 0, n)] := by
  have p1 : ptB (f, 0, -n) = true := pt_mk (by simp only; omega)
  have p2 : ptB (t, 0, n) = true := pt_mk (by simp only; omega)
  constructor
  · unfold payB
    split
    · exact ⟨p1, by unfold plc; simp only; omega, p2, by unfold plc; simp only; omega, trivial⟩
    · exact ⟨p2, by unfold plc; simp only; omega, p1, by unfold plc; simp only; omega, trivial⟩
  · rintro ⟨a, u, m⟩
    rw [pay_sumAt h]
    have hm : ((a, u, m) ∈ payB f t n) ↔ ((a, u, m) = (f, 0, -n) ∨ (a, u, m) = (t, 0, n)) := by
      unfold payB
      split <;> simp [or_comm]
    rw [hm]
    constructor
    · rintro (e | e)
      · rw [e]; refine ⟨p1, ?_⟩; simp
      · rw [e]; refine ⟨p2, ?_⟩; simp; intro e2; exact absurd e2.symm h
    · rintro ⟨q1, q2⟩
      have q3 := pt_t q1
      simp only at q2 q3
      by_cases hu : u = 0
      · rw [if_pos hu] at q2
        by_cases h1 : a = f
        · rw [if_pos h1] at q2; left; rw [h1, hu, q2]
        · rw [if_neg h1] at q2
          by_cases h2 : a = t
          · rw [if_pos h2] at q2; right; rw [h2, hu, q2]
          · rw [if_neg h2] at q2; omega
      · rw [if_neg hu] at q2; omega
theorem pay_evn {f t n : Int} : evnB [(f, 0, -n), (t, 0, n)] = true ∧ evnB [(t, 0, n), (f, 0, -n)] = true := by
  refine ⟨evn_mk fun u hu => ?_, evn_mk fun u hu => ?_⟩
  · simp only [unitS]
    split <;> omega
  · simp only [unitS]
    split <;> omega
theorem pay_post {f t n : Int} (h : f ≠ t) (hf : 0 ≤ f ∧ f ≤ 30) (ht : 0 ≤ t ∧ t ≤ 30) (hn : 1 ≤ n ∧ n ≤ 1152921504606846976) (v : Value) (w : World) (hr : ReadsP w v [(f, 0, -n), (t, 0, n)]) :
    Calls Try.prog 22 #[.slice none 0 0, v] w fun e w' => ∃ bv, e = .returned (.tuple #[bv, .int .i64 0]) ∧ ReadsP w' bv (payB f t n) ∧ Kpt w w' := by
  refine (post_any (.slice none 0 0) v [] _ w (readsP_nil w none 0 (fun _ => rfl)) hr).mono ?_
  rintro e w' ⟨k, R, E, bv, res, own, rfl⟩
  have p1 : ptB (f, 0, -n) = true := pt_mk (by simp only; omega)
  have p2 : ptB (t, 0, n) = true := pt_mk (by simp only; omega)
  have l0 : linE [] = 0 := by decide
  have c0 : chkE [(f, 0, -n), (t, 0, n)] = 0 := chk_mk (by simp) (by simp) (fun p hp => by
    rcases List.mem_cons.1 hp with rfl | hp
    · exact p1
    · rw [List.mem_singleton.1 hp]; exact p2) pay_evn.1
  have am : ∀ a u, amtB (sumAt ([] ++ [(f, 0, -n), (t, 0, n)]) a u) = true := fun a u => by
    rw [List.nil_append, pay_sumAt h]
    refine amt_mk ?_ ?_
    · split
      · split
        · omega
        · split <;> omega
      · omega
    · split
      · split
        · omega
        · split <;> omega
      · omega
  have bk := pay_book h hf ht hn
  rcases res with ⟨a, -⟩ | ⟨-, a, -⟩ | ⟨-, -, ⟨-, -, a, u', q⟩ | ⟨-, L, hL, hl⟩⟩
  · exact absurd l0 a
  · exact absurd c0 a
  · rw [am] at q; cases q
  · have e1 : L = payB f t n := book_ext hL bk (fun a u => by rw [List.nil_append])
    subst e1
    rcases hl with ⟨a, -⟩ | ⟨-, rfl, rfl⟩
    · unfold payB at a; split at a <;> simp at a
    · exact ⟨bv, rfl, OwnsP.reads own (fun p hp => by have := pt_t (strict_pt bk.strict p hp); omega), k⟩
theorem pay_bal {f t n : Int} (h : f ≠ t) (hf : 0 ≤ f ∧ f ≤ 30) (ht : 0 ≤ t ∧ t ≤ 30) (hn : 1 ≤ n ∧ n ≤ 1152921504606846976) : (balR (payB f t n) f 0 = -n ∧ balE (payB f t n) f 0 = 0) ∧ balR (payB f t n) t 0 = n ∧ balE (payB f t n) t 0 = 0 := by
  have bk := pay_book h hf ht hn
  have l0 : linE (payB f t n) = 0 := lin_mk (by unfold payB; split <;> simp) bk.strict (by unfold payB; split; exact pay_evn.1; exact pay_evn.2)
  have pl : ∀ a : Int, 0 ≤ a ∧ a ≤ 30 → plB a 0 = true := fun a ha => decide_eq_true (by omega)
  have e1 : ∀ a : Int, 0 ≤ a ∧ a ≤ 30 → balE (payB f t n) a 0 = 0 := fun a ha => by unfold balE; rw [if_neg (by rw [l0]; simp), if_pos (pl a ha)]
  have e2 : ∀ a : Int, 0 ≤ a ∧ a ≤ 30 → balR (payB f t n) a 0 = sumAt (payB f t n) a 0 := fun a ha => by unfold balR; rw [if_pos (e1 a ha), bal_sum bk.strict]
  have e3 : ∀ a : Int, sumAt (payB f t n) a 0 = sumAt [(f, 0, -n), (t, 0, n)] a 0 := fun a => by
    unfold payB
    split
    · rfl
    · simp only [sumAt]; omega
  refine ⟨⟨?_, e1 f hf⟩, ?_, e1 t ht⟩
  · rw [e2 f hf, e3, pay_sumAt h]; simp
  · rw [e2 t ht, e3, pay_sumAt h]; simp; intro e; exact absurd e.symm h
theorem fail_bd' {i f t c p d u x b y : Int} (h : failE i f t c p d u x b y = 0) : (0 ≤ f ∧ f ≤ 30) ∧ 0 ≤ t ∧ t ≤ 30 := by
  obtain ⟨h1, -, h3, h4⟩ := fail_0 h
  obtain ⟨-, -, h5, h6, h7, h8⟩ := fdue_t h1
  exact ⟨h5.1, h5.2⟩
theorem eqZ (w : World) : (binOp .eql 39 (.agg #[.int .i64 0, .int .i64 0, .int .i64 0, .int .i64 0, .int .i64 0, .int .i64 0, .int .i64 0, .int .i64 0, .int .i64 0, .int .i64 0]) (.agg #[.int .i64 0, .int .i64 0, .int .i64 0, .int .i64 0, .int .i64 0, .int .i64 0, .int .i64 0, .int .i64 0, .int .i64 0, .int .i64 0])).run Try.prog w = .ok (.bool true) w := by kernel_rfl

def PayIs (i f t c p d u x b y P X : Int) (G : Array Value) (v : Value) (E : Int) : Prop := ∀ w, Calls Try.prog 18 #[.agg #[.int .i64 i, .int .i64 f, .int .i64 t, .int .i64 c, .int .i64 p, .int .i64 d, .int .i64 u, .int .i64 x, .int .i64 b, .int .i64 y], .int .i64 P, .int .i64 X] w fun e w' => e = .returned (.tuple #[.agg G, v, .int .i64 E]) ∧ Kpt w w'
theorem PayIs.run {i f t c p d u x b y P X : Int} {G : Array Value} {v : Value} {E : Int} (h : PayIs i f t c p d u x b y P X G v E) (w : World) : Calls Try.prog 18 #[.agg #[.int .i64 i, .int .i64 f, .int .i64 t, .int .i64 c, .int .i64 p, .int .i64 d, .int .i64 u, .int .i64 x, .int .i64 b, .int .i64 y], .int .i64 P, .int .i64 X] w fun e w' => e = .returned (.tuple #[.agg G, v, .int .i64 E]) ∧ Kpt w w' := h w
def OpnIs (i f t c p d u x b y o : Int) : Prop := ∀ w, Calls Try.prog 15 #[.agg #[.int .i64 i, .int .i64 f, .int .i64 t, .int .i64 c, .int .i64 p, .int .i64 d, .int .i64 u, .int .i64 x, .int .i64 b, .int .i64 y]] w fun e w' => e = .returned (.tuple #[.int .i64 o, .int .i64 0]) ∧ Kpt w w'
theorem OpnIs.run {i f t c p d u x b y o : Int} (h : OpnIs i f t c p d u x b y o) (w : World) : Calls Try.prog 15 #[.agg #[.int .i64 i, .int .i64 f, .int .i64 t, .int .i64 c, .int .i64 p, .int .i64 d, .int .i64 u, .int .i64 x, .int .i64 b, .int .i64 y]] w fun e w' => e = .returned (.tuple #[.int .i64 o, .int .i64 0]) ∧ Kpt w w' := h w

set_option maxRecDepth 100000 in
set_option maxHeartbeats 4000000 in
theorem cpays_a (i f t c p d u x b y P X : Int) (w : World) (E : Int) (hE : E ≠ 0) (H : PayIs i f t c p d u x b y P X #[.int .i64 0, .int .i64 0, .int .i64 0, .int .i64 0, .int .i64 0, .int .i64 0, .int .i64 0, .int .i64 0, .int .i64 0, .int .i64 0] (.slice none 0 0) E) :
    Calls Try.prog 7 #[.agg #[.int .i64 i, .int .i64 f, .int .i64 t, .int .i64 c, .int .i64 p, .int .i64 d, .int .i64 u, .int .i64 x, .int .i64 b, .int .i64 y], .int .i64 P, .int .i64 X] w fun e w' => e = .returned (.bool true) ∧ Kpt w w' := by
  have HP := Lib.hid H
  have z : (E != 0) = true := bne_iff_ne.2 hE
  have q := eqZ
  clear H hE
  have BF0 : Hid (Blk (w.alloc (.cells #[.int .i64 i, .int .i64 f, .int .i64 t, .int .i64 c, .int .i64 p, .int .i64 d, .int .i64 u, .int .i64 x, .int .i64 b, .int .i64 y] 39)) w.heap.size #[.int .i64 i, .int .i64 f, .int .i64 t, .int .i64 c, .int .i64 p, .int .i64 d, .int .i64 u, .int .i64 x, .int .i64 b, .int .i64 y] 39) := Blk.made _ _ _
  have BFA := BF0
  have KF0 : Hid (Kpt w (w.alloc (.cells #[.int .i64 i, .int .i64 f, .int .i64 t, .int .i64 c, .int .i64 p, .int .i64 d, .int .i64 u, .int .i64 x, .int .i64 b, .int .i64 y] 39))) := (Kpt.refl w).alloc _
  go_enter Try.func7, Try.ntmps7
  go_wp2_with (first
    | (refine wp_loadF rfl (.tmp 3) rfl w.heap.size _ rfl BF0.out rfl ?_)
    | (go_at_call 18; (with_reducible refine (HP.out.run _).mono ?_); rintro e w1 ⟨rfl, k1⟩; have K1w := Lib.hid k1; have K1 := Lib.hid (ktr KF0.out k1); have ZB := Lib.hid (Blk.made w1 #[.int .i64 0, .int .i64 0, .int .i64 0, .int .i64 0, .int .i64 0, .int .i64 0, .int .i64 0, .int .i64 0, .int .i64 0, .int .i64 0] 39); clear k1)
    | (refine wp_storeF rfl (.tmp 7) (.tmp 27) rfl w1.heap.size _ _ rfl rfl ZB.out rfl rfl (by simp [Value.oneCell']) ?_; intro w2 r9 k9 o9; have R2 := Lib.hid r9; have K12 : Hid (Kpt w1 w2) := Lib.hid (k9 _ _ ((Kpt.refl w1).alloc _) (Nat.le_refl _)); have K2 := Lib.hid (ktr K1.out K12.out);  clear r9 k9 o9)
    | (go_at_call 19; (with_reducible refine (compBegun _).mono ?_); rintro e w3 ⟨rfl, k1⟩; have K23 := Lib.hid k1; clear k1)
    | (go_at_call 14; (with_reducible refine (failBegun _).mono ?_); rintro e w4 ⟨rfl, k1⟩; have K24 := Lib.hid (ktr K23.out k1); clear k1)
    | (go_at_call 20; (with_reducible refine (bookBegun _).mono ?_); rintro e w5 ⟨rfl, k1⟩; have K25 := Lib.hid (ktr K24.out k1); have K5 := Lib.hid (ktr K2.out K25.out); have R5 := Lib.hid (R2.out.kpt K25.out); have BF5 := Lib.hid (BFA.out.kpt (ktr K1w.out (ktr K12.out K25.out))); have r0 : World.cell? w5 ⟨w1.heap.size, 0, none⟩ = some (.int .i64 0) := R5.out.cell 0; have r1 : World.cell? w5 ⟨w1.heap.size, 1, none⟩ = some (.int .i64 0) := R5.out.cell 1; have r2 : World.cell? w5 ⟨w1.heap.size, 2, none⟩ = some (.int .i64 0) := R5.out.cell 2; have r3 : World.cell? w5 ⟨w1.heap.size, 3, none⟩ = some (.int .i64 0) := R5.out.cell 3; have r4 : World.cell? w5 ⟨w1.heap.size, 4, none⟩ = some (.int .i64 0) := R5.out.cell 4; have r5 : World.cell? w5 ⟨w1.heap.size, 5, none⟩ = some (.int .i64 0) := R5.out.cell 5; have r6 : World.cell? w5 ⟨w1.heap.size, 6, none⟩ = some (.int .i64 0) := R5.out.cell 6; have r7 : World.cell? w5 ⟨w1.heap.size, 7, none⟩ = some (.int .i64 0) := R5.out.cell 7; have r8 : World.cell? w5 ⟨w1.heap.size, 8, none⟩ = some (.int .i64 0) := R5.out.cell 8; have r9 : World.cell? w5 ⟨w1.heap.size, 9, none⟩ = some (.int .i64 0) := R5.out.cell 9;  clear k1)
    | (refine wp_loadF rfl (.tmp 7) rfl w1.heap.size _ rfl R5.out rfl ?_))
  go_ret
  exact ⟨rfl, K5.out⟩

set_option maxRecDepth 100000 in
set_option maxHeartbeats 4000000 in
theorem cpays_b (i f t c p d u x b y P X : Int) (w : World) (y2 l n : Int) (hy : y2 = y + l) (hl : 0 ≤ y ∧ y ≤ 1073741824 ∧ 0 ≤ l ∧ l ≤ 1073741824) (O : OpnIs i f t c p d u x b y l) (OX : OpnIs i f t c p d u x b y2 0) (W0 : WtIs l P X n 0) (hn : n = 0) (H : PayIs i f t c p d u x b y P X #[.int .i64 i, .int .i64 f, .int .i64 t, .int .i64 c, .int .i64 p, .int .i64 d, .int .i64 u, .int .i64 x, .int .i64 b, .int .i64 y2] (.slice none 0 0) 0) :
    Calls Try.prog 7 #[.agg #[.int .i64 i, .int .i64 f, .int .i64 t, .int .i64 c, .int .i64 p, .int .i64 d, .int .i64 u, .int .i64 x, .int .i64 b, .int .i64 y], .int .i64 P, .int .i64 X] w fun e w' => e = .returned (.bool true) ∧ Kpt w w' := by
  have HO := Lib.hid O
  have HX := Lib.hid OX
  have HW := Lib.hid W0
  have wn : IntKind.i64.wrap (y + l) = y2 := by rw [IntWalk.i64_in _ (by omega)]; exact hy.symm
  clear O OX W0 hy hl
  have HP := Lib.hid H
  subst hn
  clear H
  have BF0 : Hid (Blk (w.alloc (.cells #[.int .i64 i, .int .i64 f, .int .i64 t, .int .i64 c, .int .i64 p, .int .i64 d, .int .i64 u, .int .i64 x, .int .i64 b, .int .i64 y] 39)) w.heap.size #[.int .i64 i, .int .i64 f, .int .i64 t, .int .i64 c, .int .i64 p, .int .i64 d, .int .i64 u, .int .i64 x, .int .i64 b, .int .i64 y] 39) := Blk.made _ _ _
  have BFA := BF0
  have KF0 : Hid (Kpt w (w.alloc (.cells #[.int .i64 i, .int .i64 f, .int .i64 t, .int .i64 c, .int .i64 p, .int .i64 d, .int .i64 u, .int .i64 x, .int .i64 b, .int .i64 y] 39))) := (Kpt.refl w).alloc _
  go_enter Try.func7, Try.ntmps7
  go_wp2_with (first
    | (refine wp_loadF rfl (.tmp 3) rfl w.heap.size _ rfl BF0.out rfl ?_)
    | (go_at_call 18; (with_reducible refine (HP.out.run _).mono ?_); rintro e w1 ⟨rfl, k1⟩; have K1w := Lib.hid k1; have K1 := Lib.hid (ktr KF0.out k1); have ZB := Lib.hid (Blk.made w1 #[.int .i64 0, .int .i64 0, .int .i64 0, .int .i64 0, .int .i64 0, .int .i64 0, .int .i64 0, .int .i64 0, .int .i64 0, .int .i64 0] 39); clear k1)
    | (refine wp_storeF rfl (.tmp 7) (.tmp 27) rfl w1.heap.size _ _ rfl rfl ZB.out rfl rfl (by simp [Value.oneCell']) ?_; intro w2 r9 k9 o9; have R2 := Lib.hid r9; have K12 : Hid (Kpt w1 w2) := Lib.hid (k9 _ _ ((Kpt.refl w1).alloc _) (Nat.le_refl _)); have K2 := Lib.hid (ktr K1.out K12.out);  clear r9 k9 o9)
    | (go_at_call 19; (with_reducible refine (compBegun _).mono ?_); rintro e w3 ⟨rfl, k1⟩; have K23 := Lib.hid k1; clear k1)
    | (go_at_call 14; (with_reducible refine (failBegun _).mono ?_); rintro e w4 ⟨rfl, k1⟩; have K24 := Lib.hid (ktr K23.out k1); clear k1)
    | (go_at_call 20; (with_reducible refine (bookBegun _).mono ?_); rintro e w5 ⟨rfl, k1⟩; have K25 := Lib.hid (ktr K24.out k1); have K5 := Lib.hid (ktr K2.out K25.out); have R5 := Lib.hid (R2.out.kpt K25.out); have BF5 := Lib.hid (BFA.out.kpt (ktr K1w.out (ktr K12.out K25.out)));  clear k1)
    | (refine wp_loadF rfl (.tmp 3) rfl w.heap.size _ rfl BF5.out rfl ?_)
    | (go_at_call 15; (with_reducible refine (HO.out.run _).mono ?_); rintro e w6 ⟨rfl, k1⟩; have K56 := Lib.hid k1; have R6 := Lib.hid (R5.out.kpt k1); clear k1)
    | (refine wp_loadF rfl (.tmp 7) rfl w1.heap.size _ rfl R6.out rfl ?_)
    | (go_at_call 15; (with_reducible refine (HX.out.run _).mono ?_); rintro e w7 ⟨rfl, k1⟩; have K57 := Lib.hid (ktr K56.out k1); clear k1)
    | (go_at_call 21; (with_reducible refine (HW.out.run _).mono ?_); rintro e w8 ⟨rfl, k1⟩; have K58 := Lib.hid (ktr K57.out k1); have K8 := Lib.hid (ktr K5.out K58.out); have c9 : w8.cell? ⟨w.heap.size, 9, none⟩ = some (.int .i64 y) := (BF5.out.kpt K58.out).cell 9; have d9 : w8.cell? ⟨w1.heap.size, 9, none⟩ = some (.int .i64 y2) := (R5.out.kpt K58.out).cell 9; clear k1))
  go_ret
  exact ⟨rfl, K8.out⟩

set_option maxRecDepth 100000 in
set_option maxHeartbeats 4000000 in
theorem cpays_c (i f t c p d u x b y P X : Int) (w : World) (y2 l n : Int) (hy : y2 = y + l) (hl : 0 ≤ y ∧ y ≤ 1073741824 ∧ 0 ≤ l ∧ l ≤ 1073741824) (O : OpnIs i f t c p d u x b y l) (OX : OpnIs i f t c p d u x b y2 0) (W0 : WtIs l P X n 0) (hft : f ≠ t) (hf : 0 ≤ f ∧ f ≤ 30) (ht : 0 ≤ t ∧ t ≤ 30) (hn : 1 ≤ n ∧ n ≤ 1152921504606846976) (H : ∀ w, Calls Try.prog 18 #[.agg #[.int .i64 i, .int .i64 f, .int .i64 t, .int .i64 c, .int .i64 p, .int .i64 d, .int .i64 u, .int .i64 x, .int .i64 b, .int .i64 y], .int .i64 P, .int .i64 X] w fun e w' => PayEnd w #[.int .i64 i, .int .i64 f, .int .i64 t, .int .i64 c, .int .i64 p, .int .i64 d, .int .i64 u, .int .i64 x, .int .i64 b, .int .i64 y2] f t n e w') :
    Calls Try.prog 7 #[.agg #[.int .i64 i, .int .i64 f, .int .i64 t, .int .i64 c, .int .i64 p, .int .i64 d, .int .i64 u, .int .i64 x, .int .i64 b, .int .i64 y], .int .i64 P, .int .i64 X] w fun e w' => e = .returned (.bool true) ∧ Kpt w w' := by
  have HP : Hid (∀ w, Calls Try.prog 18 #[.agg #[.int .i64 i, .int .i64 f, .int .i64 t, .int .i64 c, .int .i64 p, .int .i64 d, .int .i64 u, .int .i64 x, .int .i64 b, .int .i64 y], .int .i64 P, .int .i64 X] w fun e w' => ∃ g, e = .returned (.tuple #[.agg #[.int .i64 i, .int .i64 f, .int .i64 t, .int .i64 c, .int .i64 p, .int .i64 d, .int .i64 u, .int .i64 x, .int .i64 b, .int .i64 y2], .slice (some ⟨g, 0, none⟩) 2 2, .int .i64 0]) ∧ Blk w' g #[.int .i64 f, .int .i64 0, .int .i64 (-n), .int .i64 t, .int .i64 0, .int .i64 n] 77 ∧ Kpt w w') := H
  have PO := Lib.hid (fun v w hr => pay_post hft hf ht hn v w hr)
  obtain ⟨⟨v1, v2⟩, v3, v4⟩ := pay_bal hft hf ht hn
  have BA := Lib.hid (fun v w hr => balance_any v (payB f t n) f 0 w hr)
  have BB := Lib.hid (fun v w hr => balance_any v (payB f t n) t 0 w hr)
  unfold BalIs at BA BB
  rw [v1, v2] at BA
  rw [v3, v4] at BB
  have IP : Hid (InP [(f, 0, -n), (t, 0, n)]) := fun q hq => by
    rcases List.mem_cons.1 hq with rfl | hq
    · simp only; omega
    · rw [List.mem_singleton.1 hq]; simp only; omega
  have z : (n == 0) = false := beq_eq_false_iff_ne.2 (by omega)
  have wm : IntKind.i64.wrap (-n) = -n := IntWalk.i64_in _ (by omega)
  have HO := Lib.hid O
  have HX := Lib.hid OX
  have HW := Lib.hid W0
  have wn : IntKind.i64.wrap (y + l) = y2 := by rw [IntWalk.i64_in _ (by omega)]; exact hy.symm
  clear O OX W0 hy hl
  clear H hft hf ht hn v1 v2 v3 v4
  have BF0 : Hid (Blk (w.alloc (.cells #[.int .i64 i, .int .i64 f, .int .i64 t, .int .i64 c, .int .i64 p, .int .i64 d, .int .i64 u, .int .i64 x, .int .i64 b, .int .i64 y] 39)) w.heap.size #[.int .i64 i, .int .i64 f, .int .i64 t, .int .i64 c, .int .i64 p, .int .i64 d, .int .i64 u, .int .i64 x, .int .i64 b, .int .i64 y] 39) := Blk.made _ _ _
  have BFA := BF0
  have KF0 : Hid (Kpt w (w.alloc (.cells #[.int .i64 i, .int .i64 f, .int .i64 t, .int .i64 c, .int .i64 p, .int .i64 d, .int .i64 u, .int .i64 x, .int .i64 b, .int .i64 y] 39))) := (Kpt.refl w).alloc _
  go_enter Try.func7, Try.ntmps7
  go_wp2_with (first
    | (refine wp_loadF rfl (.tmp 3) rfl w.heap.size _ rfl BF0.out rfl ?_)
    | (go_at_call 18; (with_reducible refine (HP.out _).mono ?_); rintro e w1 ⟨g, rfl, pb, k1⟩; have K1w := Lib.hid k1; have K1 := Lib.hid (ktr KF0.out k1); have PB1 := Lib.hid pb; have ZB := Lib.hid (Blk.made w1 #[.int .i64 0, .int .i64 0, .int .i64 0, .int .i64 0, .int .i64 0, .int .i64 0, .int .i64 0, .int .i64 0, .int .i64 0, .int .i64 0] 39); clear k1 pb)
    | (refine wp_storeF rfl (.tmp 7) (.tmp 27) rfl w1.heap.size _ _ rfl rfl ZB.out rfl rfl (by simp [Value.oneCell']) ?_; intro w2 r9 k9 o9; have R2 := Lib.hid r9; have K12 : Hid (Kpt w1 w2) := Lib.hid (k9 _ _ ((Kpt.refl w1).alloc _) (Nat.le_refl _)); have K2 := Lib.hid (ktr K1.out K12.out); have PB2 := Lib.hid (PB1.out.kpt K12.out); clear r9 k9 o9)
    | (go_at_call 19; (with_reducible refine (compBegun _).mono ?_); rintro e w3 ⟨rfl, k1⟩; have K23 := Lib.hid k1; clear k1)
    | (go_at_call 14; (with_reducible refine (failBegun _).mono ?_); rintro e w4 ⟨rfl, k1⟩; have K24 := Lib.hid (ktr K23.out k1); clear k1)
    | (go_at_call 20; (with_reducible refine (bookBegun _).mono ?_); rintro e w5 ⟨rfl, k1⟩; have K25 := Lib.hid (ktr K24.out k1); have K5 := Lib.hid (ktr K2.out K25.out); have R5 := Lib.hid (R2.out.kpt K25.out); have BF5 := Lib.hid (BFA.out.kpt (ktr K1w.out (ktr K12.out K25.out))); have PB5 := Lib.hid (PB2.out.kpt K25.out); clear k1)
    | (refine wp_loadF rfl (.tmp 3) rfl w.heap.size _ rfl BF5.out rfl ?_)
    | (go_at_call 15; (with_reducible refine (HO.out.run _).mono ?_); rintro e w6 ⟨rfl, k1⟩; have K56 := Lib.hid k1; have R6 := Lib.hid (R5.out.kpt k1); clear k1)
    | (refine wp_loadF rfl (.tmp 7) rfl w1.heap.size _ rfl R6.out rfl ?_)
    | (go_at_call 15; (with_reducible refine (HX.out.run _).mono ?_); rintro e w7 ⟨rfl, k1⟩; have K57 := Lib.hid (ktr K56.out k1); clear k1)
    | (go_at_call 21; (with_reducible refine (HW.out.run _).mono ?_); rintro e w8 ⟨rfl, k1⟩; have K58 := Lib.hid (ktr K57.out k1); have K8 := Lib.hid (ktr K5.out K58.out); have c9 : w8.cell? ⟨w.heap.size, 9, none⟩ = some (.int .i64 y) := (BF5.out.kpt K58.out).cell 9; have d9 : w8.cell? ⟨w1.heap.size, 9, none⟩ = some (.int .i64 y2) := (R5.out.kpt K58.out).cell 9; have PR8 := Lib.hid (two_post (PB5.out.kpt K58.out) IP.out); have BF8 := Lib.hid (BF5.out.kpt K58.out); clear k1)
    | (go_at_call 22; (with_reducible refine (PO.out _ _ PR8.out).mono ?_); rintro e w9 ⟨bv, rfl, br, k1⟩; have BR9 := Lib.hid br; have K9 := Lib.hid (ktr K8.out k1); have BF9 := Lib.hid (BF8.out.kpt k1); have x1 : w9.cell? ⟨w.heap.size, 1, none⟩ = some (.int .i64 f) := BF9.out.cell 1; clear k1 br)
    | (go_at_call 23; (with_reducible refine (BA.out _ _ BR9.out).mono ?_); rintro e wa ⟨rfl, k1⟩; have KA := Lib.hid (ktr K9.out k1.kpt); have BRA := Lib.hid (BR9.out.kpt k1.kpt); have x2 : wa.cell? ⟨w.heap.size, 2, none⟩ = some (.int .i64 t) := (BF9.out.kpt k1.kpt).cell 2; clear k1)
    | (go_at_call 23; (with_reducible refine (BB.out _ _ BRA.out).mono ?_); rintro e wb ⟨rfl, k1⟩; have KB := Lib.hid (ktr KA.out k1.kpt); clear k1))
  go_ret
  exact ⟨rfl, KB.out⟩

theorem cpays_plain (i f t c p d u x b y P X : Int) (w : World) :
    Calls Try.prog 7 #[.agg #[.int .i64 i, .int .i64 f, .int .i64 t, .int .i64 c, .int .i64 p, .int .i64 d, .int .i64 u, .int .i64 x, .int .i64 b, .int .i64 y], .int .i64 P, .int .i64 X] w fun e w' => e = .returned (.bool true) ∧ Kpt w w' := by
  by_cases hE : failE i f t c p d u x b y = 0
  · have fb := fail_bd' hE
    by_cases hl : openV i f t c p d u x b y = 0
    · have FP : FpIs #[.int .i64 i, .int .i64 f, .int .i64 t, .int .i64 c, .int .i64 p, .int .i64 d, .int .i64 u, .int .i64 x, .int .i64 b, .int .i64 y] #[.int .i64 0, .int .i64 0, .int .i64 0, .int .i64 0, .int .i64 0, .int .i64 0, .int .i64 0, .int .i64 0, .int .i64 0, .int .i64 0] 0 5 := fun w => pay_none i f t c p d u x b y w hE hl
      exact cpays_a i f t c p d u x b y P X w 5 (by decide) (fun w => cpay_err i f t c p d u x b y 0 0 5 0 P X (by decide) FP w)
    · have hv : openV i f t c p d u x b y = u - x - b - y := by unfold openV; rw [if_pos hE]
      obtain ⟨g1, g2, g3, g4⟩ := fail_0 hE
      obtain ⟨-, -, -, -, -, hu⟩ := fdue_t g1
      obtain ⟨hx, hb, hy⟩ := ftk_t g3
      rw [hv] at hl
      have FP : FpIs #[.int .i64 i, .int .i64 f, .int .i64 t, .int .i64 c, .int .i64 p, .int .i64 d, .int .i64 u, .int .i64 x, .int .i64 b, .int .i64 y] #[.int .i64 i, .int .i64 f, .int .i64 t, .int .i64 c, .int .i64 p, .int .i64 d, .int .i64 u, .int .i64 x, .int .i64 b, .int .i64 (y + (u - x - b - y))] (u - x - b - y) 0 := fun w => pay_ok i f t c p d u x b y w _ hE hv (by omega) (by omega) (by omega) (by omega) (by omega)
      have O : OpnIs i f t c p d u x b y (u - x - b - y) := fun w => by
        have := fopenX_run i f t c p d u x b y w
        rwa [hE, hv] at this
      have hE2 : failE i f t c p d u x b (y + (u - x - b - y)) = 0 := fail_mk g1 g2 (ftk_mk ⟨hx, hb, by omega⟩) (by omega)
      have OX : OpnIs i f t c p d u x b (y + (u - x - b - y)) 0 := fun w => by
        have := fopenX_run i f t c p d u x b (y + (u - x - b - y)) w
        have hv2 : openV i f t c p d u x b (y + (u - x - b - y)) = 0 := by unfold openV; rw [if_pos hE2]; omega
        rwa [hE2, hv2] at this
      by_cases hW : wthE (u - x - b - y) P X = 0
      · have W0 := wt_is (u - x - b - y) P X
        rw [hW] at W0
        have hwb : wthB (u - x - b - y) P X = true := by
          unfold wthE at hW
          split at hW
          · assumption
          · cases hW
        obtain ⟨b1, b2, b3⟩ := wth_t hwb
        have bd := wth_bd b1 b2 b3
        have cb := cost_bd b1 b3
        have nq : wthQ (u - x - b - y) P X = wthV (u - x - b - y) P X := if_pos hwb
        have nb : 0 ≤ wthQ (u - x - b - y) P X ∧ wthQ (u - x - b - y) P X ≤ 1152921504606846976 := by rw [nq]; unfold wthV; omega
        by_cases hn : wthQ (u - x - b - y) P X = 0
        · have W1 := W0
          rw [hn] at W1
          exact cpays_b i f t c p d u x b y P X w _ (u - x - b - y) _ rfl ⟨by omega, by omega, by omega, by omega⟩ O OX W0 hn (fun w => cpay_zero i f t c p d u x b y (y + (u - x - b - y)) (u - x - b - y) 0 0 P X FP W1 w)
        · exact cpays_c i f t c p d u x b y P X w _ (u - x - b - y) _ rfl ⟨by omega, by omega, by omega, by omega⟩ O OX W0 g2 fb.1 fb.2 ⟨by omega, nb.2⟩ (fun w => cpay_ok i f t c p d u x b y (y + (u - x - b - y)) (u - x - b - y) 0 _ P X hn nb.1 nb.2 FP W0 w)
      · have W0 := wt_is (u - x - b - y) P X
        have e3 : wthE (u - x - b - y) P X = 3 := by
          unfold wthE at hW ⊢
          split at hW
          · exact absurd rfl hW
          · next h => rw [if_neg h]
        have q0 : wthQ (u - x - b - y) P X = 0 := by
          unfold wthQ
          unfold wthE at hW
          split at hW
          · exact absurd rfl hW
          · next h => rw [if_neg h]
        rw [e3, q0] at W0
        exact cpays_a i f t c p d u x b y P X w 3 (by decide) (fun w => cpay_rng i f t c p d u x b y (y + (u - x - b - y)) (u - x - b - y) 0 0 P X FP W0 w)
  · have FP : FpIs #[.int .i64 i, .int .i64 f, .int .i64 t, .int .i64 c, .int .i64 p, .int .i64 d, .int .i64 u, .int .i64 x, .int .i64 b, .int .i64 y] #[.int .i64 0, .int .i64 0, .int .i64 0, .int .i64 0, .int .i64 0, .int .i64 0, .int .i64 0, .int .i64 0, .int .i64 0, .int .i64 0] 0 (failE i f t c p d u x b y) := fun w => pay_bad i f t c p d u x b y w _ _ rfl rfl hE
    exact cpays_a i f t c p d u x b y P X w _ hE (fun w => cpay_err i f t c p d u x b y 0 0 _ 0 P X hE FP w)

end Go.Proofs.Ytmoanndonfmihaa
