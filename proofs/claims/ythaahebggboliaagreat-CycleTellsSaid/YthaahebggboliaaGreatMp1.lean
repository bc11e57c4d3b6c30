/-
  Merged: PriceK, Cost, Prices, ReadT.
-/
import Derived.Test.YthaahebggboliaaGreatMd
import Derived.Test.YthaahebggboliaaGreatKept
import Derived.WalkSpells
-- PriceK
namespace Go.Proofs.YthaahebggboliaaGreat
open Go.RowKit
set_option linter.unusedVariables false

def prcB (p : Int) : Bool := decide (0 ≤ p ∧ p ≤ 1099511627776)
theorem prc_t {p : Int} (h : prcB p = true) : 0 ≤ p ∧ p ≤ 1099511627776 := of_decide_eq_true h
theorem prc_f {p : Int} (h : prcB p = false) : ¬ (0 ≤ p ∧ p ≤ 1099511627776) := of_decide_eq_false h
theorem prc_mk {p : Int} (h0 : 0 ≤ p) (h1 : p ≤ 1099511627776) : prcB p = true := decide_eq_true ⟨h0, h1⟩
theorem pcheck_ok (p : Int) (h : prcB p = true) (w : World) : Calls Tryz.prog 169 #[.int .i64 p] w fun e w' => e = .returned (.int .i64 0) ∧ w = w' := by
  obtain ⟨h0, h1⟩ := prc_t h
  clear h
  go_enter Tryz.func169, Tryz.ntmps169
  go_wp2
  go_ret
  exact ⟨rfl, rfl⟩
theorem pcheck_no (p : Int) (h : prcB p = false) (w : World) : Calls Tryz.prog 169 #[.int .i64 p] w fun e w' => e = .returned (.int .i64 3) ∧ w = w' := by
  have h' := prc_f h
  clear h
  by_cases a : p < 0
  · clear h'
    go_enter Tryz.func169, Tryz.ntmps169
    go_wp2
    go_ret
    exact ⟨rfl, rfl⟩
  · have b : 1099511627776 < p := by omega
    clear h'
    go_enter Tryz.func169, Tryz.ntmps169
    go_wp2
    go_ret
    exact ⟨rfl, rfl⟩

/-- what Part answers -/
def PartIs (a b c q r E : Int) : Prop := ∀ w, Calls Tryz.prog 174 #[.int .i64 a, .int .i64 b, .int .i64 c] w fun e w' => e = .returned (.tuple #[.int .i64 q, .int .i64 r, .int .i64 E]) ∧ Grew w w'
theorem PartIs.run {a b c q r E : Int} (h : PartIs a b c q r E) (w : World) : Calls Tryz.prog 174 #[.int .i64 a, .int .i64 b, .int .i64 c] w fun e w' => e = .returned (.tuple #[.int .i64 q, .int .i64 r, .int .i64 E]) ∧ Grew w w' := h w
theorem cost_no (u p : Int) (h : amtB u = false) (w : World) : Calls Tryz.prog 173 #[.int .i64 u, .int .i64 p] w fun e w' => e = .returned (.tuple #[.int .i64 0, .int .i64 0, .int .i64 3]) ∧ Grew w w' := by
  have C := Lib.hid (fun w => check_no u w h)
  clear h
  go_enter Tryz.func173, Tryz.ntmps173
  go_wp2_with (go_at_call 132; (with_reducible refine (C.out _).mono ?_); rintro e w1 ⟨rfl, g1⟩)
  go_ret3
  exact ⟨rfl, g1⟩
theorem cost_price (u p : Int) (h : amtB u = true) (hp : prcB p = false) (w : World) : Calls Tryz.prog 173 #[.int .i64 u, .int .i64 p] w fun e w' => e = .returned (.tuple #[.int .i64 0, .int .i64 0, .int .i64 3]) ∧ Grew w w' := by
  have C := Lib.hid (fun w => check_ok u w h)
  have D := Lib.hid (fun w => pcheck_no p hp w)
  clear h hp
  go_enter Tryz.func173, Tryz.ntmps173
  go_wp2_with (first
    | (go_at_call 132; (with_reducible refine (C.out _).mono ?_); rintro e w1 ⟨rfl, g1⟩)
    | (go_at_call 169; (with_reducible refine (D.out _).mono ?_); rintro e w' ⟨rfl, rfl⟩))
  go_ret3
  exact ⟨rfl, g1⟩
theorem cost_is (u p q r E : Int) (h : amtB u = true) (hp : prcB p = true) (P : PartIs u p 10000 q r E) (w : World) : Calls Tryz.prog 173 #[.int .i64 u, .int .i64 p] w fun e w' => e = .returned (.tuple #[.int .i64 q, .int .i64 r, .int .i64 E]) ∧ Grew w w' := by
  have C := Lib.hid (fun w => check_ok u w h)
  have D := Lib.hid (fun w => pcheck_ok p hp w)
  clear h hp
  go_enter Tryz.func173, Tryz.ntmps173
  go_wp2_with (first
    | (go_at_call 132; (with_reducible refine (C.out _).mono ?_); rintro e w1 ⟨rfl, g1⟩)
    | (go_at_call 169; (with_reducible refine (D.out _).mono ?_); rintro e w' ⟨rfl, rfl⟩)
    | (go_at_call 174; (with_reducible refine (P.run _).mono ?_); rintro e w2 ⟨rfl, g2⟩))
  go_ret3
  exact ⟨rfl, gtr g1 g2⟩

end Go.Proofs.YthaahebggboliaaGreat

-- Cost
namespace Go.Proofs.YthaahebggboliaaGreat
open Go.RowKit
set_option linter.unusedVariables false

def cosE (u p : Int) : Int := if amtB u = false then 3 else if prcB p = false then 3 else if amtB (u * p / 10000) = true then 0 else 8
def cosQ (u p : Int) : Int := if cosE u p = 0 then u * p / 10000 else 0
def cosR (u p : Int) : Int := if cosE u p = 0 then u * p % 10000 else 0
theorem cos_t {u p : Int} (h : cosE u p = 0) : amtB u = true ∧ prcB p = true ∧ amtB (u * p / 10000) = true ∧ cosQ u p = u * p / 10000 ∧ cosR u p = u * p % 10000 := by
  unfold cosQ cosR
  rw [if_pos h, if_pos h]
  unfold cosE at h
  by_cases a : amtB u = false
  · rw [if_pos a] at h; cases h
  · rw [if_neg a] at h
    by_cases b : prcB p = false
    · rw [if_pos b] at h; cases h
    · rw [if_neg b] at h
      by_cases c : amtB (u * p / 10000) = true
      · exact ⟨by simpa using a, by simpa using b, c, rfl, rfl⟩
      · rw [if_neg c] at h; cases h
theorem cos_f {u p : Int} (h : cosE u p ≠ 0) : cosQ u p = 0 ∧ cosR u p = 0 ∧ (cosE u p = 3 ∨ cosE u p = 8) := by
  unfold cosQ cosR
  rw [if_neg h, if_neg h]
  refine ⟨rfl, rfl, ?_⟩
  unfold cosE at h ⊢
  split
  · exact .inl rfl
  · split
    · exact .inl rfl
    · split
      · rename_i a b c; rw [if_neg a, if_neg b, if_pos c] at h; exact absurd rfl h
      · exact .inr rfl
theorem cost_any (u p : Int) (w : World) : Calls Tryz.prog 173 #[.int .i64 u, .int .i64 p] w fun e w' => e = .returned (.tuple #[.int .i64 (cosQ u p), .int .i64 (cosR u p), .int .i64 (cosE u p)]) ∧ Kpt w w' := by
  have key : Calls Tryz.prog 173 #[.int .i64 u, .int .i64 p] w fun e w' => e = .returned (.tuple #[.int .i64 (cosQ u p), .int .i64 (cosR u p), .int .i64 (cosE u p)]) ∧ Grew w w' := by
    unfold cosQ cosR cosE
    cases ha : amtB u with
    | false => exact cost_no u p ha w
    | true =>
      cases hp : prcB p with
      | false => exact cost_price u p ha hp w
      | true =>
        obtain ⟨p0, p1⟩ := prc_t hp
        have hr : rngB p 10000 = true := rng_mk p0 p1 (by decide) (by decide)
        cases hq : amtB (u * p / 10000) with
        | true => exact cost_is u p _ _ 0 ha hp (fun w => part_ok u p 10000 ha hr hq w) w
        | false => exact cost_is u p 0 0 8 ha hp (fun w => part_wide u p 10000 ha hr hq w) w
  exact key.mono fun e w' h => ⟨h.1, h.2.kpt⟩


def dlyB (u p r : Int) : Bool := decide (0 ≤ u ∧ u ≤ 1073741824) && decide (0 ≤ r ∧ r ≤ 1000000) && prcB p
theorem dly_t {u p r : Int} (h : dlyB u p r = true) : (0 ≤ u ∧ u ≤ 1073741824) ∧ (0 ≤ r ∧ r ≤ 1000000) ∧ 0 ≤ p ∧ p ≤ 1099511627776 := by
  unfold dlyB at h
  simp only [Bool.and_eq_true] at h
  exact ⟨of_decide_eq_true h.1.1, of_decide_eq_true h.1.2, prc_t h.2⟩
theorem dly_mk {u p r : Int} (h1 : 0 ≤ u ∧ u ≤ 1073741824) (h2 : 0 ≤ r ∧ r ≤ 1000000) (h3 : 0 ≤ p ∧ p ≤ 1099511627776) : dlyB u p r = true := by
  unfold dlyB prcB
  rw [decide_eq_true h1, decide_eq_true h2, decide_eq_true h3]; rfl
def dlyE (u p r : Int) : Int := if dlyB u p r = true then 0 else 3
def dlyV (u p r : Int) : Int := u * p / 10000 * r / 1000000
def dlyQ (u p r : Int) : Int := if dlyB u p r = true then dlyV u p r else 0
theorem cost_bd {u p : Int} (h1 : 0 ≤ u ∧ u ≤ 1073741824) (h3 : 0 ≤ p ∧ p ≤ 1099511627776) : 0 ≤ u * p / 10000 ∧ u * p / 10000 ≤ 118059162071741130 := by
  have a : 0 ≤ u * p := Int.mul_nonneg h1.1 h3.1
  have b : u * p ≤ 1073741824 * 1099511627776 := Int.mul_le_mul h1.2 h3.2 h3.1 (by omega)
  omega
theorem dly_bd {u p r : Int} (h1 : 0 ≤ u ∧ u ≤ 1073741824) (h2 : 0 ≤ r ∧ r ≤ 1000000) (h3 : 0 ≤ p ∧ p ≤ 1099511627776) : 0 ≤ dlyV u p r ∧ dlyV u p r ≤ 118059162071741130 := by
  have c := cost_bd h1 h3
  unfold dlyV
  have a : 0 ≤ u * p / 10000 * r := Int.mul_nonneg c.1 h2.1
  have b : u * p / 10000 * r ≤ 118059162071741130 * 1000000 := Int.mul_le_mul c.2 h2.2 h2.1 (by omega)
  omega
theorem cos_dly {u p : Int} (h1 : 0 ≤ u ∧ u ≤ 1073741824) : cosE u p = (if prcB p = true then 0 else 3) ∧ cosQ u p = (if prcB p = true then u * p / 10000 else 0) := by
  have hu : amtB u = true := amt_mk (by omega) (by omega)
  cases hp : prcB p with
  | true =>
    have c := cost_bd h1 (prc_t hp)
    have hq : amtB (u * p / 10000) = true := amt_mk (by omega) (by omega)
    have e : cosE u p = 0 := by unfold cosE; rw [hu, hp, hq]; rfl
    exact ⟨by rw [e]; rfl, by unfold cosQ; rw [if_pos e]; rfl⟩
  | false =>
    have e : cosE u p = 3 := by unfold cosE; rw [hu, hp]; rfl
    exact ⟨by rw [e]; rfl, by unfold cosQ; rw [if_neg (by rw [e]; decide)]; rfl⟩
set_option maxHeartbeats 1000000 in
theorem daily_any (u p r : Int) (w : World) : Calls Tryz.prog 171 #[.int .i64 u, .int .i64 p, .int .i64 r] w fun e w' => e = .returned (.tuple #[.int .i64 (dlyQ u p r), .int .i64 (dlyE u p r)]) ∧ Kpt w w' := by
  by_cases hu : 0 ≤ u ∧ u ≤ 1073741824
  · by_cases hr : 0 ≤ r ∧ r ≤ 1000000
    · have CA := Lib.hid (fun w => cost_any u p w)
      have cd := cos_dly (p := p) hu
      rw [cd.1, cd.2] at CA
      have y1 : ¬ u < 0 := by omega
      have y2 : ¬ 1073741824 < u := by omega
      have y3 : ¬ r < 0 := by omega
      have y4 : ¬ 1000000 < r := by omega
      cases hp : prcB p with
      | true =>
        have hb : dlyB u p r = true := by unfold dlyB; rw [decide_eq_true hu, decide_eq_true hr, hp]; rfl
        have hE : dlyE u p r = 0 := by unfold dlyE; rw [if_pos hb]
        have hQ : dlyQ u p r = u * p / 10000 * r / 1000000 := by unfold dlyQ; rw [if_pos hb]; rfl
        rw [hp, if_pos rfl, if_pos rfl] at CA
        rw [hE, hQ]
        have c := cost_bd hu (prc_t hp)
        have PT := Lib.hid (fun w => part_ok (u * p / 10000) r 1000000 (amt_mk (by omega) (by omega)) (rng_mk hr.1 (by omega) (by decide) (by decide)) (amt_mk (by have := (dly_bd hu hr (prc_t hp)).1; unfold dlyV at this; omega) (by have := (dly_bd hu hr (prc_t hp)).2; unfold dlyV at this; omega)) w)
        clear hE hQ hb cd hu hr hp
        generalize u * p / 10000 = k at *
        generalize cosR u p = m at *
        generalize k * r / 1000000 = n at *
        generalize k * r % 1000000 = o at *
        go_enter Tryz.func171, Tryz.ntmps171
        go_wp2_with (first
          | (go_at_call 173; (with_reducible refine (CA.out _).mono ?_); rintro e w1 ⟨rfl, g1⟩)
          | (go_at_call 174; (with_reducible refine (PT.out _).mono ?_); rintro e w2 ⟨rfl, g2⟩))
        go_ret2
        exact ⟨rfl, ktr g1 g2.kpt⟩
      | false =>
        have hb : dlyB u p r = false := by unfold dlyB; rw [hp]; simp
        have hE : dlyE u p r = 3 := by unfold dlyE; rw [hb]; rfl
        have hQ : dlyQ u p r = 0 := by unfold dlyQ; rw [hb]; rfl
        rw [hp, if_neg (by decide), if_neg (by decide)] at CA
        rw [hE, hQ]
        clear hE hQ hb cd hu hr hp
        generalize cosR u p = m at *
        go_enter Tryz.func171, Tryz.ntmps171
        go_wp2_with (go_at_call 173; (with_reducible refine (CA.out _).mono ?_); rintro e w1 ⟨rfl, g1⟩)
        go_ret2
        exact ⟨rfl, g1⟩
    · have hb : dlyB u p r = false := by unfold dlyB; rw [decide_eq_false hr]; simp
      have hE : dlyE u p r = 3 := by unfold dlyE; rw [hb]; rfl
      have hQ : dlyQ u p r = 0 := by unfold dlyQ; rw [hb]; rfl
      rw [hE, hQ]
      have y1 : ¬ u < 0 := by omega
      have y2 : ¬ 1073741824 < u := by omega
      by_cases y3 : r < 0
      · clear hE hQ hb hu hr
        go_enter Tryz.func171, Tryz.ntmps171
        go_wp2
        go_ret2
        exact ⟨rfl, Kpt.refl _⟩
      · have y4 : 1000000 < r := by omega
        clear hE hQ hb hu hr
        go_enter Tryz.func171, Tryz.ntmps171
        go_wp2
        go_ret2
        exact ⟨rfl, Kpt.refl _⟩
  · have hb : dlyB u p r = false := by unfold dlyB; rw [decide_eq_false hu]; simp
    have hE : dlyE u p r = 3 := by unfold dlyE; rw [hb]; rfl
    have hQ : dlyQ u p r = 0 := by unfold dlyQ; rw [hb]; rfl
    rw [hE, hQ]
    by_cases y3 : u < 0
    · clear hE hQ hb hu
      go_enter Tryz.func171, Tryz.ntmps171
      go_wp2
      go_ret2
      exact ⟨rfl, Kpt.refl _⟩
    · have y4 : 1073741824 < u := by omega
      clear hE hQ hb hu
      go_enter Tryz.func171, Tryz.ntmps171
      go_wp2
      go_ret2
      exact ⟨rfl, Kpt.refl _⟩

end Go.Proofs.YthaahebggboliaaGreat

-- Prices
namespace Go.Proofs.YthaahebggboliaaGreat
open Go.RowKit
set_option linter.unusedVariables false

/-- the first error of two -/
def orE (a b : Int) : Int := if a = 0 then b else a
theorem orE_0 {a b : Int} (h : orE a b = 0) : a = 0 ∧ b = 0 := by
  unfold orE at h
  by_cases h0 : a = 0
  · rw [if_pos h0] at h; exact ⟨h0, h⟩
  · rw [if_neg h0] at h; exact absurd h h0
theorem orE_l {a : Int} (b : Int) (h : a ≠ 0) : orE a b = a := by unfold orE; rw [if_neg h]
theorem orE_r {a b : Int} (h : a = 0) : orE a b = b := by unfold orE; rw [if_pos h]
def prsL : List Int → Int
  | [] => 0
  | p :: ps => if prcB p = true then prsL ps else 3
/-- the error of prices -/
def prsE (ps : List Int) : Int := if ps.length = 20 then prsL ps else 1
theorem prs_0 {ps : List Int} (h : prsL ps = 0) : ∀ p ∈ ps, prcB p = true := by
  induction ps with
  | nil => intro l hl; cases hl
  | cons t ts ih =>
    unfold prsL at h
    split at h
    · next h1 =>
      intro l hl
      rcases List.mem_cons.1 hl with rfl | hl
      · exact h1
      · exact ih h l hl
    · next h1 => omega
theorem prs_bd (ps : List Int) : prsL ps = 0 ∨ prsL ps = 3 := by
  induction ps with
  | nil => exact .inl rfl
  | cons t ts ih =>
    unfold prsL
    split
    · exact ih
    · exact .inr rfl
theorem drop_atI {ps : List Int} {k : Nat} (h : k < ps.length) : ps.drop k = ps.getD k 0 :: ps.drop (k + 1) := by
  rw [List.drop_eq_getElem_cons h, List.getD_eq_getElem?_getD, List.getElem?_eq_getElem h]; rfl


set_option maxHeartbeats 2000000 in
theorem prices_run (v : Value) (ps : List Int) (w : World) (hr : Reads w v ps) :
    Calls Tryz.prog 148 #[v] w fun e w' => e = .returned (.int .i64 (prsE ps)) ∧ w = w' := by
  obtain ⟨a, cap, rfl, hm, hc⟩ := hr
  unfold maxLen at hm
  have HC := Lib.hid hc
  obtain ⟨n, hn⟩ : ∃ n, n = ps.length := ⟨_, rfl⟩
  by_cases h6 : ps.length = 20
  · have HX : Hid (prsE ps = prsL (ps.drop 0)) := by unfold Hid prsE; rw [if_pos h6]; rfl
    have DR := Lib.hid (fun k (h : k < ps.length) => drop_atI h)
    have DA : Hid (ps.drop n = []) := by unfold Hid; rw [hn, List.drop_length]
    rw [← hn] at HC hm h6 DR ⊢
    have y1 : ((n : Int) != 20) = false := by rw [h6]; rfl
    clear hc hn h6
    go_enter Tryz.func148, Tryz.ntmps148
    go_wp2
    go_loop [11] (fun ii => ∃ k : Nat, k ≤ n ∧ ii = .int .i64 (k : Int) ∧ Hid (prsE ps = prsL (ps.drop k))) (fun ii => n - (intOf ii).toNat)
    case atStart => exact ⟨0, Nat.zero_le _, rfl, HX.out⟩
    case round =>
      obtain ⟨k, hk, rfl, HE⟩ := hrel
      by_cases hlt : k < n
      · obtain ⟨g, off, rfl, c0⟩ := HC.out k hlt
        have he := HE.out
        rw [DR.out k hlt] at he
        unfold prsL at he
        clear HE
        generalize ps.getD k 0 = p at *
        by_cases hp : prcB p = true
        · rw [if_pos hp] at he
          have PC := Lib.hid (fun w' => pcheck_ok p hp w')
          have HE2 := Lib.hid he
          clear he hp
          go_wp2_with (go_at_call 169; (with_reducible refine (PC.out _).mono ?_); rintro x w2 ⟨rfl, rfl⟩)
          go_round
          case rel => exact ⟨k + 1, by omega, by go_num, HE2.out⟩
          case measure => simp [intOf]; omega
        · rw [if_neg hp] at he
          have PC := Lib.hid (fun w' => pcheck_no p (by simpa using hp) w')
          have HE2 := Lib.hid he
          clear he hp
          go_wp2_with (go_at_call 169; (with_reducible refine (PC.out _).mono ?_); rintro x w2 ⟨rfl, rfl⟩)
          go_ret
          exact ⟨ret_int HE2.out.symm, rfl⟩
      · obtain rfl : k = n := by omega
        rw [DA.out] at HE
        go_wp2
        go_ret
        exact ⟨ret_int HE.out.symm, rfl⟩
  · have HX : Hid (prsE ps = 1) := by unfold Hid prsE; rw [if_neg h6]
    rw [← hn] at HC hm h6 ⊢
    have y1 : ((n : Int) != 20) = true := bne_iff_ne.2 (by omega)
    clear hc hn
    go_enter Tryz.func148, Tryz.ntmps148
    go_wp2
    go_ret
    exact ⟨ret_int HX.out.symm, rfl⟩


end Go.Proofs.YthaahebggboliaaGreat

-- ReadT
namespace Go.Proofs.YthaahebggboliaaGreat
open Go.RowKit
set_option linter.unusedVariables false

/-- terms in memory: four ints each -/
def ReadsT (w : World) (v : Value) (ts : List (List Int)) : Prop :=
  ∃ (a : Option Addr) (cap : Nat), v = .slice a ts.length cap ∧ ts.length ≤ maxLen ∧ ∀ k, k < ts.length → ∃ g off, a = some ⟨g, off, none⟩ ∧ ∀ j, j < 4 → w.cell? ⟨g, off + k * 4 + j, none⟩ = some (.int .i64 ((ts.getD k []).getD j 0))
theorem ReadsT.kpt {w w' : World} {v : Value} {ts : List (List Int)} (h : ReadsT w v ts) (k : Kpt w w') : ReadsT w' v ts := by
  obtain ⟨a, cap, rfl, hm, hc⟩ := h
  refine ⟨a, cap, rfl, hm, fun j hj => ?_⟩
  obtain ⟨g, off, rfl, h'⟩ := hc j hj
  exact ⟨g, off, rfl, fun i hi => k.cell (h' i hi)⟩

end Go.Proofs.YthaahebggboliaaGreat
