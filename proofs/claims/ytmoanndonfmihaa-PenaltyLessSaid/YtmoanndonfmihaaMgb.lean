/-
  Merged: PriceK, Cost, Prices, Ten, PenA, PenM, PenC, PenF, DueApp, QuietK, PenG.
-/
import Derived.Test.YtmoanndonfmihaaMg0
import Derived.Test.YtmoanndonfmihaaKept
import Derived.WalkSpells
import Derived.Test.YtmoanndonfmihaaRow
import Derived.Test.YtmoanndonfmihaaMgg
import Derived.Test.YtmoanndonfmihaaFailE
import Derived.Test.YtmoanndonfmihaaCalK
import Derived.Test.YtmoanndonfmihaaReadT
import Derived.Test.YtmoanndonfmihaaTrip
import Derived.Test.YtmoanndonfmihaaOwn
import Derived.Deep.QuietTactic
import Derived.BigQuiet
-- PriceK
namespace Go.Proofs.Ytmoanndonfmihaa
open Go.RowKit
set_option linter.unusedVariables false

def prcB (p : Int) : Bool := decide (0 ≤ p ∧ p ≤ 1099511627776)
theorem prc_t {p : Int} (h : prcB p = true) : 0 ≤ p ∧ p ≤ 1099511627776 := of_decide_eq_true h
theorem prc_f {p : Int} (h : prcB p = false) : ¬ (0 ≤ p ∧ p ≤ 1099511627776) := of_decide_eq_false h
theorem prc_mk {p : Int} (h0 : 0 ≤ p) (h1 : p ≤ 1099511627776) : prcB p = true := decide_eq_true ⟨h0, h1⟩
theorem pcheck_ok (p : Int) (h : prcB p = true) (w : World) : Calls Try.prog 80 #[.int .i64 p] w fun e w' => e = .returned (.int .i64 0) ∧ w = w' := by
  obtain ⟨h0, h1⟩ := prc_t h
  clear h
  go_enter Try.func80, Try.ntmps80
  go_wp2
  go_ret
  exact ⟨rfl, rfl⟩
theorem pcheck_no (p : Int) (h : prcB p = false) (w : World) : Calls Try.prog 80 #[.int .i64 p] w fun e w' => e = .returned (.int .i64 3) ∧ w = w' := by
  have h' := prc_f h
  clear h
  by_cases a : p < 0
  · clear h'
    go_enter Try.func80, Try.ntmps80
    go_wp2
    go_ret
    exact ⟨rfl, rfl⟩
  · have b : 1099511627776 < p := by omega
    clear h'
    go_enter Try.func80, Try.ntmps80
    go_wp2
    go_ret
    exact ⟨rfl, rfl⟩

/-- what Part answers -/
def PartIs (a b c q r E : Int) : Prop := ∀ w, Calls Try.prog 71 #[.int .i64 a, .int .i64 b, .int .i64 c] w fun e w' => e = .returned (.tuple #[.int .i64 q, .int .i64 r, .int .i64 E]) ∧ Grew w w'
theorem PartIs.run {a b c q r E : Int} (h : PartIs a b c q r E) (w : World) : Calls Try.prog 71 #[.int .i64 a, .int .i64 b, .int .i64 c] w fun e w' => e = .returned (.tuple #[.int .i64 q, .int .i64 r, .int .i64 E]) ∧ Grew w w' := h w
theorem cost_no (u p : Int) (h : amtB u = false) (w : World) : Calls Try.prog 70 #[.int .i64 u, .int .i64 p] w fun e w' => e = .returned (.tuple #[.int .i64 0, .int .i64 0, .int .i64 3]) ∧ Grew w w' := by
  have C := Lib.hid (fun w => check_no u w h)
  clear h
  go_enter Try.func70, Try.ntmps70
  go_wp2_with (go_at_call 105; (with_reducible refine (C.out _).mono ?_); rintro e w1 ⟨rfl, g1⟩)
  go_ret3
  exact ⟨rfl, g1⟩
theorem cost_price (u p : Int) (h : amtB u = true) (hp : prcB p = false) (w : World) : Calls Try.prog 70 #[.int .i64 u, .int .i64 p] w fun e w' => e = .returned (.tuple #[.int .i64 0, .int .i64 0, .int .i64 3]) ∧ Grew w w' := by
  have C := Lib.hid (fun w => check_ok u w h)
  have D := Lib.hid (fun w => pcheck_no p hp w)
  clear h hp
  go_enter Try.func70, Try.ntmps70
  go_wp2_with (first
    | (go_at_call 105; (with_reducible refine (C.out _).mono ?_); rintro e w1 ⟨rfl, g1⟩)
    | (go_at_call 80; (with_reducible refine (D.out _).mono ?_); rintro e w' ⟨rfl, rfl⟩))
  go_ret3
  exact ⟨rfl, g1⟩
theorem cost_is (u p q r E : Int) (h : amtB u = true) (hp : prcB p = true) (P : PartIs u p 10000 q r E) (w : World) : Calls Try.prog 70 #[.int .i64 u, .int .i64 p] w fun e w' => e = .returned (.tuple #[.int .i64 q, .int .i64 r, .int .i64 E]) ∧ Grew w w' := by
  have C := Lib.hid (fun w => check_ok u w h)
  have D := Lib.hid (fun w => pcheck_ok p hp w)
  clear h hp
  go_enter Try.func70, Try.ntmps70
  go_wp2_with (first
    | (go_at_call 105; (with_reducible refine (C.out _).mono ?_); rintro e w1 ⟨rfl, g1⟩)
    | (go_at_call 80; (with_reducible refine (D.out _).mono ?_); rintro e w' ⟨rfl, rfl⟩)
    | (go_at_call 71; (with_reducible refine (P.run _).mono ?_); rintro e w2 ⟨rfl, g2⟩))
  go_ret3
  exact ⟨rfl, gtr g1 g2⟩

end Go.Proofs.Ytmoanndonfmihaa

-- Cost
namespace Go.Proofs.Ytmoanndonfmihaa
open Go.RowKit
set_option linter.unusedVariables false

def cosE (u p : Int) : Int := if amtB u = false then 3 else if prcB p = false then 3 else if amtB (u * p / 10000) = true then 0 else 8
def cosQ (u p : Int) : Int := if cosE u p = 0 then u * p / 10000 else 0
def cosR (u p : Int) : Int := if cosE u p = 0 then u * p % 10000 else 0
theorem cos_t {u p : Int} (h : cosE u p = 0) : amtB u = true ∧ prcB p = true ∧ amtB (u * p / 10000) = true ∧ cosQ u p = u * p / 10000 ∧ cosR u p = u * p % 10000 := by
  unfold cosQ cosR
  rw [if_pos h, if_pos h]
  unfold cosE at h
  by_cases a : amtB u = false
  · rw [if_pos a] at h; cases h
  · rw [if_neg a] at h
    by_cases b : prcB p = false
    · rw [if_pos b] at h; cases h
    · rw [if_neg b] at h
      by_cases c : amtB (u * p / 10000) = true
      · exact ⟨by simpa using a, by simpa using b, c, rfl, rfl⟩
      · rw [if_neg c] at h; cases h
theorem cos_f {u p : Int} (h : cosE u p ≠ 0) : cosQ u p = 0 ∧ cosR u p = 0 ∧ (cosE u p = 3 ∨ cosE u p = 8) := by
  unfold cosQ cosR
  rw [if_neg h, if_neg h]
  refine ⟨rfl, rfl, ?_⟩
  unfold cosE at h ⊢
  split
  · exact .inl rfl
  · split
    · exact .inl rfl
    · split
      · rename_i a b c; rw [if_neg a, if_neg b, if_pos c] at h; exact absurd rfl h
      · exact .inr rfl
theorem cost_any (u p : Int) (w : World) : Calls Try.prog 70 #[.int .i64 u, .int .i64 p] w fun e w' => e = .returned (.tuple #[.int .i64 (cosQ u p), .int .i64 (cosR u p), .int .i64 (cosE u p)]) ∧ Kpt w w' := by
  have key : Calls Try.prog 70 #[.int .i64 u, .int .i64 p] w fun e w' => e = .returned (.tuple #[.int .i64 (cosQ u p), .int .i64 (cosR u p), .int .i64 (cosE u p)]) ∧ Grew w w' := by
    unfold cosQ cosR cosE
    cases ha : amtB u with
    | false => exact cost_no u p ha w
    | true =>
      cases hp : prcB p with
      | false => exact cost_price u p ha hp w
      | true =>
        obtain ⟨p0, p1⟩ := prc_t hp
        have hr : rngB p 10000 = true := rng_mk p0 p1 (by decide) (by decide)
        cases hq : amtB (u * p / 10000) with
        | true => exact cost_is u p _ _ 0 ha hp (fun w => part_ok u p 10000 ha hr hq w) w
        | false => exact cost_is u p 0 0 8 ha hp (fun w => part_wide u p 10000 ha hr hq w) w
  exact key.mono fun e w' h => ⟨h.1, h.2.kpt⟩


def dlyB (u p r : Int) : Bool := decide (0 ≤ u ∧ u ≤ 1073741824) && decide (0 ≤ r ∧ r ≤ 1000000) && prcB p
theorem dly_t {u p r : Int} (h : dlyB u p r = true) : (0 ≤ u ∧ u ≤ 1073741824) ∧ (0 ≤ r ∧ r ≤ 1000000) ∧ 0 ≤ p ∧ p ≤ 1099511627776 := by
  unfold dlyB at h
  simp only [Bool.and_eq_true] at h
  exact ⟨of_decide_eq_true h.1.1, of_decide_eq_true h.1.2, prc_t h.2⟩
theorem dly_mk {u p r : Int} (h1 : 0 ≤ u ∧ u ≤ 1073741824) (h2 : 0 ≤ r ∧ r ≤ 1000000) (h3 : 0 ≤ p ∧ p ≤ 1099511627776) : dlyB u p r = true := by
  unfold dlyB prcB
  rw [decide_eq_true h1, decide_eq_true h2, decide_eq_true h3]; rfl
def dlyE (u p r : Int) : Int := if dlyB u p r = true then 0 else 3
def dlyV (u p r : Int) : Int := u * p / 10000 * r / 1000000
def dlyQ (u p r : Int) : Int := if dlyB u p r = true then dlyV u p r else 0
theorem cost_bd {u p : Int} (h1 : 0 ≤ u ∧ u ≤ 1073741824) (h3 : 0 ≤ p ∧ p ≤ 1099511627776) : 0 ≤ u * p / 10000 ∧ u * p / 10000 ≤ 118059162071741130 := by
  have a : 0 ≤ u * p := Int.mul_nonneg h1.1 h3.1
  have b : u * p ≤ 1073741824 * 1099511627776 := Int.mul_le_mul h1.2 h3.2 h3.1 (by omega)
  omega
theorem dly_bd {u p r : Int} (h1 : 0 ≤ u ∧ u ≤ 1073741824) (h2 : 0 ≤ r ∧ r ≤ 1000000) (h3 : 0 ≤ p ∧ p ≤ 1099511627776) : 0 ≤ dlyV u p r ∧ dlyV u p r ≤ 118059162071741130 := by
  have c := cost_bd h1 h3
  unfold dlyV
  have a : 0 ≤ u * p / 10000 * r := Int.mul_nonneg c.1 h2.1
  have b : u * p / 10000 * r ≤ 118059162071741130 * 1000000 := Int.mul_le_mul c.2 h2.2 h2.1 (by omega)
  omega
theorem cos_dly {u p : Int} (h1 : 0 ≤ u ∧ u ≤ 1073741824) : cosE u p = (if prcB p = true then 0 else 3) ∧ cosQ u p = (if prcB p = true then u * p / 10000 else 0) := by
  have hu : amtB u = true := amt_mk (by omega) (by omega)
  cases hp : prcB p with
  | true =>
    have c := cost_bd h1 (prc_t hp)
    have hq : amtB (u * p / 10000) = true := amt_mk (by omega) (by omega)
    have e : cosE u p = 0 := by unfold cosE; rw [hu, hp, hq]; rfl
    exact ⟨by rw [e]; rfl, by unfold cosQ; rw [if_pos e]; rfl⟩
  | false =>
    have e : cosE u p = 3 := by unfold cosE; rw [hu, hp]; rfl
    exact ⟨by rw [e]; rfl, by unfold cosQ; rw [if_neg (by rw [e]; decide)]; rfl⟩
set_option maxHeartbeats 1000000 in
theorem daily_any (u p r : Int) (w : World) : Calls Try.prog 36 #[.int .i64 u, .int .i64 p, .int .i64 r] w fun e w' => e = .returned (.tuple #[.int .i64 (dlyQ u p r), .int .i64 (dlyE u p r)]) ∧ Kpt w w' := by
  by_cases hu : 0 ≤ u ∧ u ≤ 1073741824
  · by_cases hr : 0 ≤ r ∧ r ≤ 1000000
    · have CA := Lib.hid (fun w => cost_any u p w)
      have cd := cos_dly (p := p) hu
      rw [cd.1, cd.2] at CA
      have y1 : ¬ u < 0 := by omega
      have y2 : ¬ 1073741824 < u := by omega
      have y3 : ¬ r < 0 := by omega
      have y4 : ¬ 1000000 < r := by omega
      cases hp : prcB p with
      | true =>
        have hb : dlyB u p r = true := by unfold dlyB; rw [decide_eq_true hu, decide_eq_true hr, hp]; rfl
        have hE : dlyE u p r = 0 := by unfold dlyE; rw [if_pos hb]
        have hQ : dlyQ u p r = u * p / 10000 * r / 1000000 := by unfold dlyQ; rw [if_pos hb]; rfl
        rw [hp, if_pos rfl, if_pos rfl] at CA
        rw [hE, hQ]
        have c := cost_bd hu (prc_t hp)
        have PT := Lib.hid (fun w => part_ok (u * p / 10000) r 1000000 (amt_mk (by omega) (by omega)) (rng_mk hr.1 (by omega) (by decide) (by decide)) (amt_mk (by have := (dly_bd hu hr (prc_t hp)).1; unfold dlyV at this; omega) (by have := (dly_bd hu hr (prc_t hp)).2; unfold dlyV at this; omega)) w)
        clear hE hQ hb cd hu hr hp
        generalize u * p / 10000 = k at *
        generalize cosR u p = m at *
        generalize k * r / 1000000 = n at *
        generalize k * r % 1000000 = o at *
        go_enter Try.func36, Try.ntmps36
        go_wp2_with (first
          | (go_at_call 70; (with_reducible refine (CA.out _).mono ?_); rintro e w1 ⟨rfl, g1⟩)
          | (go_at_call 71; (with_reducible refine (PT.out _).mono ?_); rintro e w2 ⟨rfl, g2⟩))
        go_ret2
        exact ⟨rfl, ktr g1 g2.kpt⟩
      | false =>
        have hb : dlyB u p r = false := by unfold dlyB; rw [hp]; simp
        have hE : dlyE u p r = 3 := by unfold dlyE; rw [hb]; rfl
        have hQ : dlyQ u p r = 0 := by unfold dlyQ; rw [hb]; rfl
        rw [hp, if_neg (by decide), if_neg (by decide)] at CA
        rw [hE, hQ]
        clear hE hQ hb cd hu hr hp
        generalize cosR u p = m at *
        go_enter Try.func36, Try.ntmps36
        go_wp2_with (go_at_call 70; (with_reducible refine (CA.out _).mono ?_); rintro e w1 ⟨rfl, g1⟩)
        go_ret2
        exact ⟨rfl, g1⟩
    · have hb : dlyB u p r = false := by unfold dlyB; rw [decide_eq_false hr]; simp
      have hE : dlyE u p r = 3 := by unfold dlyE; rw [hb]; rfl
      have hQ : dlyQ u p r = 0 := by unfold dlyQ; rw [hb]; rfl
      rw [hE, hQ]
      have y1 : ¬ u < 0 := by omega
      have y2 : ¬ 1073741824 < u := by omega
      by_cases y3 : r < 0
      · clear hE hQ hb hu hr
        go_enter Try.func36, Try.ntmps36
        go_wp2
        go_ret2
        exact ⟨rfl, Kpt.refl _⟩
      · have y4 : 1000000 < r := by omega
        clear hE hQ hb hu hr
        go_enter Try.func36, Try.ntmps36
        go_wp2
        go_ret2
        exact ⟨rfl, Kpt.refl _⟩
  · have hb : dlyB u p r = false := by unfold dlyB; rw [decide_eq_false hu]; simp
    have hE : dlyE u p r = 3 := by unfold dlyE; rw [hb]; rfl
    have hQ : dlyQ u p r = 0 := by unfold dlyQ; rw [hb]; rfl
    rw [hE, hQ]
    by_cases y3 : u < 0
    · clear hE hQ hb hu
      go_enter Try.func36, Try.ntmps36
      go_wp2
      go_ret2
      exact ⟨rfl, Kpt.refl _⟩
    · have y4 : 1073741824 < u := by omega
      clear hE hQ hb hu
      go_enter Try.func36, Try.ntmps36
      go_wp2
      go_ret2
      exact ⟨rfl, Kpt.refl _⟩

end Go.Proofs.Ytmoanndonfmihaa

-- Prices
namespace Go.Proofs.Ytmoanndonfmihaa
open Go.RowKit
set_option linter.unusedVariables false

/-- the first error of two -/
def orE (a b : Int) : Int := if a = 0 then b else a
theorem orE_0 {a b : Int} (h : orE a b = 0) : a = 0 ∧ b = 0 := by
  unfold orE at h
  by_cases h0 : a = 0
  · rw [if_pos h0] at h; exact ⟨h0, h⟩
  · rw [if_neg h0] at h; exact absurd h h0
theorem orE_l {a : Int} (b : Int) (h : a ≠ 0) : orE a b = a := by unfold orE; rw [if_neg h]
theorem orE_r {a b : Int} (h : a = 0) : orE a b = b := by unfold orE; rw [if_pos h]
def prsL : List Int → Int
  | [] => 0
  | p :: ps => if prcB p = true then prsL ps else 3
/-- the error of prices -/
def prsE (ps : List Int) : Int := if ps.length = 20 then prsL ps else 1
theorem prs_0 {ps : List Int} (h : prsL ps = 0) : ∀ p ∈ ps, prcB p = true := by
  induction ps with
  | nil => intro l hl; cases hl
  | cons t ts ih =>
    unfold prsL at h
    split at h
    · next h1 =>
      intro l hl
      rcases List.mem_cons.1 hl with rfl | hl
      · exact h1
      · exact ih h l hl
    · next h1 => omega
theorem prs_bd (ps : List Int) : prsL ps = 0 ∨ prsL ps = 3 := by
  induction ps with
  | nil => exact .inl rfl
  | cons t ts ih =>
    unfold prsL
    split
    · exact ih
    · exact .inr rfl
theorem drop_atI {ps : List Int} {k : Nat} (h : k < ps.length) : ps.drop k = ps.getD k 0 :: ps.drop (k + 1) := by
  rw [List.drop_eq_getElem_cons h, List.getD_eq_getElem?_getD, List.getElem?_eq_getElem h]; rfl


set_option maxHeartbeats 2000000 in
theorem prices_run (v : Value) (ps : List Int) (w : World) (hr : Reads w v ps) :
    Calls Try.prog 32 #[v] w fun e w' => e = .returned (.int .i64 (prsE ps)) ∧ w = w' := by
  obtain ⟨a, cap, rfl, hm, hc⟩ := hr
  unfold maxLen at hm
  have HC := Lib.hid hc
  obtain ⟨n, hn⟩ : ∃ n, n = ps.length := ⟨_, rfl⟩
  by_cases h6 : ps.length = 20
  · have HX : Hid (prsE ps = prsL (ps.drop 0)) := by unfold Hid prsE; rw [if_pos h6]; rfl
    have DR := Lib.hid (fun k (h : k < ps.length) => drop_atI h)
    have DA : Hid (ps.drop n = []) := by unfold Hid; rw [hn, List.drop_length]
    rw [← hn] at HC hm h6 DR ⊢
    have y1 : ((n : Int) != 20) = false := by rw [h6]; rfl
    clear hc hn h6
    go_enter Try.func32, Try.ntmps32
    go_wp2
    go_loop [11] (fun ii => ∃ k : Nat, k ≤ n ∧ ii = .int .i64 (k : Int) ∧ Hid (prsE ps = prsL (ps.drop k))) (fun ii => n - (intOf ii).toNat)
    case atStart => exact ⟨0, Nat.zero_le _, rfl, HX.out⟩
    case round =>
      obtain ⟨k, hk, rfl, HE⟩ := hrel
      by_cases hlt : k < n
      · obtain ⟨g, off, rfl, c0⟩ := HC.out k hlt
        have he := HE.out
        rw [DR.out k hlt] at he
        unfold prsL at he
        clear HE
        generalize ps.getD k 0 = p at *
        by_cases hp : prcB p = true
        · rw [if_pos hp] at he
          have PC := Lib.hid (fun w' => pcheck_ok p hp w')
          have HE2 := Lib.hid he
          clear he hp
          go_wp2_with (go_at_call 80; (with_reducible refine (PC.out _).mono ?_); rintro x w2 ⟨rfl, rfl⟩)
          go_round
          case rel => exact ⟨k + 1, by omega, by go_num, HE2.out⟩
          case measure => simp [intOf]; omega
        · rw [if_neg hp] at he
          have PC := Lib.hid (fun w' => pcheck_no p (by simpa using hp) w')
          have HE2 := Lib.hid he
          clear he hp
          go_wp2_with (go_at_call 80; (with_reducible refine (PC.out _).mono ?_); rintro x w2 ⟨rfl, rfl⟩)
          go_ret
          exact ⟨ret_int HE2.out.symm, rfl⟩
      · obtain rfl : k = n := by omega
        rw [DA.out] at HE
        go_wp2
        go_ret
        exact ⟨ret_int HE.out.symm, rfl⟩
  · have HX : Hid (prsE ps = 1) := by unfold Hid prsE; rw [if_neg h6]
    rw [← hn] at HC hm h6 ⊢
    have y1 : ((n : Int) != 20) = true := bne_iff_ne.2 (by omega)
    clear hc hn
    go_enter Try.func32, Try.ntmps32
    go_wp2
    go_ret
    exact ⟨ret_int HX.out.symm, rfl⟩


end Go.Proofs.Ytmoanndonfmihaa

-- Ten
namespace Go.Proofs.Ytmoanndonfmihaa
open Go.RowKit
set_option linter.unusedVariables false

def tenL (k : Nat) : List Int := List.replicate k 100000 ++ List.replicate (20 - k) 0
theorem tenL_len (k : Nat) (h : k ≤ 20) : (tenL k).length = 20 := by simp [tenL]; omega
set_option maxHeartbeats 400000 in
theorem tenEach_run (w : World) : Calls Try.prog 40 #[] w fun e w' => ∃ v, e = .returned v ∧ Reads w' v (tenL 20) ∧ Kpt w w' := by
  have MK : (Instr.makeSlice 22 (.int .i64 20) (.int .i64 20)).run Try.prog w = .ok (.slice (some ⟨w.heap.size, 0, none⟩) 20 20) (w.alloc (.cells (Array.replicate 20 (Value.int .i64 0)) 3)) := run_zeros w 20 (by omega)
  have R0 : Hid (Row (w.alloc (.cells (Array.replicate 20 (Value.int .i64 0)) 3)) w.heap.size (tenL 0)) := Row.made w 20
  generalize hW : w.alloc (.cells (Array.replicate 20 (Value.int .i64 0)) 3) = W at MK R0
  have KW : Hid (Kpt w W) := by rw [← hW]; exact (Kpt.refl w).alloc _
  clear hW
  go_enter Try.func40, Try.ntmps40
  go_wp2
  go_loopw [2] (fun i wr => ∃ k : Nat, k ≤ 20 ∧ i = .int .i64 k ∧ Hid (Row wr w.heap.size (tenL k)) ∧ Hid (Kpt w wr)) (fun i _ => 20 - (intOf i).toNat)
  case atStart => exact ⟨0, Nat.zero_le _, rfl, R0.out, KW.out⟩
  case round =>
    obtain ⟨k, hk, rfl, HR, HK⟩ := hrel
    clear MK
    by_cases hlt : k < 20
    · have c1 := HR.out.cell (j := k) (by rw [tenL_len k hk]; exact hlt)
      have f1 := HR.out.frozen k
      have hp : (tenL k).set k 100000 = tenL (k + 1) := by
        unfold tenL
        rw [List.set_append_right _ _ (by simp), List.length_replicate, Nat.sub_self, show 20 - k = (20 - (k + 1)) + 1 by omega, List.replicate_succ, List.set_cons_zero, List.replicate_succ', List.append_assoc]; rfl
      have HP := Lib.hid hp
      clear hp
      have k0 : (k : Int) < 20 := by omega
      go_wp2
      go_roundw
      case rel => exact ⟨k + 1, by omega, by go_num, by unfold Hid; rw [← HP.out]; exact HR.out.put k _, HK.out.setCell (Nat.le_refl _) _⟩
      case measure => simp [intOf]; omega
    · obtain rfl : k = 20 := by omega
      have R : Reads wr (.slice (some ⟨w.heap.size, 0, none⟩) 20 20) (tenL 20) := reads_mk (tenL_len 20 (Nat.le_refl _)) (by unfold maxLen; decide) (fun j hj => by rw [Nat.zero_add]; exact HR.out.cell hj)
      have HRR := Lib.hid R
      clear R
      go_wp2
      go_ret
      exact ⟨_, rfl, HRR.out, HK.out⟩

end Go.Proofs.Ytmoanndonfmihaa

-- PenA
namespace Go.Proofs.Ytmoanndonfmihaa
open Go.RowKit
set_option linter.unusedVariables false

def tmEL (l : List Int) : Int := termE (l.getD 0 0) (l.getD 1 0) (l.getD 2 0) (l.getD 3 0)
def tmsE : List (List Int) → Int
  | [] => 0
  | l :: ts => if tmEL l = 0 then tmsE ts else tmEL l
/-- the error of the terms of all classes -/
def clsE (ts : List (List Int)) : Int := if ts.length = 6 then tmsE ts else 1
theorem tms_0 {ts : List (List Int)} (h : tmsE ts = 0) : ∀ l ∈ ts, tmEL l = 0 := by
  induction ts with
  | nil => intro l hl; cases hl
  | cons t ts ih =>
    unfold tmsE at h
    split at h
    · next h1 =>
      intro l hl
      rcases List.mem_cons.1 hl with rfl | hl
      · exact h1
      · exact ih h l hl
    · next h1 => exact absurd h h1
theorem tms_bd (ts : List (List Int)) : tmsE ts = 0 ∨ tmsE ts = 3 := by
  induction ts with
  | nil => exact .inl rfl
  | cons t ts ih =>
    unfold tmsE
    split
    · exact ih
    · next h => exact (term_bd _ _ _ _).imp (fun e => absurd e h) id
set_option maxHeartbeats 2000000 in
theorem cls_run (v : Value) (ts : List (List Int)) (w : World) (hr : ReadsT w v ts) :
    Calls Try.prog 28 #[v] w fun e w' => e = .returned (.int .i64 (clsE ts)) ∧ Kpt w w' := by
  obtain ⟨a, cap, rfl, hm, hc⟩ := hr
  unfold maxLen at hm
  have HC := Lib.hid hc
  obtain ⟨n, hn⟩ : ∃ n, n = ts.length := ⟨_, rfl⟩
  by_cases h6 : ts.length = 6
  · have HX : Hid (clsE ts = tmsE (ts.drop 0)) := by unfold Hid clsE; rw [if_pos h6]; rfl
    have DR := Lib.hid (fun k (h : k < ts.length) => drop_at h)
    have DA : Hid (ts.drop n = []) := by unfold Hid; rw [hn, List.drop_length]
    rw [← hn] at HC hm h6 DR ⊢
    have y1 : ((n : Int) != 6) = false := by rw [h6]; rfl
    clear hc hn h6
    go_enter Try.func28, Try.ntmps28
    go_wp2
    go_loopw [11] (fun ii wr => ∃ k : Nat, k ≤ n ∧ ii = .int .i64 (k : Int) ∧ Hid (clsE ts = tmsE (ts.drop k)) ∧ Hid (Kpt w wr)) (fun ii _ => n - (intOf ii).toNat)
    case atStart => exact ⟨0, Nat.zero_le _, rfl, HX.out, Kpt.refl _⟩
    case round =>
      obtain ⟨k, hk, rfl, HE, HK⟩ := hrel
      by_cases hlt : k < n
      · obtain ⟨g, off, rfl, hfl⟩ := HC.out k hlt
        have he := HE.out
        rw [DR.out k hlt] at he
        unfold tmsE tmEL at he
        have c0 : wr.cell? ⟨g, off + k * 4, none⟩ = _ := HK.out.cell (hfl 0 (by omega))
        have c1 : wr.cell? ⟨g, off + k * 4 + 1, none⟩ = _ := HK.out.cell (hfl 1 (by omega))
        have c2 : wr.cell? ⟨g, off + k * 4 + 2, none⟩ = _ := HK.out.cell (hfl 2 (by omega))
        have c3 : wr.cell? ⟨g, off + k * 4 + 3, none⟩ = _ := HK.out.cell (hfl 3 (by omega))
        clear hfl HE
        generalize (ts.getD k []).getD 0 0 = te at *
        generalize (ts.getD k []).getD 1 0 = tb at *
        generalize (ts.getD k []).getD 2 0 = td at *
        generalize (ts.getD k []).getD 3 0 = tr at *
        have TR := Lib.hid (fun w' => term_run te tb td tr w')
        by_cases hE : termE te tb td tr = 0
        · rw [if_pos hE] at he
          rw [hE] at TR
          have HE2 := Lib.hid he
          clear he hE
          go_wp2_with (go_at_call 79; (with_reducible refine (TR.out _).mono ?_); rintro x w2 ⟨rfl, k2⟩; have K2 : Hid (Kpt w w2) := ktr (HK.out.alloc _) k2; clear k2)
          go_roundw
          case rel => exact ⟨k + 1, by omega, by go_num, HE2.out, K2.out⟩
          case measure => simp [intOf]; omega
        · rw [if_neg hE] at he
          have z0 : (termE te tb td tr != 0) = true := bne_iff_ne.2 hE
          have HE2 := Lib.hid he
          clear he hE
          generalize termE te tb td tr = E at *
          go_wp2_with (go_at_call 79; (with_reducible refine (TR.out _).mono ?_); rintro x w2 ⟨rfl, k2⟩; have K2 : Hid (Kpt w w2) := ktr (HK.out.alloc _) k2; clear k2)
          go_ret
          exact ⟨ret_int HE2.out.symm, K2.out⟩
      · obtain rfl : k = n := by omega
        rw [DA.out] at HE
        go_wp2
        go_ret
        exact ⟨ret_int HE.out.symm, HK.out⟩
  · have HX : Hid (clsE ts = 1) := by unfold Hid clsE; rw [if_neg h6]
    rw [← hn] at HC hm h6 ⊢
    have y1 : ((n : Int) != 6) = true := bne_iff_ne.2 (by omega)
    clear hc hn
    go_enter Try.func28, Try.ntmps28
    go_wp2
    go_ret
    exact ⟨ret_int HX.out.symm, Kpt.refl _⟩

/-- the error of a day to be asked about -/
def tdyE (W : Int) (hs : List Int) (q : Int) : Int := if daysE W hs [q] = 0 then (if isR W hs q = true then 0 else 4) else daysE W hs [q]
set_option maxHeartbeats 2000000 in
theorem today_run (W q : Int) (v : Value) (hs : List Int) (w : World) (hr : Reads w v hs) (hf : Fits hs) :
    Calls Try.prog 34 #[calV W v, .int .i64 q] w fun e w' => e = .returned (.int .i64 (tdyE W hs q)) ∧ Kpt w w' := by
  have IS := Lib.hid (fun w' (k : Kpt w w') => is_any W q v hs w' (hr.kpt k) hf)
  have K1 : Hid (Kpt w (w.alloc (.cells #[.int .i64 W, v] 24))) := (Kpt.refl w).alloc _
  obtain ⟨a, cap, rfl, -⟩ := hr
  unfold calV at *
  unfold tdyE
  by_cases h : daysE W hs [q] = 0
  · rw [if_pos h]
    rw [h] at IS
    clear h
    cases hb : isR W hs q with
    | true =>
      rw [hb] at IS
      rw [if_pos rfl]
      go_enter Try.func34, Try.ntmps34
      go_wp2_with (go_at_call 81; (with_reducible refine (IS.out _ K1.out).mono ?_); rintro x w1 ⟨rfl, k1⟩; have K2 := Lib.hid (ktr K1.out k1); clear k1)
      go_ret
      exact ⟨rfl, K2.out⟩
    | false =>
      rw [hb] at IS
      rw [if_neg (by decide)]
      go_enter Try.func34, Try.ntmps34
      go_wp2_with (go_at_call 81; (with_reducible refine (IS.out _ K1.out).mono ?_); rintro x w1 ⟨rfl, k1⟩; have K2 := Lib.hid (ktr K1.out k1); clear k1)
      go_ret
      exact ⟨rfl, K2.out⟩
  · rw [if_neg h]
    have z0 : (daysE W hs [q] != 0) = true := bne_iff_ne.2 h
    clear h
    generalize daysE W hs [q] = E at *
    go_enter Try.func34, Try.ntmps34
    go_wp2_with (go_at_call 81; (with_reducible refine (IS.out _ K1.out).mono ?_); rintro x w1 ⟨rfl, k1⟩; have K2 := Lib.hid (ktr K1.out k1); clear k1)
    go_ret
    exact ⟨rfl, K2.out⟩

end Go.Proofs.Ytmoanndonfmihaa

-- PenM
namespace Go.Proofs.Ytmoanndonfmihaa
open Go.RowKit
set_option linter.unusedVariables false

/-- the error of a fail at its terms; the stage it is in; what is open of it -/
def lkL (W : Int) (hs tl l : List Int) (q : Int) : Int := lkE W hs (tl.getD 0 0) (tl.getD 1 0) (tl.getD 2 0) (tl.getD 3 0) (l.getD 0 0) (l.getD 1 0) (l.getD 2 0) (l.getD 3 0) (l.getD 4 0) (l.getD 5 0) (l.getD 6 0) (l.getD 7 0) (l.getD 8 0) (l.getD 9 0) q
def stL (W : Int) (hs tl l : List Int) (q : Int) : Int := stgR W hs (tl.getD 0 0) (tl.getD 1 0) (tl.getD 2 0) (tl.getD 3 0) (l.getD 0 0) (l.getD 1 0) (l.getD 2 0) (l.getD 3 0) (l.getD 4 0) (l.getD 5 0) (l.getD 6 0) (l.getD 7 0) (l.getD 8 0) (l.getD 9 0) q
def opL (l : List Int) : Int := openV (l.getD 0 0) (l.getD 1 0) (l.getD 2 0) (l.getD 3 0) (l.getD 4 0) (l.getD 5 0) (l.getD 6 0) (l.getD 7 0) (l.getD 8 0) (l.getD 9 0)
/-- what a fail costs at these terms and that price -/
def csL (W : Int) (hs tl l : List Int) (p q : Int) : Int := if stL W hs tl l q = 0 ∨ stL W hs tl l q = 5 then 0 else dlyQ (opL l) p (tl.getD 3 0)
def csV (W : Int) (hs tl l : List Int) (p q : Int) : Int := if lkL W hs tl l q = 0 then csL W hs tl l p q else 0
theorem lkL_fl {W : Int} {hs tl l : List Int} {q : Int} (h : lkL W hs tl l q = 0) : failEL l = 0 := (lk_0 h).2.1
theorem fail_bd {i f t c p d u x b y : Int} (h : failE i f t c p d u x b y = 0) : (1 ≤ u ∧ u ≤ 1073741824) ∧ (0 ≤ x ∧ 0 ≤ b ∧ 0 ≤ y ∧ x + b + y ≤ u) ∧ (0 ≤ c ∧ c ≤ 5) ∧ (1 ≤ p ∧ p ≤ 20) ∧ (0 ≤ f ∧ f ≤ 30) ∧ (0 ≤ t ∧ t ≤ 30) := by
  obtain ⟨h1, -, h3, h4⟩ := fail_0 h
  obtain ⟨-, -, h5, h6, h7, h8⟩ := fdue_t h1
  obtain ⟨g1, g2, g3⟩ := ftk_t h3
  refine ⟨h8, ⟨g1.1, g2.1, g3.1, by omega⟩, h6, h7, h5⟩
theorem op_bd {l : List Int} (h : failEL l = 0) : 0 ≤ opL l ∧ opL l ≤ 1073741824 := by
  have h' := fail_bd h
  unfold failEL at h
  unfold opL openV
  rw [if_pos h]
  omega
/-- the terms of a fail's class, the price of its paper -/
def tlOf (ts : List (List Int)) (l : List Int) : List Int := ts.getD (l.getD 3 0).toNat []
def prOf (ps : List Int) (l : List Int) : Int := ps.getD (l.getD 4 0 - 1).toNat 0
def pdE (W : Int) (hs : List Int) (ts : List (List Int)) (q : Int) : List (List Int) → Int
  | [] => 0
  | l :: fs => orE (lkL W hs (tlOf ts l) l q) (pdE W hs ts q fs)
def dueL (W : Int) (hs : List Int) (ts : List (List Int)) (ps : List Int) (q : Int) : List (List Int) → List (Int × Int × Int)
  | [] => []
  | l :: fs => if 0 < csL W hs (tlOf ts l) l (prOf ps l) q then (l.getD 1 0, l.getD 2 0, csL W hs (tlOf ts l) l (prOf ps l) q) :: dueL W hs ts ps q fs else dueL W hs ts ps q fs
theorem pdE_app {W : Int} {hs : List Int} {ts : List (List Int)} {q : Int} (a b : List (List Int)) : pdE W hs ts q (a ++ b) = orE (pdE W hs ts q a) (pdE W hs ts q b) := by
  induction a with
  | nil => exact (orE_r rfl).symm
  | cons l a ih =>
    rw [List.cons_append, pdE, pdE, ih]
    unfold orE
    split <;> rfl
theorem dueL_app {W : Int} {hs : List Int} {ts : List (List Int)} {ps : List Int} {q : Int} (a b : List (List Int)) : dueL W hs ts ps q (a ++ b) = dueL W hs ts ps q a ++ dueL W hs ts ps q b := by
  induction a with
  | nil => rfl
  | cons l a ih =>
    rw [List.cons_append, dueL, dueL, ih]
    split <;> rfl
/-- the error ahead of the fails themselves -/
def preE (W : Int) (hs : List Int) (ts fs : List (List Int)) (ps : List Int) (q : Int) : Int := orE (calE W hs) (orE (clsE ts) (orE (checksE fs) (orE (prsE ps) (tdyE W hs q))))
def dayE (W : Int) (hs : List Int) (ts fs : List (List Int)) (ps : List Int) (q : Int) : Int := orE (preE W hs ts fs ps q) (pdE W hs ts q fs)
def dayD (W : Int) (hs : List Int) (ts fs : List (List Int)) (ps : List Int) (q : Int) : List (Int × Int × Int) := if dayE W hs ts fs ps q = 0 then dueL W hs ts ps q fs else []
theorem dueL_len {W : Int} {hs : List Int} {ts : List (List Int)} {ps : List Int} {q : Int} (fs : List (List Int)) : (dueL W hs ts ps q fs).length ≤ fs.length := by
  induction fs with
  | nil => exact Nat.le_refl _
  | cons l fs ih =>
    rw [dueL]
    split
    · simpa using ih
    · simp only [List.length_cons]; omega

end Go.Proofs.Ytmoanndonfmihaa

-- PenC
namespace Go.Proofs.Ytmoanndonfmihaa
open Go.RowKit
set_option linter.unusedVariables false

set_option maxRecDepth 100000 in
set_option maxHeartbeats 4000000 in
theorem cost_bad (W te tb td tr i f t c p d u x b y z q : Int) (v : Value) (hs : List Int) (w : World) (hr : Reads w v hs) (hf : Fits hs) (E : Int) (h : (lkE W hs te tb td tr i f t c p d u x b y q) = E) (h0 : E ≠ 0) :
    Calls Try.prog 35 #[calV W v, .agg #[.int .i64 te, .int .i64 tb, .int .i64 td, .int .i64 tr], .agg #[.int .i64 i, .int .i64 f, .int .i64 t, .int .i64 c, .int .i64 p, .int .i64 d, .int .i64 u, .int .i64 x, .int .i64 b, .int .i64 y], .int .i64 z, .int .i64 q] w fun e w' => e = .returned (.tuple #[.int .i64 0, .int .i64 E]) ∧ Kpt w w' := by
  have SG := Lib.hid (fun w' (k : Kpt w w') => stage_any W te tb td tr i f t c p d u x b y q v hs w' (hr.kpt k) hf)
  rw [h] at SG
  have z0 : (E != 0) = true := bne_iff_ne.2 h0
  have K0 : Hid (Kpt w (((w.alloc (.cells #[.int .i64 W, v] 24)).alloc (.cells #[.int .i64 te, .int .i64 tb, .int .i64 td, .int .i64 tr] 37)).alloc (.cells #[.int .i64 i, .int .i64 f, .int .i64 t, .int .i64 c, .int .i64 p, .int .i64 d, .int .i64 u, .int .i64 x, .int .i64 b, .int .i64 y] 39))) := (((Kpt.refl w).alloc _).alloc _).alloc _
  obtain ⟨a, cap, rfl, -⟩ := hr
  unfold calV at *
  clear h h0
  generalize (stgR W hs te tb td tr i f t c p d u x b y q) = S at *
  go_enter Try.func35, Try.ntmps35
  go_wp2_with (first
    | (go_at_call 12; (with_reducible refine (SG.out _ K0.out).mono ?_); rintro e w1 ⟨rfl, k1⟩; have K1 := Lib.hid (ktr K0.out k1); clear k1))
  go_ret2
  exact ⟨rfl, K1.out⟩

set_option maxRecDepth 100000 in
set_option maxHeartbeats 4000000 in
theorem cost_nil (W te tb td tr i f t c p d u x b y z q : Int) (v : Value) (hs : List Int) (w : World) (hr : Reads w v hs) (hf : Fits hs) (h : (lkE W hs te tb td tr i f t c p d u x b y q) = 0) (hs0 : (stgR W hs te tb td tr i f t c p d u x b y q) = 0) :
    Calls Try.prog 35 #[calV W v, .agg #[.int .i64 te, .int .i64 tb, .int .i64 td, .int .i64 tr], .agg #[.int .i64 i, .int .i64 f, .int .i64 t, .int .i64 c, .int .i64 p, .int .i64 d, .int .i64 u, .int .i64 x, .int .i64 b, .int .i64 y], .int .i64 z, .int .i64 q] w fun e w' => e = .returned (.tuple #[.int .i64 0, .int .i64 0]) ∧ Kpt w w' := by
  have SG := Lib.hid (fun w' (k : Kpt w w') => stage_any W te tb td tr i f t c p d u x b y q v hs w' (hr.kpt k) hf)
  rw [h, hs0] at SG
  have K0 : Hid (Kpt w (((w.alloc (.cells #[.int .i64 W, v] 24)).alloc (.cells #[.int .i64 te, .int .i64 tb, .int .i64 td, .int .i64 tr] 37)).alloc (.cells #[.int .i64 i, .int .i64 f, .int .i64 t, .int .i64 c, .int .i64 p, .int .i64 d, .int .i64 u, .int .i64 x, .int .i64 b, .int .i64 y] 39))) := (((Kpt.refl w).alloc _).alloc _).alloc _
  obtain ⟨a, cap, rfl, -⟩ := hr
  unfold calV at *
  clear h hs0
  go_enter Try.func35, Try.ntmps35
  go_wp2_with (first
    | (go_at_call 12; (with_reducible refine (SG.out _ K0.out).mono ?_); rintro e w1 ⟨rfl, k1⟩; have K1 := Lib.hid (ktr K0.out k1); clear k1))
  go_ret2
  exact ⟨rfl, K1.out⟩

set_option maxRecDepth 100000 in
set_option maxHeartbeats 4000000 in
theorem cost_done (W te tb td tr i f t c p d u x b y z q : Int) (v : Value) (hs : List Int) (w : World) (hr : Reads w v hs) (hf : Fits hs) (h : (lkE W hs te tb td tr i f t c p d u x b y q) = 0) (hs0 : (stgR W hs te tb td tr i f t c p d u x b y q) = 5) :
    Calls Try.prog 35 #[calV W v, .agg #[.int .i64 te, .int .i64 tb, .int .i64 td, .int .i64 tr], .agg #[.int .i64 i, .int .i64 f, .int .i64 t, .int .i64 c, .int .i64 p, .int .i64 d, .int .i64 u, .int .i64 x, .int .i64 b, .int .i64 y], .int .i64 z, .int .i64 q] w fun e w' => e = .returned (.tuple #[.int .i64 0, .int .i64 0]) ∧ Kpt w w' := by
  have SG := Lib.hid (fun w' (k : Kpt w w') => stage_any W te tb td tr i f t c p d u x b y q v hs w' (hr.kpt k) hf)
  rw [h, hs0] at SG
  have K0 : Hid (Kpt w (((w.alloc (.cells #[.int .i64 W, v] 24)).alloc (.cells #[.int .i64 te, .int .i64 tb, .int .i64 td, .int .i64 tr] 37)).alloc (.cells #[.int .i64 i, .int .i64 f, .int .i64 t, .int .i64 c, .int .i64 p, .int .i64 d, .int .i64 u, .int .i64 x, .int .i64 b, .int .i64 y] 39))) := (((Kpt.refl w).alloc _).alloc _).alloc _
  obtain ⟨a, cap, rfl, -⟩ := hr
  unfold calV at *
  clear h hs0
  go_enter Try.func35, Try.ntmps35
  go_wp2_with (first
    | (go_at_call 12; (with_reducible refine (SG.out _ K0.out).mono ?_); rintro e w1 ⟨rfl, k1⟩; have K1 := Lib.hid (ktr K0.out k1); clear k1))
  go_ret2
  exact ⟨rfl, K1.out⟩

set_option maxRecDepth 100000 in
set_option maxHeartbeats 4000000 in
theorem cost_ok (W te tb td tr i f t c p d u x b y z q : Int) (v : Value) (hs : List Int) (w : World) (hr : Reads w v hs) (hf : Fits hs) (h : (lkE W hs te tb td tr i f t c p d u x b y q) = 0) (h0 : (stgR W hs te tb td tr i f t c p d u x b y q) ≠ 0) (h5 : (stgR W hs te tb td tr i f t c p d u x b y q) ≠ 5) (hp : prcB z = true) :
    Calls Try.prog 35 #[calV W v, .agg #[.int .i64 te, .int .i64 tb, .int .i64 td, .int .i64 tr], .agg #[.int .i64 i, .int .i64 f, .int .i64 t, .int .i64 c, .int .i64 p, .int .i64 d, .int .i64 u, .int .i64 x, .int .i64 b, .int .i64 y], .int .i64 z, .int .i64 q] w fun e w' => e = .returned (.tuple #[.int .i64 (dlyQ (openV i f t c p d u x b y) z tr), .int .i64 0]) ∧ Kpt w w' := by
  have SG := Lib.hid (fun w' (k : Kpt w w') => stage_any W te tb td tr i f t c p d u x b y q v hs w' (hr.kpt k) hf)
  rw [h] at SG
  have h2 := (lk_0 h).2.1
  have bd := fail_bd h2
  have bc := ct_0 (lk_0 h).1
  have hop : (openV i f t c p d u x b y) = u - x - b - y := by unfold openV; rw [if_pos h2]
  have hde : dlyE (openV i f t c p d u x b y) z tr = 0 := by
    unfold dlyE
    rw [if_pos (dly_mk (by omega) bc.2.2.2.2 (prc_t hp))]
  clear hop
  have OX := Lib.hid (fun w' => fopenX_run i f t c p d u x b y w')
  rw [h2] at OX
  have DY := Lib.hid (fun w' => daily_any (openV i f t c p d u x b y) z tr w')
  rw [hde] at DY
  have K0 : Hid (Kpt w (((w.alloc (.cells #[.int .i64 W, v] 24)).alloc (.cells #[.int .i64 te, .int .i64 tb, .int .i64 td, .int .i64 tr] 37)).alloc (.cells #[.int .i64 i, .int .i64 f, .int .i64 t, .int .i64 c, .int .i64 p, .int .i64 d, .int .i64 u, .int .i64 x, .int .i64 b, .int .i64 y] 39))) := (((Kpt.refl w).alloc _).alloc _).alloc _
  have BT : Hid (Blk (((w.alloc (.cells #[.int .i64 W, v] 24)).alloc (.cells #[.int .i64 te, .int .i64 tb, .int .i64 td, .int .i64 tr] 37)).alloc (.cells #[.int .i64 i, .int .i64 f, .int .i64 t, .int .i64 c, .int .i64 p, .int .i64 d, .int .i64 u, .int .i64 x, .int .i64 b, .int .i64 y] 39)) (w.heap.size + 1) #[.int .i64 te, .int .i64 tb, .int .i64 td, .int .i64 tr] 37) := by
    have := (Blk.made (w.alloc (.cells #[.int .i64 W, v] 24)) #[.int .i64 te, .int .i64 tb, .int .i64 td, .int .i64 tr] 37).alloc (.cells #[.int .i64 i, .int .i64 f, .int .i64 t, .int .i64 c, .int .i64 p, .int .i64 d, .int .i64 u, .int .i64 x, .int .i64 b, .int .i64 y] 39)
    simp only [World.size_alloc] at this
    exact this
  have BF : Hid (Blk (((w.alloc (.cells #[.int .i64 W, v] 24)).alloc (.cells #[.int .i64 te, .int .i64 tb, .int .i64 td, .int .i64 tr] 37)).alloc (.cells #[.int .i64 i, .int .i64 f, .int .i64 t, .int .i64 c, .int .i64 p, .int .i64 d, .int .i64 u, .int .i64 x, .int .i64 b, .int .i64 y] 39)) (w.heap.size + 2) #[.int .i64 i, .int .i64 f, .int .i64 t, .int .i64 c, .int .i64 p, .int .i64 d, .int .i64 u, .int .i64 x, .int .i64 b, .int .i64 y] 39) := by
    have := Blk.made ((w.alloc (.cells #[.int .i64 W, v] 24)).alloc (.cells #[.int .i64 te, .int .i64 tb, .int .i64 td, .int .i64 tr] 37)) #[.int .i64 i, .int .i64 f, .int .i64 t, .int .i64 c, .int .i64 p, .int .i64 d, .int .i64 u, .int .i64 x, .int .i64 b, .int .i64 y] 39
    simp only [World.size_alloc] at this
    exact this
  obtain ⟨a, cap, rfl, -⟩ := hr
  unfold calV at *
  clear h hde h2 hp bd bc
  generalize (stgR W hs te tb td tr i f t c p d u x b y q) = S at *
  have y0 : (S == 0) = false := by simpa using h0
  have y5 : (S == 5) = false := by simpa using h5
  have x0 : decide (S = 0) = false := by simpa using h0
  have x5 : decide (S = 5) = false := by simpa using h5
  have n0 : (S != 0) = true := by simpa using h0
  have n5 : (S != 5) = true := by simpa using h5
  clear h0 h5
  generalize dlyQ (openV i f t c p d u x b y) z tr = D at *
  generalize (openV i f t c p d u x b y) = o at *
  go_enter Try.func35, Try.ntmps35
  go_wp2_with (first
    | (go_at_call 12; (with_reducible refine (SG.out _ K0.out).mono ?_); rintro e w1 ⟨rfl, k1⟩; have K1 := Lib.hid (ktr K0.out k1); have BT := Lib.hid (BT.out.kpt k1); have BF := Lib.hid (BF.out.kpt k1); clear k1)
    | (go_at_call 15; (with_reducible refine (OX.out _).mono ?_); rintro e w2 ⟨rfl, k1⟩; have K2 := Lib.hid (ktr K1.out k1); have BT := Lib.hid (BT.out.kpt k1); have a0 : World.cell? w2 ⟨w.heap.size + 1, 3, none⟩ = some (.int .i64 tr) := BT.out.cell 3; clear k1)
    | (go_at_call 36; (with_reducible refine (DY.out _).mono ?_); rintro e w4 ⟨rfl, k1⟩; have K4 := Lib.hid (ktr K2.out k1); clear k1)
    | (refine wp_loadF rfl (.tmp 7) rfl (w.heap.size + 2) _ rfl BF.out rfl ?_))
  go_ret2
  exact ⟨rfl, K4.out⟩

/-- what a fail costs, whatever it is -/
theorem cost_all (W te tb td tr i f t c p d u x b y z q : Int) (v : Value) (hs : List Int) (w : World) (hr : Reads w v hs) (hf : Fits hs) (hp : prcB z = true) :
    Calls Try.prog 35 #[calV W v, .agg #[.int .i64 te, .int .i64 tb, .int .i64 td, .int .i64 tr], .agg #[.int .i64 i, .int .i64 f, .int .i64 t, .int .i64 c, .int .i64 p, .int .i64 d, .int .i64 u, .int .i64 x, .int .i64 b, .int .i64 y], .int .i64 z, .int .i64 q] w fun e w' => e = .returned (.tuple #[.int .i64 (if (lkE W hs te tb td tr i f t c p d u x b y q) = 0 then (if (stgR W hs te tb td tr i f t c p d u x b y q) = 0 ∨ (stgR W hs te tb td tr i f t c p d u x b y q) = 5 then 0 else dlyQ (openV i f t c p d u x b y) z tr) else 0), .int .i64 (lkE W hs te tb td tr i f t c p d u x b y q)]) ∧ Kpt w w' := by
  by_cases h : (lkE W hs te tb td tr i f t c p d u x b y q) = 0
  · rw [if_pos h, h]
    by_cases h0 : (stgR W hs te tb td tr i f t c p d u x b y q) = 0
    · rw [if_pos (Or.inl h0)]; exact cost_nil W te tb td tr i f t c p d u x b y z q v hs w hr hf h h0
    · by_cases h5 : (stgR W hs te tb td tr i f t c p d u x b y q) = 5
      · rw [if_pos (Or.inr h5)]; exact cost_done W te tb td tr i f t c p d u x b y z q v hs w hr hf h h5
      · rw [if_neg (by omega)]; exact cost_ok W te tb td tr i f t c p d u x b y z q v hs w hr hf h h0 h5 hp
  · rw [if_neg h]; exact cost_bad W te tb td tr i f t c p d u x b y z q v hs w hr hf _ rfl h

end Go.Proofs.Ytmoanndonfmihaa

-- PenF
namespace Go.Proofs.Ytmoanndonfmihaa
open Go.RowKit
set_option linter.unusedVariables false

theorem clo1 (W : Int) (v : Value) (hs : List Int) (B : Nat) (w : World) (hb : Blk w B #[.int .i64 W, v] 24) (hr : Reads w v hs) (hf : Fits hs) :
    Calls Try.prog 25 #[.pointer (some ⟨B, 0, none⟩)] w fun e w' => e = .returned (.int .i64 (calE W hs)) ∧ Kpt w w' := by
  have CC := Lib.hid (fun w' (k : Kpt w w') => calCheck_any W v hs w' (hr.kpt k) hf)
  have a0 : w.cell? ⟨B, 0, none⟩ = some (.int .i64 W) := hb.cell 0
  have a1 : w.cell? ⟨B, 1, none⟩ = some v := hb.cell 1
  obtain ⟨a, cap, rfl, -⟩ := hr
  unfold calV at *
  clear hb
  go_enter Try.func25, Try.ntmps25
  go_wp2_with (go_at_call 26; (with_reducible refine (CC.out _ (Kpt.refl _)).mono ?_); rintro x w1 ⟨rfl, k1⟩)
  go_ret
  exact ⟨rfl, k1.kpt⟩
theorem clo2 (v : Value) (ts : List (List Int)) (B : Nat) (w : World) (hb : Blk w B #[v] 25) (hr : ReadsT w v ts) :
    Calls Try.prog 27 #[.pointer (some ⟨B, 0, none⟩)] w fun e w' => e = .returned (.int .i64 (clsE ts)) ∧ Kpt w w' := by
  have CC := Lib.hid (cls_run v ts w hr)
  have a0 : w.cell? ⟨B, 0, none⟩ = some v := hb.cell 0
  obtain ⟨a, cap, rfl, -⟩ := hr
  clear hb
  go_enter Try.func27, Try.ntmps27
  go_wp2_with (go_at_call 28; (with_reducible refine CC.out.mono ?_); rintro x w1 ⟨rfl, k1⟩)
  go_ret
  exact ⟨rfl, k1⟩
theorem clo3 (v : Value) (fs : List (List Int)) (B : Nat) (w : World) (hb : Blk w B #[v] 26) (hr : ReadsF w v fs) :
    Calls Try.prog 29 #[.pointer (some ⟨B, 0, none⟩)] w fun e w' => e = .returned (.int .i64 (checksE fs)) ∧ Kpt w w' := by
  have CC := Lib.hid (checks_run v fs w hr)
  have a0 : w.cell? ⟨B, 0, none⟩ = some v := hb.cell 0
  obtain ⟨a, cap, rfl, -⟩ := hr
  clear hb
  go_enter Try.func29, Try.ntmps29
  go_wp2_with (go_at_call 30; (with_reducible refine CC.out.mono ?_); rintro x w1 ⟨rfl, k1⟩)
  go_ret
  exact ⟨rfl, k1⟩
theorem clo4 (v : Value) (ps : List Int) (B : Nat) (w : World) (hb : Blk w B #[v] 22) (hr : Reads w v ps) :
    Calls Try.prog 31 #[.pointer (some ⟨B, 0, none⟩)] w fun e w' => e = .returned (.int .i64 (prsE ps)) ∧ Kpt w w' := by
  have CC := Lib.hid (prices_run v ps w hr)
  have a0 : w.cell? ⟨B, 0, none⟩ = some v := hb.cell 0
  obtain ⟨a, cap, rfl, -⟩ := hr
  clear hb
  go_enter Try.func31, Try.ntmps31
  go_wp2_with (go_at_call 32; (with_reducible refine CC.out.mono ?_); rintro x w1 ⟨rfl, k1⟩)
  go_ret
  exact ⟨rfl, k1 ▸ Kpt.refl _⟩
theorem clo5 (W q : Int) (v : Value) (hs : List Int) (B D : Nat) (w : World) (hb : Blk w B #[.int .i64 W, v] 24) (hd : Blk w D #[.int .i64 q] 3) (hr : Reads w v hs) (hf : Fits hs) :
    Calls Try.prog 33 #[.pointer (some ⟨B, 0, none⟩), .pointer (some ⟨D, 0, none⟩)] w fun e w' => e = .returned (.int .i64 (tdyE W hs q)) ∧ Kpt w w' := by
  have CC := Lib.hid (fun w' (k : Kpt w w') => today_run W q v hs w' (hr.kpt k) hf)
  have a0 : w.cell? ⟨B, 0, none⟩ = some (.int .i64 W) := hb.cell 0
  have a1 : w.cell? ⟨B, 1, none⟩ = some v := hb.cell 1
  have a2 : w.cell? ⟨D, 0, none⟩ = some (.int .i64 q) := hd.cell 0
  obtain ⟨a, cap, rfl, -⟩ := hr
  unfold calV at *
  clear hb hd
  go_enter Try.func33, Try.ntmps33
  go_wp2_with (go_at_call 34; (with_reducible refine (CC.out _ (Kpt.refl _)).mono ?_); rintro x w1 ⟨rfl, k1⟩)
  go_ret
  exact ⟨rfl, k1⟩

/-- the first error of those from the k-th on -/
def tl5 (E1 E2 E3 E4 E5 : Int) : Nat → Int
  | 0 => orE E1 (orE E2 (orE E3 (orE E4 E5)))
  | 1 => orE E2 (orE E3 (orE E4 E5))
  | 2 => orE E3 (orE E4 E5)
  | 3 => orE E4 E5
  | 4 => E5
  | _ => 0
set_option maxHeartbeats 4000000 in
theorem first_run (g cap B1 B2 B3 B4 B5 : Nat) (E1 E2 E3 E4 E5 : Int) (w : World)
    (c0 : w.cell? ⟨g, 0, none⟩ = some (.func (.func 25) #[] #[.pointer (some ⟨B1, 0, none⟩)]))
    (c1 : w.cell? ⟨g, 1, none⟩ = some (.func (.func 27) #[] #[.pointer (some ⟨B2, 0, none⟩)]))
    (c2 : w.cell? ⟨g, 2, none⟩ = some (.func (.func 29) #[] #[.pointer (some ⟨B3, 0, none⟩)]))
    (c3 : w.cell? ⟨g, 3, none⟩ = some (.func (.func 31) #[] #[.pointer (some ⟨B4, 0, none⟩)]))
    (c4 : w.cell? ⟨g, 4, none⟩ = some (.func (.func 33) #[] #[.pointer (some ⟨B1, 0, none⟩), .pointer (some ⟨B5, 0, none⟩)]))
    (H0 : ∀ w', Kpt w w' → Calls Try.prog 25 #[.pointer (some ⟨B1, 0, none⟩)] w' fun e w'' => e = .returned (.int .i64 E1) ∧ Kpt w' w'')
    (H1 : ∀ w', Kpt w w' → Calls Try.prog 27 #[.pointer (some ⟨B2, 0, none⟩)] w' fun e w'' => e = .returned (.int .i64 E2) ∧ Kpt w' w'')
    (H2 : ∀ w', Kpt w w' → Calls Try.prog 29 #[.pointer (some ⟨B3, 0, none⟩)] w' fun e w'' => e = .returned (.int .i64 E3) ∧ Kpt w' w'')
    (H3 : ∀ w', Kpt w w' → Calls Try.prog 31 #[.pointer (some ⟨B4, 0, none⟩)] w' fun e w'' => e = .returned (.int .i64 E4) ∧ Kpt w' w'')
    (H4 : ∀ w', Kpt w w' → Calls Try.prog 33 #[.pointer (some ⟨B1, 0, none⟩), .pointer (some ⟨B5, 0, none⟩)] w' fun e w'' => e = .returned (.int .i64 E5) ∧ Kpt w' w'')
    : Calls Try.prog 24 #[.slice (some ⟨g, 0, none⟩) 5 cap] w fun e w' => e = .returned (.int .i64 (orE E1 (orE E2 (orE E3 (orE E4 E5))))) ∧ Kpt w w' := by
  have C0 := Lib.hid c0
  have F0 := Lib.hid H0
  clear c0 H0
  have C1 := Lib.hid c1
  have F1 := Lib.hid H1
  clear c1 H1
  have C2 := Lib.hid c2
  have F2 := Lib.hid H2
  clear c2 H2
  have C3 := Lib.hid c3
  have F3 := Lib.hid H3
  clear c3 H3
  have C4 := Lib.hid c4
  have F4 := Lib.hid H4
  clear c4 H4
  have HX : Hid (orE E1 (orE E2 (orE E3 (orE E4 E5))) = tl5 E1 E2 E3 E4 E5 0) := rfl
  generalize orE E1 (orE E2 (orE E3 (orE E4 E5))) = X at HX ⊢
  go_enter Try.func24, Try.ntmps24
  go_wp2
  go_loopw [8] (fun ii wr => ∃ z : Int, ii = .int .i64 z ∧ ((z = 0 ∧ Hid (X = tl5 E1 E2 E3 E4 E5 0)) ∨ (z = 1 ∧ Hid (X = tl5 E1 E2 E3 E4 E5 1)) ∨ (z = 2 ∧ Hid (X = tl5 E1 E2 E3 E4 E5 2)) ∨ (z = 3 ∧ Hid (X = tl5 E1 E2 E3 E4 E5 3)) ∨ (z = 4 ∧ Hid (X = tl5 E1 E2 E3 E4 E5 4)) ∨ (z = 5 ∧ Hid (X = tl5 E1 E2 E3 E4 E5 5))) ∧ Hid (Kpt w wr)) (fun ii _ => 5 - (intOf ii).toNat)
  case atStart => exact ⟨0, rfl, .inl ⟨rfl, HX⟩, Kpt.refl _⟩
  case round =>
    obtain ⟨z, rfl, HD, HK⟩ := hrel
    rcases HD with ⟨rfl, HE⟩ | ⟨rfl, HE⟩ | ⟨rfl, HE⟩ | ⟨rfl, HE⟩ | ⟨rfl, HE⟩ | ⟨rfl, HE⟩
    · have cc : wr.cell? ⟨g, 0, none⟩ = _ := HK.out.cell C0.out
      have FC := Lib.hid (fun w' (k : Kpt wr w') => F0.out w' (ktr HK.out k))
      by_cases hE : E1 = 0
      · have HE2 : Hid (X = tl5 E1 E2 E3 E4 E5 1) := HE.out.trans (orE_r hE)
        rw [hE] at FC
        clear hE HE
        go_wp2_with (go_at_call 25; (with_reducible refine (FC.out _ (Kpt.refl _)).mono ?_); rintro x w2 ⟨rfl, k2⟩; have K2 : Hid (Kpt w w2) := ktr HK.out k2; clear k2)
        go_roundw
        case rel => exact ⟨1, by go_num, .inr (.inl ⟨rfl, HE2⟩), K2.out⟩
        case measure => simp [intOf]
      · have HE2 : Hid (X = E1) := HE.out.trans (orE_l _ hE)
        have z0 : (E1 != 0) = true := bne_iff_ne.2 hE
        clear hE HE
        go_wp2_with (go_at_call 25; (with_reducible refine (FC.out _ (Kpt.refl _)).mono ?_); rintro x w2 ⟨rfl, k2⟩; have K2 : Hid (Kpt w w2) := ktr HK.out k2; clear k2)
        go_ret
        exact ⟨ret_int HE2.out.symm, K2.out⟩
    · have cc : wr.cell? ⟨g, 1, none⟩ = _ := HK.out.cell C1.out
      have FC := Lib.hid (fun w' (k : Kpt wr w') => F1.out w' (ktr HK.out k))
      by_cases hE : E2 = 0
      · have HE2 : Hid (X = tl5 E1 E2 E3 E4 E5 2) := HE.out.trans (orE_r hE)
        rw [hE] at FC
        clear hE HE
        go_wp2_with (go_at_call 27; (with_reducible refine (FC.out _ (Kpt.refl _)).mono ?_); rintro x w2 ⟨rfl, k2⟩; have K2 : Hid (Kpt w w2) := ktr HK.out k2; clear k2)
        go_roundw
        case rel => exact ⟨2, by go_num, .inr (.inr (.inl ⟨rfl, HE2⟩)), K2.out⟩
        case measure => simp [intOf]
      · have HE2 : Hid (X = E2) := HE.out.trans (orE_l _ hE)
        have z0 : (E2 != 0) = true := bne_iff_ne.2 hE
        clear hE HE
        go_wp2_with (go_at_call 27; (with_reducible refine (FC.out _ (Kpt.refl _)).mono ?_); rintro x w2 ⟨rfl, k2⟩; have K2 : Hid (Kpt w w2) := ktr HK.out k2; clear k2)
        go_ret
        exact ⟨ret_int HE2.out.symm, K2.out⟩
    · have cc : wr.cell? ⟨g, 2, none⟩ = _ := HK.out.cell C2.out
      have FC := Lib.hid (fun w' (k : Kpt wr w') => F2.out w' (ktr HK.out k))
      by_cases hE : E3 = 0
      · have HE2 : Hid (X = tl5 E1 E2 E3 E4 E5 3) := HE.out.trans (orE_r hE)
        rw [hE] at FC
        clear hE HE
        go_wp2_with (go_at_call 29; (with_reducible refine (FC.out _ (Kpt.refl _)).mono ?_); rintro x w2 ⟨rfl, k2⟩; have K2 : Hid (Kpt w w2) := ktr HK.out k2; clear k2)
        go_roundw
        case rel => exact ⟨3, by go_num, .inr (.inr (.inr (.inl ⟨rfl, HE2⟩))), K2.out⟩
        case measure => simp [intOf]
      · have HE2 : Hid (X = E3) := HE.out.trans (orE_l _ hE)
        have z0 : (E3 != 0) = true := bne_iff_ne.2 hE
        clear hE HE
        go_wp2_with (go_at_call 29; (with_reducible refine (FC.out _ (Kpt.refl _)).mono ?_); rintro x w2 ⟨rfl, k2⟩; have K2 : Hid (Kpt w w2) := ktr HK.out k2; clear k2)
        go_ret
        exact ⟨ret_int HE2.out.symm, K2.out⟩
    · have cc : wr.cell? ⟨g, 3, none⟩ = _ := HK.out.cell C3.out
      have FC := Lib.hid (fun w' (k : Kpt wr w') => F3.out w' (ktr HK.out k))
      by_cases hE : E4 = 0
      · have HE2 : Hid (X = tl5 E1 E2 E3 E4 E5 4) := HE.out.trans (orE_r hE)
        rw [hE] at FC
        clear hE HE
        go_wp2_with (go_at_call 31; (with_reducible refine (FC.out _ (Kpt.refl _)).mono ?_); rintro x w2 ⟨rfl, k2⟩; have K2 : Hid (Kpt w w2) := ktr HK.out k2; clear k2)
        go_roundw
        case rel => exact ⟨4, by go_num, .inr (.inr (.inr (.inr (.inl ⟨rfl, HE2⟩)))), K2.out⟩
        case measure => simp [intOf]
      · have HE2 : Hid (X = E4) := HE.out.trans (orE_l _ hE)
        have z0 : (E4 != 0) = true := bne_iff_ne.2 hE
        clear hE HE
        go_wp2_with (go_at_call 31; (with_reducible refine (FC.out _ (Kpt.refl _)).mono ?_); rintro x w2 ⟨rfl, k2⟩; have K2 : Hid (Kpt w w2) := ktr HK.out k2; clear k2)
        go_ret
        exact ⟨ret_int HE2.out.symm, K2.out⟩
    · have cc : wr.cell? ⟨g, 4, none⟩ = _ := HK.out.cell C4.out
      have FC := Lib.hid (fun w' (k : Kpt wr w') => F4.out w' (ktr HK.out k))
      by_cases hE : E5 = 0
      · have HE2 : Hid (X = tl5 E1 E2 E3 E4 E5 5) := HE.out.trans hE
        rw [hE] at FC
        clear hE HE
        go_wp2_with (go_at_call 33; (with_reducible refine (FC.out _ (Kpt.refl _)).mono ?_); rintro x w2 ⟨rfl, k2⟩; have K2 : Hid (Kpt w w2) := ktr HK.out k2; clear k2)
        go_roundw
        case rel => exact ⟨5, by go_num, .inr (.inr (.inr (.inr (.inr (⟨rfl, HE2⟩))))), K2.out⟩
        case measure => simp [intOf]
      · have HE2 : Hid (X = E5) := HE.out
        have z0 : (E5 != 0) = true := bne_iff_ne.2 hE
        clear hE HE
        go_wp2_with (go_at_call 33; (with_reducible refine (FC.out _ (Kpt.refl _)).mono ?_); rintro x w2 ⟨rfl, k2⟩; have K2 : Hid (Kpt w w2) := ktr HK.out k2; clear k2)
        go_ret
        exact ⟨ret_int HE2.out.symm, K2.out⟩
    · go_wp2
      go_ret
      exact ⟨ret_int HE.out.symm, HK.out⟩

end Go.Proofs.Ytmoanndonfmihaa

-- DueApp
namespace Go.Proofs.Ytmoanndonfmihaa
open Go.RowKit
set_option linter.unusedVariables false

theorem Try.infoDue : (Try.prog.info? 41).map (fun i => (i.zero, i.size, i.bytes)) = some (some (.agg #[.int .i64 0, .int .i64 0, .int .i64 0]), 3, 24) := by kernel_rfl
theorem OwnsT.block_lt {T : TypeId} {w : World} {base : Nat} {v : Value} {ps : List (Int × Int × Int)} (h : OwnsT T w base v ps) : ∀ k, v.ownBlock = some k → k < w.heap.size := by
  intro k hk
  rcases h.2 with ⟨rfl, _⟩ | ⟨g, cap, cur, rfl, hg, hh, _⟩
  · simp [Value.ownBlock] at hk
  · simp [Value.ownBlock] at hk; subst hk; exact heap_lt hh
theorem OwnsT.other {T : TypeId} {w w' : World} {base : Nat} {u : Value} {ps : List (Int × Int × Int)} {row : Option Nat} (h : OwnsT T w base u ps) (g : w.grownBy w' row) (hr : u.ownBlock = none ∨ u.ownBlock ≠ row) : OwnsT T w' base u ps := by
  obtain ⟨h1, h2⟩ := h
  refine ⟨h1, ?_⟩
  rcases h2 with h2 | ⟨k, cap, cur, rfl, hk, hh, r⟩
  · exact .inl h2
  · refine .inr ⟨k, cap, cur, rfl, hk, (g.block k (heap_lt hh) ?_).trans hh, r⟩
    rcases hr with hr | hr
    · simp [Value.ownBlock] at hr
    · simpa [Value.ownBlock] using hr
theorem wp_appendD {ops : Array Oper} {rest : List Oper} {o : Oper} {a : Act} {Q : Exit → Act → World → Prop} (hgd : o.guard = none) (s x : Operand)
    (ho : o.op = .call { callee := .builtin .append, args := #[s, x], argTypes := #[27, 27] })
    (base : Nat) (v : Value) (ps : List (Int × Int × Int)) (f t n : Int) (w : World) (hs : a.eval s = v) (hown : OwnsT 41 w base v ps) (hx : a.eval x = .slice (some ⟨w.heap.size, 0, none⟩) 1 1)
    (hlen : ps.length + 1 ≤ 100000) (hbase : base ≤ w.heap.size) (u : Value) (us : List (Int × Int × Int)) (hu : OwnsT 41 w base u us) (huv : Apart u v)
    (h : ∀ v' w', OwnsT 41 w' base v' (ps ++ [(f, t, n)]) → Below base w w' → OwnsT 41 w' base u us → Apart u v' → Apart v' u → wpList Try.prog ops Q rest (a.put o.dst v') w') : wpList Try.prog ops Q (o :: rest) a (w.alloc (.cells #[.int .i64 f, .int .i64 t, .int .i64 n] 41)) := by
  obtain ⟨i0, hi, hz0, hz1, hz2⟩ := info_parts Try.infoDue
  refine wpList_append_lies _ hgd s x 27 ho base 41 i0 (.agg #[.int .i64 0, .int .i64 0, .int .i64 0]) 3 24 Try.underlying27 hi hz0 hz1 hz2 rfl (by decide) v _ _ hs (hown.alloc _) ⟨w.heap.size, 0, none⟩ 1 1 [.int .i64 f, .int .i64 t, .int .i64 n] hx rfl (World.news_of_block (heap_alloc_new w _)) ?_ (by decide) ?_ ?_ ?_ (w.heap.size + 1) (by simp) ?_
  · intro u hu
    simp at hu
    rcases hu with rfl | rfl | rfl <;> rfl
  · unfold maxLen; omega
  · omega
  · rw [World.size_alloc]; omega
  · intro g cap w' h1 h2 h3 h4
    have hlt := hu.block_lt
    have ap : u.ownBlock = none ∨ u.ownBlock ≠ some g := by
      rcases huv with e | e
      · exact .inl e
      · rcases h3 with e' | e'
        · rw [e'] at e; exact .inr e
        · refine .inr fun e'' => ?_
          have := hlt g e''
          omega
    refine h _ w' ?_ ?_ ((hu.alloc _).other h2 huv) ap ?_
    · unfold OwnsT
      rw [List.length_append, flatP_append]
      exact h1
    · exact ((Below.refl base w).alloc hbase _).grown h2 (by rw [World.size_alloc]; omega) hown.ge
    · refine .inr fun e => ?_
      rcases ap with e' | e'
      · rw [e'] at e; simp [Value.ownBlock] at e
      · exact e' e.symm

end Go.Proofs.Ytmoanndonfmihaa

-- QuietK
namespace Go.Proofs.Ytmoanndonfmihaa
open Go.RowKit
set_option linter.unusedVariables false

structure KptTo (q : World) where
  w : World
  h : Kpt q w
instance (q : World) : Inhabited (KptTo q) := ⟨⟨q, Kpt.refl q⟩⟩
theorem quiet_k {P : Program} {id : Nat} {Q : Exit → Act → World → Prop} {a : Act} {q : World} {l : List Oper} (hm : P.follows .mixedOrders = true) (hB : Region.lexB .any l.toArray = true)
    (h : wpQuiet P l.toArray (fun w' => ∃ p : KptTo q, w' = p.w) (fun a' => ∀ w', (∃ p : KptTo q, w' = p.w) → Q .normal a' w') l a) : (Code.region id l.toArray true).wp P Q a q :=
  wp_region_quiet (C := fun w' => ∃ p : KptTo q, w' = p.w) hm hB ⟨⟨_, (Kpt.refl q).drewN 1⟩, rfl⟩ (by simpa using h)
theorem cell_k {q : World} {a : Addr} {v : Value} (h : q.cell? a = some v) (p : KptTo q) : p.w.cell? a = some v := p.h.cell h
theorem calls_k {P : Program} {f : FuncId} {args : Array Value} {q : World} {p : KptTo q} {v : Value} (h : Calls P f args p.w fun e w' => e = .returned v ∧ Kpt p.w w') : Calls P f args p.w fun e w'' => e = .returned v ∧ ∃ p' : KptTo q, w'' = p'.w :=
  h.mono fun _ w' ⟨he, hk⟩ => ⟨he, ⟨w', ktr p.h hk⟩, rfl⟩
theorem calls_same {P : Program} {f : FuncId} {args : Array Value} {q : World} {p : KptTo q} {v : Value} (h : Calls P f args p.w fun e w' => e = .returned v ∧ p.w = w') : Calls P f args p.w fun e w'' => e = .returned v ∧ ∃ p' : KptTo q, w'' = p'.w :=
  h.mono fun _ w' ⟨he, hk⟩ => ⟨he, p, hk.symm⟩

end Go.Proofs.Ytmoanndonfmihaa

-- PenG
namespace Go.Proofs.Ytmoanndonfmihaa
open Go.RowKit
set_option linter.unusedVariables false

theorem idsE_fl {ids : List Int} {fs : List (List Int)} (h : idsE ids fs = 0) : ∀ l ∈ fs, failEL l = 0 := by
  induction fs generalizing ids with
  | nil => intro l hl; cases hl
  | cons l fs ih =>
    unfold idsE at h
    by_cases h1 : failEL l = 0
    · rw [if_neg (by simpa using h1)] at h
      split at h
      · cases h
      · intro k hk
        rcases List.mem_cons.1 hk with rfl | hk
        · exact h1
        · exact ih h k hk
    · rw [if_pos h1] at h; exact absurd h h1
theorem checksE_0 {fs : List (List Int)} (h : checksE fs = 0) : fs.length ≤ 60 ∧ ∀ l ∈ fs, failEL l = 0 := by
  unfold checksE at h
  split at h
  · cases h
  · exact ⟨by omega, idsE_fl h⟩
theorem fl_cls {l : List Int} (h : failEL l = 0) : (0 ≤ l.getD 3 0 ∧ l.getD 3 0 ≤ 5) ∧ 1 ≤ l.getD 4 0 ∧ l.getD 4 0 ≤ 20 := by
  unfold failEL at h
  have := fail_bd h
  omega
theorem clsE_0 {ts : List (List Int)} (h : clsE ts = 0) : ts.length = 6 := by
  unfold clsE at h; split at h
  · assumption
  · cases h
theorem prsE_0 {ps : List Int} (h : prsE ps = 0) : ps.length = 20 ∧ ∀ p ∈ ps, prcB p = true := by
  unfold prsE at h; split at h
  · exact ⟨by assumption, prs_0 h⟩
  · cases h
theorem day_B {W : Int} {hs : List Int} {ts fs : List (List Int)} {ps : List Int} {q : Int} (h : preE W hs ts fs ps q = 0) : dayE W hs ts fs ps q = pdE W hs ts q fs ∧ dayD W hs ts fs ps q = if pdE W hs ts q fs = 0 then dueL W hs ts ps q fs else [] := by
  have e : dayE W hs ts fs ps q = pdE W hs ts q fs := orE_r h
  refine ⟨e, ?_⟩
  unfold dayD; rw [e]
theorem day_A {W : Int} {hs : List Int} {ts fs : List (List Int)} {ps : List Int} {q : Int} (h : preE W hs ts fs ps q ≠ 0) : dayE W hs ts fs ps q = preE W hs ts fs ps q ∧ dayD W hs ts fs ps q = [] := by
  have e : dayE W hs ts fs ps q = preE W hs ts fs ps q := orE_l _ h
  refine ⟨e, ?_⟩
  unfold dayD; rw [e, if_neg h]
theorem pd_0 {W : Int} {hs : List Int} {ts : List (List Int)} {q : Int} {l : List Int} {fs : List (List Int)} (h : lkL W hs (tlOf ts l) l q = 0) : pdE W hs ts q (l :: fs) = pdE W hs ts q fs := orE_r h
theorem pd_1 {W : Int} {hs : List Int} {ts : List (List Int)} {q : Int} {l : List Int} {fs : List (List Int)} (h : lkL W hs (tlOf ts l) l q ≠ 0) : pdE W hs ts q (l :: fs) = lkL W hs (tlOf ts l) l q := orE_l _ h
theorem csV_0 {W : Int} {hs tl l : List Int} {p q : Int} (h : lkL W hs tl l q = 0) : csV W hs tl l p q = csL W hs tl l p q := if_pos h
theorem dueL_p {W : Int} {hs : List Int} {ts : List (List Int)} {ps : List Int} {q : Int} {l : List Int} {fs : List (List Int)} (h : lkL W hs (tlOf ts l) l q = 0) (h0 : 0 < csV W hs (tlOf ts l) l (prOf ps l) q) : dueL W hs ts ps q (l :: fs) = [(l.getD 1 0, l.getD 2 0, csV W hs (tlOf ts l) l (prOf ps l) q)] ++ dueL W hs ts ps q fs := by
  rw [csV_0 h] at h0 ⊢
  rw [dueL, if_pos h0]; rfl
theorem dueL_n {W : Int} {hs : List Int} {ts : List (List Int)} {ps : List Int} {q : Int} {l : List Int} {fs : List (List Int)} (h : lkL W hs (tlOf ts l) l q = 0) (h0 : ¬ 0 < csV W hs (tlOf ts l) l (prOf ps l) q) : dueL W hs ts ps q (l :: fs) = dueL W hs ts ps q fs := by
  rw [csV_0 h] at h0
  rw [dueL, if_neg h0]
/-- costOf, its terms and its fail told as lists -/
theorem cost_L (W z q : Int) (tl l : List Int) (v : Value) (hs : List Int) (w : World) (hr : Reads w v hs) (hf : Fits hs) (hp : prcB z = true) :
    Calls Try.prog 35 #[calV W v, .agg #[.int .i64 (tl.getD 0 0), .int .i64 (tl.getD 1 0), .int .i64 (tl.getD 2 0), .int .i64 (tl.getD 3 0)], .agg #[.int .i64 (l.getD 0 0), .int .i64 (l.getD 1 0), .int .i64 (l.getD 2 0), .int .i64 (l.getD 3 0), .int .i64 (l.getD 4 0), .int .i64 (l.getD 5 0), .int .i64 (l.getD 6 0), .int .i64 (l.getD 7 0), .int .i64 (l.getD 8 0), .int .i64 (l.getD 9 0)], .int .i64 z, .int .i64 q] w fun e w' => e = .returned (.tuple #[.int .i64 (csV W hs tl l z q), .int .i64 (lkL W hs tl l q)]) ∧ Kpt w w' :=
  cost_all W _ _ _ _ _ _ _ _ _ _ _ _ _ _ z q v hs w hr hf hp

def DayRes (w : World) (E : Int) (ds : List (Int × Int × Int)) (e : Ending) (w' : World) : Prop := ∃ dv, e = .returned (.tuple #[dv, .int .i64 E]) ∧ OwnsT 41 w' w.heap.size dv ds ∧ Kpt w w'
def ifD (X : Int) (D : List (Int × Int × Int)) : List (Int × Int × Int) := if X = 0 then D else []
theorem dayRes_nil {w w' : World} {E X : Int} {ds : List (Int × Int × Int)} (h : E = X) (hd : ds = []) (k : Kpt w w') : DayRes w X ds (.returned (.tuple #[.slice none 0 0, .int .i64 E])) w' := by
  subst h; subst hd
  exact ⟨_, rfl, OwnsT.nil _ _ _, k⟩
theorem dayRes_ok {w w' : World} {M : Nat} {X : Int} {dv : Value} {ds es : List (Int × Int × Int)} (h : X = 0) (hd : es = ds) (ho : OwnsT 41 w' M dv ds) (hM : w.heap.size ≤ M) (k : Kpt w w') : DayRes w X es (.returned (.tuple #[dv, .int .i64 0])) w' := by
  subst h; subst hd
  exact ⟨_, rfl, ho.base hM, k⟩

theorem apart_nil (v : Value) : Apart (.slice none 0 0) v := .inl rfl

set_option maxRecDepth 100000 in
set_option maxHeartbeats 8000000 in
theorem day_no (W q : Int) (v tv lv pv : Value) (hs : List Int) (ts fs : List (List Int)) (ps : List Int) (w : World) (hr : Reads w v hs) (hf : Fits hs) (ht : ReadsT w tv ts) (hl : ReadsF w lv fs) (hp : Reads w pv ps) (hE : preE W hs ts fs ps q ≠ 0) :
    Calls Try.prog 8 #[calV W v, tv, lv, pv, .int .i64 q] w (DayRes w (preE W hs ts fs ps q) []) := by
  have hmf : ∀ fn first cap w, (Instr.makeFunc fn first cap).run Try.prog w = .ok (.func fn first cap) w := fun _ _ _ _ => rfl
  obtain ⟨a, cap, rfl, ha⟩ := id hr
  obtain ⟨at1, ct, rfl, hmt, hct⟩ := id ht
  obtain ⟨al, cl, rfl, hml, hbl, hcl⟩ := id hl
  obtain ⟨ap, cp, rfl, hmp⟩ := id hp
  have K6 : Hid (Kpt w ((((((w.alloc (.cells #[.int .i64 W, .slice a hs.length cap] 24)).alloc (.cells #[.slice at1 ts.length ct] 25)).alloc (.cells #[.slice al fs.length cl] 26)).alloc (.cells #[.slice ap ps.length cp] 22)).alloc (.cells #[.int .i64 q] 3)).alloc (.cells #[.func (.func 25) #[] #[.pointer (some ⟨w.heap.size, 0, none⟩)], .func (.func 27) #[] #[.pointer (some ⟨w.heap.size + 1, 0, none⟩)], .func (.func 29) #[] #[.pointer (some ⟨w.heap.size + 2, 0, none⟩)], .func (.func 31) #[] #[.pointer (some ⟨w.heap.size + 3, 0, none⟩)], .func (.func 33) #[] #[.pointer (some ⟨w.heap.size, 0, none⟩), .pointer (some ⟨w.heap.size + 4, 0, none⟩)]] 64))) := ((((((Kpt.refl w).alloc _).alloc _).alloc _).alloc _).alloc _).alloc _
  have BC : Hid (Blk ((((((w.alloc (.cells #[.int .i64 W, .slice a hs.length cap] 24)).alloc (.cells #[.slice at1 ts.length ct] 25)).alloc (.cells #[.slice al fs.length cl] 26)).alloc (.cells #[.slice ap ps.length cp] 22)).alloc (.cells #[.int .i64 q] 3)).alloc (.cells #[.func (.func 25) #[] #[.pointer (some ⟨w.heap.size, 0, none⟩)], .func (.func 27) #[] #[.pointer (some ⟨w.heap.size + 1, 0, none⟩)], .func (.func 29) #[] #[.pointer (some ⟨w.heap.size + 2, 0, none⟩)], .func (.func 31) #[] #[.pointer (some ⟨w.heap.size + 3, 0, none⟩)], .func (.func 33) #[] #[.pointer (some ⟨w.heap.size, 0, none⟩), .pointer (some ⟨w.heap.size + 4, 0, none⟩)]] 64)) (w.heap.size) #[.int .i64 W, .slice a hs.length cap] 24) := by
    have := ((((((Blk.made w #[.int .i64 W, .slice a hs.length cap] 24).alloc (.cells #[.slice at1 ts.length ct] 25)).alloc (.cells #[.slice al fs.length cl] 26)).alloc (.cells #[.slice ap ps.length cp] 22)).alloc (.cells #[.int .i64 q] 3)).alloc (.cells #[.func (.func 25) #[] #[.pointer (some ⟨w.heap.size, 0, none⟩)], .func (.func 27) #[] #[.pointer (some ⟨w.heap.size + 1, 0, none⟩)], .func (.func 29) #[] #[.pointer (some ⟨w.heap.size + 2, 0, none⟩)], .func (.func 31) #[] #[.pointer (some ⟨w.heap.size + 3, 0, none⟩)], .func (.func 33) #[] #[.pointer (some ⟨w.heap.size, 0, none⟩), .pointer (some ⟨w.heap.size + 4, 0, none⟩)]] 64))
    unfold Hid; simpa using this
  have BT : Hid (Blk ((((((w.alloc (.cells #[.int .i64 W, .slice a hs.length cap] 24)).alloc (.cells #[.slice at1 ts.length ct] 25)).alloc (.cells #[.slice al fs.length cl] 26)).alloc (.cells #[.slice ap ps.length cp] 22)).alloc (.cells #[.int .i64 q] 3)).alloc (.cells #[.func (.func 25) #[] #[.pointer (some ⟨w.heap.size, 0, none⟩)], .func (.func 27) #[] #[.pointer (some ⟨w.heap.size + 1, 0, none⟩)], .func (.func 29) #[] #[.pointer (some ⟨w.heap.size + 2, 0, none⟩)], .func (.func 31) #[] #[.pointer (some ⟨w.heap.size + 3, 0, none⟩)], .func (.func 33) #[] #[.pointer (some ⟨w.heap.size, 0, none⟩), .pointer (some ⟨w.heap.size + 4, 0, none⟩)]] 64)) (w.heap.size + 1) #[.slice at1 ts.length ct] 25) := by
    have := (((((Blk.made (w.alloc (.cells #[.int .i64 W, .slice a hs.length cap] 24)) #[.slice at1 ts.length ct] 25).alloc (.cells #[.slice al fs.length cl] 26)).alloc (.cells #[.slice ap ps.length cp] 22)).alloc (.cells #[.int .i64 q] 3)).alloc (.cells #[.func (.func 25) #[] #[.pointer (some ⟨w.heap.size, 0, none⟩)], .func (.func 27) #[] #[.pointer (some ⟨w.heap.size + 1, 0, none⟩)], .func (.func 29) #[] #[.pointer (some ⟨w.heap.size + 2, 0, none⟩)], .func (.func 31) #[] #[.pointer (some ⟨w.heap.size + 3, 0, none⟩)], .func (.func 33) #[] #[.pointer (some ⟨w.heap.size, 0, none⟩), .pointer (some ⟨w.heap.size + 4, 0, none⟩)]] 64))
    unfold Hid; simpa using this
  have BL : Hid (Blk ((((((w.alloc (.cells #[.int .i64 W, .slice a hs.length cap] 24)).alloc (.cells #[.slice at1 ts.length ct] 25)).alloc (.cells #[.slice al fs.length cl] 26)).alloc (.cells #[.slice ap ps.length cp] 22)).alloc (.cells #[.int .i64 q] 3)).alloc (.cells #[.func (.func 25) #[] #[.pointer (some ⟨w.heap.size, 0, none⟩)], .func (.func 27) #[] #[.pointer (some ⟨w.heap.size + 1, 0, none⟩)], .func (.func 29) #[] #[.pointer (some ⟨w.heap.size + 2, 0, none⟩)], .func (.func 31) #[] #[.pointer (some ⟨w.heap.size + 3, 0, none⟩)], .func (.func 33) #[] #[.pointer (some ⟨w.heap.size, 0, none⟩), .pointer (some ⟨w.heap.size + 4, 0, none⟩)]] 64)) (w.heap.size + 2) #[.slice al fs.length cl] 26) := by
    have := ((((Blk.made ((w.alloc (.cells #[.int .i64 W, .slice a hs.length cap] 24)).alloc (.cells #[.slice at1 ts.length ct] 25)) #[.slice al fs.length cl] 26).alloc (.cells #[.slice ap ps.length cp] 22)).alloc (.cells #[.int .i64 q] 3)).alloc (.cells #[.func (.func 25) #[] #[.pointer (some ⟨w.heap.size, 0, none⟩)], .func (.func 27) #[] #[.pointer (some ⟨w.heap.size + 1, 0, none⟩)], .func (.func 29) #[] #[.pointer (some ⟨w.heap.size + 2, 0, none⟩)], .func (.func 31) #[] #[.pointer (some ⟨w.heap.size + 3, 0, none⟩)], .func (.func 33) #[] #[.pointer (some ⟨w.heap.size, 0, none⟩), .pointer (some ⟨w.heap.size + 4, 0, none⟩)]] 64))
    unfold Hid; simpa using this
  have BP : Hid (Blk ((((((w.alloc (.cells #[.int .i64 W, .slice a hs.length cap] 24)).alloc (.cells #[.slice at1 ts.length ct] 25)).alloc (.cells #[.slice al fs.length cl] 26)).alloc (.cells #[.slice ap ps.length cp] 22)).alloc (.cells #[.int .i64 q] 3)).alloc (.cells #[.func (.func 25) #[] #[.pointer (some ⟨w.heap.size, 0, none⟩)], .func (.func 27) #[] #[.pointer (some ⟨w.heap.size + 1, 0, none⟩)], .func (.func 29) #[] #[.pointer (some ⟨w.heap.size + 2, 0, none⟩)], .func (.func 31) #[] #[.pointer (some ⟨w.heap.size + 3, 0, none⟩)], .func (.func 33) #[] #[.pointer (some ⟨w.heap.size, 0, none⟩), .pointer (some ⟨w.heap.size + 4, 0, none⟩)]] 64)) (w.heap.size + 3) #[.slice ap ps.length cp] 22) := by
    have := (((Blk.made (((w.alloc (.cells #[.int .i64 W, .slice a hs.length cap] 24)).alloc (.cells #[.slice at1 ts.length ct] 25)).alloc (.cells #[.slice al fs.length cl] 26)) #[.slice ap ps.length cp] 22).alloc (.cells #[.int .i64 q] 3)).alloc (.cells #[.func (.func 25) #[] #[.pointer (some ⟨w.heap.size, 0, none⟩)], .func (.func 27) #[] #[.pointer (some ⟨w.heap.size + 1, 0, none⟩)], .func (.func 29) #[] #[.pointer (some ⟨w.heap.size + 2, 0, none⟩)], .func (.func 31) #[] #[.pointer (some ⟨w.heap.size + 3, 0, none⟩)], .func (.func 33) #[] #[.pointer (some ⟨w.heap.size, 0, none⟩), .pointer (some ⟨w.heap.size + 4, 0, none⟩)]] 64))
    unfold Hid; simpa using this
  have BQ : Hid (Blk ((((((w.alloc (.cells #[.int .i64 W, .slice a hs.length cap] 24)).alloc (.cells #[.slice at1 ts.length ct] 25)).alloc (.cells #[.slice al fs.length cl] 26)).alloc (.cells #[.slice ap ps.length cp] 22)).alloc (.cells #[.int .i64 q] 3)).alloc (.cells #[.func (.func 25) #[] #[.pointer (some ⟨w.heap.size, 0, none⟩)], .func (.func 27) #[] #[.pointer (some ⟨w.heap.size + 1, 0, none⟩)], .func (.func 29) #[] #[.pointer (some ⟨w.heap.size + 2, 0, none⟩)], .func (.func 31) #[] #[.pointer (some ⟨w.heap.size + 3, 0, none⟩)], .func (.func 33) #[] #[.pointer (some ⟨w.heap.size, 0, none⟩), .pointer (some ⟨w.heap.size + 4, 0, none⟩)]] 64)) (w.heap.size + 4) #[.int .i64 q] 3) := by
    have := ((Blk.made ((((w.alloc (.cells #[.int .i64 W, .slice a hs.length cap] 24)).alloc (.cells #[.slice at1 ts.length ct] 25)).alloc (.cells #[.slice al fs.length cl] 26)).alloc (.cells #[.slice ap ps.length cp] 22)) #[.int .i64 q] 3).alloc (.cells #[.func (.func 25) #[] #[.pointer (some ⟨w.heap.size, 0, none⟩)], .func (.func 27) #[] #[.pointer (some ⟨w.heap.size + 1, 0, none⟩)], .func (.func 29) #[] #[.pointer (some ⟨w.heap.size + 2, 0, none⟩)], .func (.func 31) #[] #[.pointer (some ⟨w.heap.size + 3, 0, none⟩)], .func (.func 33) #[] #[.pointer (some ⟨w.heap.size, 0, none⟩), .pointer (some ⟨w.heap.size + 4, 0, none⟩)]] 64))
    unfold Hid; simpa using this
  have BN : Hid (Blk ((((((w.alloc (.cells #[.int .i64 W, .slice a hs.length cap] 24)).alloc (.cells #[.slice at1 ts.length ct] 25)).alloc (.cells #[.slice al fs.length cl] 26)).alloc (.cells #[.slice ap ps.length cp] 22)).alloc (.cells #[.int .i64 q] 3)).alloc (.cells #[.func (.func 25) #[] #[.pointer (some ⟨w.heap.size, 0, none⟩)], .func (.func 27) #[] #[.pointer (some ⟨w.heap.size + 1, 0, none⟩)], .func (.func 29) #[] #[.pointer (some ⟨w.heap.size + 2, 0, none⟩)], .func (.func 31) #[] #[.pointer (some ⟨w.heap.size + 3, 0, none⟩)], .func (.func 33) #[] #[.pointer (some ⟨w.heap.size, 0, none⟩), .pointer (some ⟨w.heap.size + 4, 0, none⟩)]] 64)) (w.heap.size + 5) #[.func (.func 25) #[] #[.pointer (some ⟨w.heap.size, 0, none⟩)], .func (.func 27) #[] #[.pointer (some ⟨w.heap.size + 1, 0, none⟩)], .func (.func 29) #[] #[.pointer (some ⟨w.heap.size + 2, 0, none⟩)], .func (.func 31) #[] #[.pointer (some ⟨w.heap.size + 3, 0, none⟩)], .func (.func 33) #[] #[.pointer (some ⟨w.heap.size, 0, none⟩), .pointer (some ⟨w.heap.size + 4, 0, none⟩)]] 64) := by
    have := (Blk.made (((((w.alloc (.cells #[.int .i64 W, .slice a hs.length cap] 24)).alloc (.cells #[.slice at1 ts.length ct] 25)).alloc (.cells #[.slice al fs.length cl] 26)).alloc (.cells #[.slice ap ps.length cp] 22)).alloc (.cells #[.int .i64 q] 3)) #[.func (.func 25) #[] #[.pointer (some ⟨w.heap.size, 0, none⟩)], .func (.func 27) #[] #[.pointer (some ⟨w.heap.size + 1, 0, none⟩)], .func (.func 29) #[] #[.pointer (some ⟨w.heap.size + 2, 0, none⟩)], .func (.func 31) #[] #[.pointer (some ⟨w.heap.size + 3, 0, none⟩)], .func (.func 33) #[] #[.pointer (some ⟨w.heap.size, 0, none⟩), .pointer (some ⟨w.heap.size + 4, 0, none⟩)]] 64)
    unfold Hid; simpa using this
  have FR := Lib.hid (first_run (w.heap.size + 5) 5 w.heap.size (w.heap.size + 1) (w.heap.size + 2) (w.heap.size + 3) (w.heap.size + 4) (calE W hs) (clsE ts) (checksE fs) (prsE ps) (tdyE W hs q) ((((((w.alloc (.cells #[.int .i64 W, .slice a hs.length cap] 24)).alloc (.cells #[.slice at1 ts.length ct] 25)).alloc (.cells #[.slice al fs.length cl] 26)).alloc (.cells #[.slice ap ps.length cp] 22)).alloc (.cells #[.int .i64 q] 3)).alloc (.cells #[.func (.func 25) #[] #[.pointer (some ⟨w.heap.size, 0, none⟩)], .func (.func 27) #[] #[.pointer (some ⟨w.heap.size + 1, 0, none⟩)], .func (.func 29) #[] #[.pointer (some ⟨w.heap.size + 2, 0, none⟩)], .func (.func 31) #[] #[.pointer (some ⟨w.heap.size + 3, 0, none⟩)], .func (.func 33) #[] #[.pointer (some ⟨w.heap.size, 0, none⟩), .pointer (some ⟨w.heap.size + 4, 0, none⟩)]] 64))
    (BN.out.cell 0) (BN.out.cell 1) (BN.out.cell 2) (BN.out.cell 3) (BN.out.cell 4)
    (fun w' k => clo1 W _ hs _ w' (BC.out.kpt k) (hr.kpt (ktr K6.out k)) hf)
    (fun w' k => clo2 _ ts _ w' (BT.out.kpt k) (ht.kpt (ktr K6.out k)))
    (fun w' k => clo3 _ fs _ w' (BL.out.kpt k) (hl.kpt (ktr K6.out k)))
    (fun w' k => clo4 _ ps _ w' (BP.out.kpt k) (hp.kpt (ktr K6.out k)))
    (fun w' k => clo5 W q _ hs _ _ w' (BC.out.kpt k) (BQ.out.kpt k) (hr.kpt (ktr K6.out k)) hf))
  unfold calV at *
  have HX : Hid (orE (calE W hs) (orE (clsE ts) (orE (checksE fs) (orE (prsE ps) (tdyE W hs q)))) = preE W hs ts fs ps q) := rfl
  rw [HX.out] at FR
  have z0 : (preE W hs ts fs ps q != 0) = true := bne_iff_ne.2 hE
  generalize preE W hs ts fs ps q = E at *
  clear ha hct hcl hmp hr ht hl hp hE HX BC BT BL BP BQ BN hbl
  go_enter Try.func8, Try.ntmps8
  go_wp2_with (go_at_call 24; (with_reducible refine FR.out.mono ?_); rintro e w1 ⟨rfl, k1⟩; have K1 := Lib.hid (ktr K6.out k1); clear k1)
  go_ret2
  exact dayRes_nil rfl rfl K1.out

set_option maxRecDepth 100000 in
set_option maxHeartbeats 8000000 in
theorem day_ok (W q : Int) (v tv lv pv : Value) (hs : List Int) (ts fs : List (List Int)) (ps : List Int) (w : World) (hr : Reads w v hs) (hf : Fits hs) (ht : ReadsT w tv ts) (hl : ReadsF w lv fs) (hp : Reads w pv ps) (hE : preE W hs ts fs ps q = 0) :
    Calls Try.prog 8 #[calV W v, tv, lv, pv, .int .i64 q] w (DayRes w (pdE W hs ts q fs) (ifD (pdE W hs ts q fs) (dueL W hs ts ps q fs))) := by
  have hmf : ∀ fn first cap w, (Instr.makeFunc fn first cap).run Try.prog w = .ok (.func fn first cap) w := fun _ _ _ _ => rfl
  obtain ⟨a, cap, rfl, ha⟩ := id hr
  obtain ⟨at1, ct, rfl, hmt, hct⟩ := id ht
  obtain ⟨al, cl, rfl, hml, hbl, hcl⟩ := id hl
  obtain ⟨ap, cp, rfl, hmp⟩ := id hp
  have K6 : Hid (Kpt w ((((((w.alloc (.cells #[.int .i64 W, .slice a hs.length cap] 24)).alloc (.cells #[.slice at1 ts.length ct] 25)).alloc (.cells #[.slice al fs.length cl] 26)).alloc (.cells #[.slice ap ps.length cp] 22)).alloc (.cells #[.int .i64 q] 3)).alloc (.cells #[.func (.func 25) #[] #[.pointer (some ⟨w.heap.size, 0, none⟩)], .func (.func 27) #[] #[.pointer (some ⟨w.heap.size + 1, 0, none⟩)], .func (.func 29) #[] #[.pointer (some ⟨w.heap.size + 2, 0, none⟩)], .func (.func 31) #[] #[.pointer (some ⟨w.heap.size + 3, 0, none⟩)], .func (.func 33) #[] #[.pointer (some ⟨w.heap.size, 0, none⟩), .pointer (some ⟨w.heap.size + 4, 0, none⟩)]] 64))) := ((((((Kpt.refl w).alloc _).alloc _).alloc _).alloc _).alloc _).alloc _
  have BC : Hid (Blk ((((((w.alloc (.cells #[.int .i64 W, .slice a hs.length cap] 24)).alloc (.cells #[.slice at1 ts.length ct] 25)).alloc (.cells #[.slice al fs.length cl] 26)).alloc (.cells #[.slice ap ps.length cp] 22)).alloc (.cells #[.int .i64 q] 3)).alloc (.cells #[.func (.func 25) #[] #[.pointer (some ⟨w.heap.size, 0, none⟩)], .func (.func 27) #[] #[.pointer (some ⟨w.heap.size + 1, 0, none⟩)], .func (.func 29) #[] #[.pointer (some ⟨w.heap.size + 2, 0, none⟩)], .func (.func 31) #[] #[.pointer (some ⟨w.heap.size + 3, 0, none⟩)], .func (.func 33) #[] #[.pointer (some ⟨w.heap.size, 0, none⟩), .pointer (some ⟨w.heap.size + 4, 0, none⟩)]] 64)) (w.heap.size) #[.int .i64 W, .slice a hs.length cap] 24) := by
    have := ((((((Blk.made w #[.int .i64 W, .slice a hs.length cap] 24).alloc (.cells #[.slice at1 ts.length ct] 25)).alloc (.cells #[.slice al fs.length cl] 26)).alloc (.cells #[.slice ap ps.length cp] 22)).alloc (.cells #[.int .i64 q] 3)).alloc (.cells #[.func (.func 25) #[] #[.pointer (some ⟨w.heap.size, 0, none⟩)], .func (.func 27) #[] #[.pointer (some ⟨w.heap.size + 1, 0, none⟩)], .func (.func 29) #[] #[.pointer (some ⟨w.heap.size + 2, 0, none⟩)], .func (.func 31) #[] #[.pointer (some ⟨w.heap.size + 3, 0, none⟩)], .func (.func 33) #[] #[.pointer (some ⟨w.heap.size, 0, none⟩), .pointer (some ⟨w.heap.size + 4, 0, none⟩)]] 64))
    unfold Hid; simpa using this
  have BT : Hid (Blk ((((((w.alloc (.cells #[.int .i64 W, .slice a hs.length cap] 24)).alloc (.cells #[.slice at1 ts.length ct] 25)).alloc (.cells #[.slice al fs.length cl] 26)).alloc (.cells #[.slice ap ps.length cp] 22)).alloc (.cells #[.int .i64 q] 3)).alloc (.cells #[.func (.func 25) #[] #[.pointer (some ⟨w.heap.size, 0, none⟩)], .func (.func 27) #[] #[.pointer (some ⟨w.heap.size + 1, 0, none⟩)], .func (.func 29) #[] #[.pointer (some ⟨w.heap.size + 2, 0, none⟩)], .func (.func 31) #[] #[.pointer (some ⟨w.heap.size + 3, 0, none⟩)], .func (.func 33) #[] #[.pointer (some ⟨w.heap.size, 0, none⟩), .pointer (some ⟨w.heap.size + 4, 0, none⟩)]] 64)) (w.heap.size + 1) #[.slice at1 ts.length ct] 25) := by
    have := (((((Blk.made (w.alloc (.cells #[.int .i64 W, .slice a hs.length cap] 24)) #[.slice at1 ts.length ct] 25).alloc (.cells #[.slice al fs.length cl] 26)).alloc (.cells #[.slice ap ps.length cp] 22)).alloc (.cells #[.int .i64 q] 3)).alloc (.cells #[.func (.func 25) #[] #[.pointer (some ⟨w.heap.size, 0, none⟩)], .func (.func 27) #[] #[.pointer (some ⟨w.heap.size + 1, 0, none⟩)], .func (.func 29) #[] #[.pointer (some ⟨w.heap.size + 2, 0, none⟩)], .func (.func 31) #[] #[.pointer (some ⟨w.heap.size + 3, 0, none⟩)], .func (.func 33) #[] #[.pointer (some ⟨w.heap.size, 0, none⟩), .pointer (some ⟨w.heap.size + 4, 0, none⟩)]] 64))
    unfold Hid; simpa using this
  have BL : Hid (Blk ((((((w.alloc (.cells #[.int .i64 W, .slice a hs.length cap] 24)).alloc (.cells #[.slice at1 ts.length ct] 25)).alloc (.cells #[.slice al fs.length cl] 26)).alloc (.cells #[.slice ap ps.length cp] 22)).alloc (.cells #[.int .i64 q] 3)).alloc (.cells #[.func (.func 25) #[] #[.pointer (some ⟨w.heap.size, 0, none⟩)], .func (.func 27) #[] #[.pointer (some ⟨w.heap.size + 1, 0, none⟩)], .func (.func 29) #[] #[.pointer (some ⟨w.heap.size + 2, 0, none⟩)], .func (.func 31) #[] #[.pointer (some ⟨w.heap.size + 3, 0, none⟩)], .func (.func 33) #[] #[.pointer (some ⟨w.heap.size, 0, none⟩), .pointer (some ⟨w.heap.size + 4, 0, none⟩)]] 64)) (w.heap.size + 2) #[.slice al fs.length cl] 26) := by
    have := ((((Blk.made ((w.alloc (.cells #[.int .i64 W, .slice a hs.length cap] 24)).alloc (.cells #[.slice at1 ts.length ct] 25)) #[.slice al fs.length cl] 26).alloc (.cells #[.slice ap ps.length cp] 22)).alloc (.cells #[.int .i64 q] 3)).alloc (.cells #[.func (.func 25) #[] #[.pointer (some ⟨w.heap.size, 0, none⟩)], .func (.func 27) #[] #[.pointer (some ⟨w.heap.size + 1, 0, none⟩)], .func (.func 29) #[] #[.pointer (some ⟨w.heap.size + 2, 0, none⟩)], .func (.func 31) #[] #[.pointer (some ⟨w.heap.size + 3, 0, none⟩)], .func (.func 33) #[] #[.pointer (some ⟨w.heap.size, 0, none⟩), .pointer (some ⟨w.heap.size + 4, 0, none⟩)]] 64))
    unfold Hid; simpa using this
  have BP : Hid (Blk ((((((w.alloc (.cells #[.int .i64 W, .slice a hs.length cap] 24)).alloc (.cells #[.slice at1 ts.length ct] 25)).alloc (.cells #[.slice al fs.length cl] 26)).alloc (.cells #[.slice ap ps.length cp] 22)).alloc (.cells #[.int .i64 q] 3)).alloc (.cells #[.func (.func 25) #[] #[.pointer (some ⟨w.heap.size, 0, none⟩)], .func (.func 27) #[] #[.pointer (some ⟨w.heap.size + 1, 0, none⟩)], .func (.func 29) #[] #[.pointer (some ⟨w.heap.size + 2, 0, none⟩)], .func (.func 31) #[] #[.pointer (some ⟨w.heap.size + 3, 0, none⟩)], .func (.func 33) #[] #[.pointer (some ⟨w.heap.size, 0, none⟩), .pointer (some ⟨w.heap.size + 4, 0, none⟩)]] 64)) (w.heap.size + 3) #[.slice ap ps.length cp] 22) := by
    have := (((Blk.made (((w.alloc (.cells #[.int .i64 W, .slice a hs.length cap] 24)).alloc (.cells #[.slice at1 ts.length ct] 25)).alloc (.cells #[.slice al fs.length cl] 26)) #[.slice ap ps.length cp] 22).alloc (.cells #[.int .i64 q] 3)).alloc (.cells #[.func (.func 25) #[] #[.pointer (some ⟨w.heap.size, 0, none⟩)], .func (.func 27) #[] #[.pointer (some ⟨w.heap.size + 1, 0, none⟩)], .func (.func 29) #[] #[.pointer (some ⟨w.heap.size + 2, 0, none⟩)], .func (.func 31) #[] #[.pointer (some ⟨w.heap.size + 3, 0, none⟩)], .func (.func 33) #[] #[.pointer (some ⟨w.heap.size, 0, none⟩), .pointer (some ⟨w.heap.size + 4, 0, none⟩)]] 64))
    unfold Hid; simpa using this
  have BQ : Hid (Blk ((((((w.alloc (.cells #[.int .i64 W, .slice a hs.length cap] 24)).alloc (.cells #[.slice at1 ts.length ct] 25)).alloc (.cells #[.slice al fs.length cl] 26)).alloc (.cells #[.slice ap ps.length cp] 22)).alloc (.cells #[.int .i64 q] 3)).alloc (.cells #[.func (.func 25) #[] #[.pointer (some ⟨w.heap.size, 0, none⟩)], .func (.func 27) #[] #[.pointer (some ⟨w.heap.size + 1, 0, none⟩)], .func (.func 29) #[] #[.pointer (some ⟨w.heap.size + 2, 0, none⟩)], .func (.func 31) #[] #[.pointer (some ⟨w.heap.size + 3, 0, none⟩)], .func (.func 33) #[] #[.pointer (some ⟨w.heap.size, 0, none⟩), .pointer (some ⟨w.heap.size + 4, 0, none⟩)]] 64)) (w.heap.size + 4) #[.int .i64 q] 3) := by
    have := ((Blk.made ((((w.alloc (.cells #[.int .i64 W, .slice a hs.length cap] 24)).alloc (.cells #[.slice at1 ts.length ct] 25)).alloc (.cells #[.slice al fs.length cl] 26)).alloc (.cells #[.slice ap ps.length cp] 22)) #[.int .i64 q] 3).alloc (.cells #[.func (.func 25) #[] #[.pointer (some ⟨w.heap.size, 0, none⟩)], .func (.func 27) #[] #[.pointer (some ⟨w.heap.size + 1, 0, none⟩)], .func (.func 29) #[] #[.pointer (some ⟨w.heap.size + 2, 0, none⟩)], .func (.func 31) #[] #[.pointer (some ⟨w.heap.size + 3, 0, none⟩)], .func (.func 33) #[] #[.pointer (some ⟨w.heap.size, 0, none⟩), .pointer (some ⟨w.heap.size + 4, 0, none⟩)]] 64))
    unfold Hid; simpa using this
  have BN : Hid (Blk ((((((w.alloc (.cells #[.int .i64 W, .slice a hs.length cap] 24)).alloc (.cells #[.slice at1 ts.length ct] 25)).alloc (.cells #[.slice al fs.length cl] 26)).alloc (.cells #[.slice ap ps.length cp] 22)).alloc (.cells #[.int .i64 q] 3)).alloc (.cells #[.func (.func 25) #[] #[.pointer (some ⟨w.heap.size, 0, none⟩)], .func (.func 27) #[] #[.pointer (some ⟨w.heap.size + 1, 0, none⟩)], .func (.func 29) #[] #[.pointer (some ⟨w.heap.size + 2, 0, none⟩)], .func (.func 31) #[] #[.pointer (some ⟨w.heap.size + 3, 0, none⟩)], .func (.func 33) #[] #[.pointer (some ⟨w.heap.size, 0, none⟩), .pointer (some ⟨w.heap.size + 4, 0, none⟩)]] 64)) (w.heap.size + 5) #[.func (.func 25) #[] #[.pointer (some ⟨w.heap.size, 0, none⟩)], .func (.func 27) #[] #[.pointer (some ⟨w.heap.size + 1, 0, none⟩)], .func (.func 29) #[] #[.pointer (some ⟨w.heap.size + 2, 0, none⟩)], .func (.func 31) #[] #[.pointer (some ⟨w.heap.size + 3, 0, none⟩)], .func (.func 33) #[] #[.pointer (some ⟨w.heap.size, 0, none⟩), .pointer (some ⟨w.heap.size + 4, 0, none⟩)]] 64) := by
    have := (Blk.made (((((w.alloc (.cells #[.int .i64 W, .slice a hs.length cap] 24)).alloc (.cells #[.slice at1 ts.length ct] 25)).alloc (.cells #[.slice al fs.length cl] 26)).alloc (.cells #[.slice ap ps.length cp] 22)).alloc (.cells #[.int .i64 q] 3)) #[.func (.func 25) #[] #[.pointer (some ⟨w.heap.size, 0, none⟩)], .func (.func 27) #[] #[.pointer (some ⟨w.heap.size + 1, 0, none⟩)], .func (.func 29) #[] #[.pointer (some ⟨w.heap.size + 2, 0, none⟩)], .func (.func 31) #[] #[.pointer (some ⟨w.heap.size + 3, 0, none⟩)], .func (.func 33) #[] #[.pointer (some ⟨w.heap.size, 0, none⟩), .pointer (some ⟨w.heap.size + 4, 0, none⟩)]] 64)
    unfold Hid; simpa using this
  have FR := Lib.hid (first_run (w.heap.size + 5) 5 w.heap.size (w.heap.size + 1) (w.heap.size + 2) (w.heap.size + 3) (w.heap.size + 4) (calE W hs) (clsE ts) (checksE fs) (prsE ps) (tdyE W hs q) ((((((w.alloc (.cells #[.int .i64 W, .slice a hs.length cap] 24)).alloc (.cells #[.slice at1 ts.length ct] 25)).alloc (.cells #[.slice al fs.length cl] 26)).alloc (.cells #[.slice ap ps.length cp] 22)).alloc (.cells #[.int .i64 q] 3)).alloc (.cells #[.func (.func 25) #[] #[.pointer (some ⟨w.heap.size, 0, none⟩)], .func (.func 27) #[] #[.pointer (some ⟨w.heap.size + 1, 0, none⟩)], .func (.func 29) #[] #[.pointer (some ⟨w.heap.size + 2, 0, none⟩)], .func (.func 31) #[] #[.pointer (some ⟨w.heap.size + 3, 0, none⟩)], .func (.func 33) #[] #[.pointer (some ⟨w.heap.size, 0, none⟩), .pointer (some ⟨w.heap.size + 4, 0, none⟩)]] 64))
    (BN.out.cell 0) (BN.out.cell 1) (BN.out.cell 2) (BN.out.cell 3) (BN.out.cell 4)
    (fun w' k => clo1 W _ hs _ w' (BC.out.kpt k) (hr.kpt (ktr K6.out k)) hf)
    (fun w' k => clo2 _ ts _ w' (BT.out.kpt k) (ht.kpt (ktr K6.out k)))
    (fun w' k => clo3 _ fs _ w' (BL.out.kpt k) (hl.kpt (ktr K6.out k)))
    (fun w' k => clo4 _ ps _ w' (BP.out.kpt k) (hp.kpt (ktr K6.out k)))
    (fun w' k => clo5 W q _ hs _ _ w' (BC.out.kpt k) (BQ.out.kpt k) (hr.kpt (ktr K6.out k)) hf))
  unfold calV at *
  have HX : Hid (orE (calE W hs) (orE (clsE ts) (orE (checksE fs) (orE (prsE ps) (tdyE W hs q)))) = 0) := hE
  rw [HX.out] at FR
  unfold preE at hE
  obtain ⟨-, hE⟩ := orE_0 hE
  obtain ⟨hE2, hE⟩ := orE_0 hE
  obtain ⟨hE3, hE⟩ := orE_0 hE
  obtain ⟨hE4, -⟩ := orE_0 hE
  clear hE
  have t6 := clsE_0 hE2
  obtain ⟨p20, pOK⟩ := prsE_0 hE4
  have T6 := Lib.hid t6
  have P20 := Lib.hid p20
  obtain ⟨f60, fOK⟩ := checksE_0 hE3
  have HR := Lib.hid hr
  have HF := Lib.hid hf
  have HT := Lib.hid hct
  have HC := Lib.hid hcl
  have HP := Lib.hid hmp.2
  have DR := Lib.hid (fun k (h : k < fs.length) => drop_at h)
  have DA : Hid (fs.drop fs.length = []) := List.drop_length
  have FB := Lib.hid (fun k (h : k < fs.length) => fl_cls (fOK _ (getF_mem h)))
  have PB := Lib.hid (fun (j : Nat) (h : j < ps.length) => pOK (ps.getD j 0) (by rw [List.getD_eq_getElem?_getD, List.getElem?_eq_getElem h]; simp))
  clear t6 p20 hE2 hE3 hE4 pOK fOK HX ha hct hcl hmp hr ht hl hp hf hbl BN hml
  generalize hX : pdE W hs ts q fs = X
  have HE0 : Hid (X = pdE W hs ts q (fs.drop 0)) := by rw [List.drop_zero]; exact hX.symm
  generalize hD : dueL W hs ts ps q fs = D
  have HD0 : Hid (D = [] ++ dueL W hs ts ps q (fs.drop 0)) := by rw [List.drop_zero]; exact hD.symm
  clear hX hD
  go_enter Try.func8, Try.ntmps8
  go_wp2_with (go_at_call 24; (with_reducible refine FR.out.mono ?_); rintro e w1 ⟨rfl, k1⟩; have KW := Lib.hid (ktr K6.out k1); have XC := Lib.hid (BC.out.kpt k1); have XT := Lib.hid (BT.out.kpt k1); have XP := Lib.hid (BP.out.kpt k1); have XQ := Lib.hid (BQ.out.kpt k1); have XL := Lib.hid (BL.out.kpt k1); have bf0 : World.cell? w1 ⟨w.heap.size + 2, 0, none⟩ = some (.slice al fs.length cl) := XL.out.cell 0; clear k1)
  clear bf0 XL FR BC BT BP BQ BL K6
  have BC := XC
  have BT := XT
  have BP := XP
  have BQ := XQ
  clear XC XT XP XQ
  have K0 : Hid (Kpt w1 w1) := Kpt.refl w1
  have O0 : Hid (OwnsT 41 w1 w1.heap.size (.slice none 0 0) []) := OwnsT.nil _ _ _
  have MW : Hid (w.heap.size ≤ w1.heap.size) := KW.out.size
  go_loopw [13, 30] (fun dv ii wr => ∃ (k : Nat) (es : List (Int × Int × Int)), k ≤ fs.length ∧ ii = .int .i64 (k : Int) ∧ Hid (es.length ≤ k) ∧ Hid (OwnsT 41 wr w1.heap.size dv es) ∧ Hid (X = pdE W hs ts q (fs.drop k)) ∧ Hid (D = es ++ dueL W hs ts ps q (fs.drop k)) ∧ Hid (Kpt w1 wr)) (fun _ ii _ => fs.length - (intOf ii).toNat)
  case atStart => exact ⟨0, [], Nat.zero_le _, rfl, Nat.le_refl _, O0.out, HE0.out, HD0.out, K0.out⟩
  case round =>
    obtain ⟨k, es, hk, rfl, HS, HO, HE, HD, HK⟩ := hrel
    by_cases hlt : k < fs.length
    · obtain ⟨g, off, rfl, hfl⟩ := HC.out k hlt
      have hfl := hfl.kpt (ktr KW.out HK.out)
      have fb := FB.out k hlt
      have t6 := T6.out
      have p20 := P20.out
      have pz := PB.out ((fs.getD k []).getD 4 0 - 1).toNat (by omega)
      obtain ⟨g2, off2, rfl, htc⟩ := HT.out ((fs.getD k []).getD 3 0).toNat (by omega)
      obtain ⟨g3, off3, rfl, hpc⟩ := HP.out ((fs.getD k []).getD 4 0 - 1).toNat (by omega)
      have dr := DR.out k hlt
      have he := HE.out
      rw [dr] at he
      have hd := HD.out
      rw [dr] at hd
      have hs1 := HS.out
      have e1000 : es.length + 1 ≤ 100000 := by omega
      clear HE HD
      have c0 : wr.cell? ⟨g, off + k * 10, none⟩ = _ := hfl 0 (by omega)
      have c1 : wr.cell? ⟨g, off + k * 10 + 1, none⟩ = _ := hfl 1 (by omega)
      have c2 : wr.cell? ⟨g, off + k * 10 + 2, none⟩ = _ := hfl 2 (by omega)
      have c3 : wr.cell? ⟨g, off + k * 10 + 3, none⟩ = _ := hfl 3 (by omega)
      have c4 : wr.cell? ⟨g, off + k * 10 + 4, none⟩ = _ := hfl 4 (by omega)
      have c5 : wr.cell? ⟨g, off + k * 10 + 5, none⟩ = _ := hfl 5 (by omega)
      have c6 : wr.cell? ⟨g, off + k * 10 + 6, none⟩ = _ := hfl 6 (by omega)
      have c7 : wr.cell? ⟨g, off + k * 10 + 7, none⟩ = _ := hfl 7 (by omega)
      have c8 : wr.cell? ⟨g, off + k * 10 + 8, none⟩ = _ := hfl 8 (by omega)
      have c9 : wr.cell? ⟨g, off + k * 10 + 9, none⟩ = _ := hfl 9 (by omega)
      generalize fs.getD k [] = l at *
      have CL := Lib.hid (fun w' (kk : Kpt w w') => cost_L W (prOf ps l) q (tlOf ts l) l _ hs w' (HR.out.kpt kk) HF.out pz)
      unfold calV at CL
      have hpc : w.cell? ⟨g3, off3 + (l.getD 4 0 - 1).toNat, none⟩ = some (.int .i64 (prOf ps l)) := hpc
      have h0 : w.cell? ⟨g2, off2 + (l.getD 3 0).toNat * 4, none⟩ = some (.int .i64 ((tlOf ts l).getD 0 0)) := htc 0 (by omega)
      have h1 : w.cell? ⟨g2, off2 + (l.getD 3 0).toNat * 4 + 1, none⟩ = some (.int .i64 ((tlOf ts l).getD 1 0)) := htc 1 (by omega)
      have h2 : w.cell? ⟨g2, off2 + (l.getD 3 0).toNat * 4 + 2, none⟩ = some (.int .i64 ((tlOf ts l).getD 2 0)) := htc 2 (by omega)
      have h3 : w.cell? ⟨g2, off2 + (l.getD 3 0).toNat * 4 + 3, none⟩ = some (.int .i64 ((tlOf ts l).getD 3 0)) := htc 3 (by omega)
      clear htc hfl pz dr t6 p20
      have ZB : Hid (Blk (wr.alloc (.cells #[.int .i64 0, .int .i64 0, .int .i64 0, .int .i64 0, .int .i64 0, .int .i64 0, .int .i64 0, .int .i64 0, .int .i64 0, .int .i64 0] 39)) wr.heap.size #[.int .i64 0, .int .i64 0, .int .i64 0, .int .i64 0, .int .i64 0, .int .i64 0, .int .i64 0, .int .i64 0, .int .i64 0, .int .i64 0] 39) := Blk.made _ _ _
      have KZ : Hid (Kpt wr (wr.alloc (.cells #[.int .i64 0, .int .i64 0, .int .i64 0, .int .i64 0, .int .i64 0, .int .i64 0, .int .i64 0, .int .i64 0, .int .i64 0, .int .i64 0] 39))) := (Kpt.refl _).alloc _
      have KQ : Hid (Kpt w wr) := ktr KW.out HK.out
      by_cases hL : lkL W hs (tlOf ts l) l q = 0
      · rw [pd_0 hL] at he
        rw [hL] at CL
        by_cases hC0 : 0 < csV W hs (tlOf ts l) l (prOf ps l) q
        · rw [dueL_p hL hC0, ← List.append_assoc] at hd
          have HE2 := Lib.hid he
          have HD2 := Lib.hid hd
          clear he hd hL
          generalize csV W hs (tlOf ts l) l (prOf ps l) q = C at *
          generalize prOf ps l = z at *
          generalize (tlOf ts l).getD 0 0 = te at *
          generalize (tlOf ts l).getD 1 0 = tb at *
          generalize (tlOf ts l).getD 2 0 = td at *
          generalize (tlOf ts l).getD 3 0 = tr at *
          generalize l.getD 0 0 = i at *
          generalize l.getD 1 0 = f at *
          generalize l.getD 2 0 = t at *
          generalize l.getD 3 0 = c at *
          generalize l.getD 4 0 = p at *
          generalize l.getD 5 0 = d at *
          generalize l.getD 6 0 = u at *
          generalize l.getD 7 0 = x at *
          generalize l.getD 8 0 = b at *
          generalize l.getD 9 0 = y at *
          go_wp2_with (refine wp_storeF rfl (.tmp 15) (.tmp 33) rfl wr.heap.size _ _ rfl rfl ZB.out rfl rfl (by simp [Value.oneCell']) ?_; intro w9 r9 k9 o9; have R9 := Lib.hid r9; have K9 : Hid (Kpt wr w9) := k9 _ _ KZ.out (Nat.le_refl _); clear r9 k9 o9)
          have KM9 : Hid (Kpt w1 w9) := ktr HK.out K9.out
          have KW9 : Hid (Kpt w w9) := ktr KQ.out K9.out
          have O9 := Lib.hid (HO.out.kpt K9.out)
          clear c0 c1 c2 c3 c4 c5 c6 c7 c8 c9
          have b0 := cell_k (q := w9) (a := ⟨w.heap.size, 0, none⟩) (v := .int .i64 W) ((BC.out.kpt KM9.out).cell 0)
          have b1 := cell_k (q := w9) (a := ⟨w.heap.size, 1, none⟩) (v := .slice a hs.length cap) ((BC.out.kpt KM9.out).cell 1)
          have b2 := cell_k (q := w9) (a := ⟨(w.heap.size + 1), 0, none⟩) (v := .slice (some ⟨g2, off2, none⟩) ts.length ct) ((BT.out.kpt KM9.out).cell 0)
          have b3 := cell_k (q := w9) (a := ⟨(w.heap.size + 3), 0, none⟩) (v := .slice (some ⟨g3, off3, none⟩) ps.length cp) ((BP.out.kpt KM9.out).cell 0)
          have b4 := cell_k (q := w9) (a := ⟨(w.heap.size + 4), 0, none⟩) (v := .int .i64 q) ((BQ.out.kpt KM9.out).cell 0)
          have t0 := cell_k (q := w9) (a := ⟨g2, off2 + c.toNat * 4, none⟩) (v := .int .i64 te) (KW9.out.cell h0)
          have t1 := cell_k (q := w9) (a := ⟨g2, off2 + c.toNat * 4 + 1, none⟩) (v := .int .i64 tb) (KW9.out.cell h1)
          have t2 := cell_k (q := w9) (a := ⟨g2, off2 + c.toNat * 4 + 2, none⟩) (v := .int .i64 td) (KW9.out.cell h2)
          have t3 := cell_k (q := w9) (a := ⟨g2, off2 + c.toNat * 4 + 3, none⟩) (v := .int .i64 tr) (KW9.out.cell h3)
          obtain ⟨pj, epj⟩ : ∃ pj, (p - 1).toNat = pj := ⟨_, rfl⟩
          have p0 := cell_k (q := w9) (a := ⟨g3, off3 + pj, none⟩) (v := .int .i64 z) (by rw [← epj]; exact KW9.out.cell hpc)
          have r0 := cell_k (q := w9) (a := ⟨wr.heap.size, 0, none⟩) (v := .int .i64 i) (R9.out.cell 0)
          have r1 := cell_k (q := w9) (a := ⟨wr.heap.size, 1, none⟩) (v := .int .i64 f) (R9.out.cell 1)
          have r2 := cell_k (q := w9) (a := ⟨wr.heap.size, 2, none⟩) (v := .int .i64 t) (R9.out.cell 2)
          have r3 := cell_k (q := w9) (a := ⟨wr.heap.size, 3, none⟩) (v := .int .i64 c) (R9.out.cell 3)
          have r4 := cell_k (q := w9) (a := ⟨wr.heap.size, 4, none⟩) (v := .int .i64 p) (R9.out.cell 4)
          have r5 := cell_k (q := w9) (a := ⟨wr.heap.size, 5, none⟩) (v := .int .i64 d) (R9.out.cell 5)
          have r6 := cell_k (q := w9) (a := ⟨wr.heap.size, 6, none⟩) (v := .int .i64 u) (R9.out.cell 6)
          have r7 := cell_k (q := w9) (a := ⟨wr.heap.size, 7, none⟩) (v := .int .i64 x) (R9.out.cell 7)
          have r8 := cell_k (q := w9) (a := ⟨wr.heap.size, 8, none⟩) (v := .int .i64 b) (R9.out.cell 8)
          have r9 := cell_k (q := w9) (a := ⟨wr.heap.size, 9, none⟩) (v := .int .i64 y) (R9.out.cell 9)
          have CK := Lib.hid (fun (p : KptTo w9) => CL.out p.w (ktr KW9.out p.h))
          have n1 : 0 ≤ c := fb.1.1
          have n2 : c < (ts.length : Int) := by have := T6.out; omega
          have n3 : 0 ≤ p - 1 := by omega
          have n4 : p - 1 < (ps.length : Int) := by have := P20.out; omega
          have n5 : -9223372036854775808 ≤ p - 1 := by omega
          have n6 : p - 1 ≤ 9223372036854775807 := by omega
          have n7 : IntKind.i64.wrap (p - 1) = p - 1 := IntWalk.i64_in _ (by omega)
          have mixed : Try.prog.follows .mixedOrders = true := by kernel_rfl
          refine quiet_k (q := w9) mixed (by kernel_rfl) ?_
          repeat (quiet_step (first | (go_at_call 35; with_reducible refine calls_k (CK.out _))))
          refine wpQuiet_nil ?_
          intro w8 hw1
          obtain ⟨⟨wz, kz⟩, hw2⟩ := hw1
          have hw3 : w8 = wz := hw2
          clear hw2
          subst hw3
          clear b0 b1 b2 b3 b4 t0 t1 t2 t3 p0 r0 r1 r2 r3 r4 r5 r6 r7 r8 r9 CK
          have O8 := Lib.hid (O9.out.kpt kz)
          have KM8 := Lib.hid (ktr KM9.out kz)
          have KW8 := Lib.hid (ktr KW9.out kz)
          have R8 := Lib.hid (R9.out.kpt kz)
          have r1 : World.cell? w8 ⟨wr.heap.size, 1, none⟩ = some (.int .i64 f) := R8.out.cell 1
          have r2 : World.cell? w8 ⟨wr.heap.size, 2, none⟩ = some (.int .i64 t) := R8.out.cell 2
          have y1 : decide (0 < C) = true := decide_eq_true hC0
          go_wp2_with (first | (refine wp_appendD rfl (.tmp 57) (.tmp 64) rfl w1.heap.size _ es _ _ _ _ rfl O8.out rfl e1000 KM8.out.size (.slice none 0 0) [] (OwnsT.nil _ _ _) (.inl rfl) ?_; intro dv2 w5 o5 b5 _ _ _; have O5 := Lib.hid o5; have K5 : Hid (Kpt w1 w5) := Below.trans KM8.out b5; clear o5 b5))
          go_roundw
          case rel => exact ⟨k + 1, es ++ [(f, t, C)], by omega, by go_num, by simp; omega, O5.out, HE2.out, HD2.out, K5.out⟩
          case measure => simp [intOf]; omega
        · rw [dueL_n hL hC0] at hd
          have HE2 := Lib.hid he
          have HD2 := Lib.hid hd
          clear he hd hL
          generalize csV W hs (tlOf ts l) l (prOf ps l) q = C at *
          generalize prOf ps l = z at *
          generalize (tlOf ts l).getD 0 0 = te at *
          generalize (tlOf ts l).getD 1 0 = tb at *
          generalize (tlOf ts l).getD 2 0 = td at *
          generalize (tlOf ts l).getD 3 0 = tr at *
          generalize l.getD 0 0 = i at *
          generalize l.getD 1 0 = f at *
          generalize l.getD 2 0 = t at *
          generalize l.getD 3 0 = c at *
          generalize l.getD 4 0 = p at *
          generalize l.getD 5 0 = d at *
          generalize l.getD 6 0 = u at *
          generalize l.getD 7 0 = x at *
          generalize l.getD 8 0 = b at *
          generalize l.getD 9 0 = y at *
          go_wp2_with (refine wp_storeF rfl (.tmp 15) (.tmp 33) rfl wr.heap.size _ _ rfl rfl ZB.out rfl rfl (by simp [Value.oneCell']) ?_; intro w9 r9 k9 o9; have R9 := Lib.hid r9; have K9 : Hid (Kpt wr w9) := k9 _ _ KZ.out (Nat.le_refl _); clear r9 k9 o9)
          have KM9 : Hid (Kpt w1 w9) := ktr HK.out K9.out
          have KW9 : Hid (Kpt w w9) := ktr KQ.out K9.out
          have O9 := Lib.hid (HO.out.kpt K9.out)
          clear c0 c1 c2 c3 c4 c5 c6 c7 c8 c9
          have b0 := cell_k (q := w9) (a := ⟨w.heap.size, 0, none⟩) (v := .int .i64 W) ((BC.out.kpt KM9.out).cell 0)
          have b1 := cell_k (q := w9) (a := ⟨w.heap.size, 1, none⟩) (v := .slice a hs.length cap) ((BC.out.kpt KM9.out).cell 1)
          have b2 := cell_k (q := w9) (a := ⟨(w.heap.size + 1), 0, none⟩) (v := .slice (some ⟨g2, off2, none⟩) ts.length ct) ((BT.out.kpt KM9.out).cell 0)
          have b3 := cell_k (q := w9) (a := ⟨(w.heap.size + 3), 0, none⟩) (v := .slice (some ⟨g3, off3, none⟩) ps.length cp) ((BP.out.kpt KM9.out).cell 0)
          have b4 := cell_k (q := w9) (a := ⟨(w.heap.size + 4), 0, none⟩) (v := .int .i64 q) ((BQ.out.kpt KM9.out).cell 0)
          have t0 := cell_k (q := w9) (a := ⟨g2, off2 + c.toNat * 4, none⟩) (v := .int .i64 te) (KW9.out.cell h0)
          have t1 := cell_k (q := w9) (a := ⟨g2, off2 + c.toNat * 4 + 1, none⟩) (v := .int .i64 tb) (KW9.out.cell h1)
          have t2 := cell_k (q := w9) (a := ⟨g2, off2 + c.toNat * 4 + 2, none⟩) (v := .int .i64 td) (KW9.out.cell h2)
          have t3 := cell_k (q := w9) (a := ⟨g2, off2 + c.toNat * 4 + 3, none⟩) (v := .int .i64 tr) (KW9.out.cell h3)
          obtain ⟨pj, epj⟩ : ∃ pj, (p - 1).toNat = pj := ⟨_, rfl⟩
          have p0 := cell_k (q := w9) (a := ⟨g3, off3 + pj, none⟩) (v := .int .i64 z) (by rw [← epj]; exact KW9.out.cell hpc)
          have r0 := cell_k (q := w9) (a := ⟨wr.heap.size, 0, none⟩) (v := .int .i64 i) (R9.out.cell 0)
          have r1 := cell_k (q := w9) (a := ⟨wr.heap.size, 1, none⟩) (v := .int .i64 f) (R9.out.cell 1)
          have r2 := cell_k (q := w9) (a := ⟨wr.heap.size, 2, none⟩) (v := .int .i64 t) (R9.out.cell 2)
          have r3 := cell_k (q := w9) (a := ⟨wr.heap.size, 3, none⟩) (v := .int .i64 c) (R9.out.cell 3)
          have r4 := cell_k (q := w9) (a := ⟨wr.heap.size, 4, none⟩) (v := .int .i64 p) (R9.out.cell 4)
          have r5 := cell_k (q := w9) (a := ⟨wr.heap.size, 5, none⟩) (v := .int .i64 d) (R9.out.cell 5)
          have r6 := cell_k (q := w9) (a := ⟨wr.heap.size, 6, none⟩) (v := .int .i64 u) (R9.out.cell 6)
          have r7 := cell_k (q := w9) (a := ⟨wr.heap.size, 7, none⟩) (v := .int .i64 x) (R9.out.cell 7)
          have r8 := cell_k (q := w9) (a := ⟨wr.heap.size, 8, none⟩) (v := .int .i64 b) (R9.out.cell 8)
          have r9 := cell_k (q := w9) (a := ⟨wr.heap.size, 9, none⟩) (v := .int .i64 y) (R9.out.cell 9)
          have CK := Lib.hid (fun (p : KptTo w9) => CL.out p.w (ktr KW9.out p.h))
          have n1 : 0 ≤ c := fb.1.1
          have n2 : c < (ts.length : Int) := by have := T6.out; omega
          have n3 : 0 ≤ p - 1 := by omega
          have n4 : p - 1 < (ps.length : Int) := by have := P20.out; omega
          have n5 : -9223372036854775808 ≤ p - 1 := by omega
          have n6 : p - 1 ≤ 9223372036854775807 := by omega
          have n7 : IntKind.i64.wrap (p - 1) = p - 1 := IntWalk.i64_in _ (by omega)
          have mixed : Try.prog.follows .mixedOrders = true := by kernel_rfl
          refine quiet_k (q := w9) mixed (by kernel_rfl) ?_
          repeat (quiet_step (first | (go_at_call 35; with_reducible refine calls_k (CK.out _))))
          refine wpQuiet_nil ?_
          intro w8 hw1
          obtain ⟨⟨wz, kz⟩, hw2⟩ := hw1
          have hw3 : w8 = wz := hw2
          clear hw2
          subst hw3
          clear b0 b1 b2 b3 b4 t0 t1 t2 t3 p0 r0 r1 r2 r3 r4 r5 r6 r7 r8 r9 CK
          have O8 := Lib.hid (O9.out.kpt kz)
          have KM8 := Lib.hid (ktr KM9.out kz)
          have KW8 := Lib.hid (ktr KW9.out kz)
          have R8 := Lib.hid (R9.out.kpt kz)
          have r1 : World.cell? w8 ⟨wr.heap.size, 1, none⟩ = some (.int .i64 f) := R8.out.cell 1
          have r2 : World.cell? w8 ⟨wr.heap.size, 2, none⟩ = some (.int .i64 t) := R8.out.cell 2
          have y1 : decide (0 < C) = false := decide_eq_false (by omega)
          go_wp2
          go_roundw
          case rel => exact ⟨k + 1, es, by omega, by go_num, by unfold Hid; omega, O8.out, HE2.out, HD2.out, KM8.out⟩
          case measure => simp [intOf]; omega
      · rw [pd_1 hL] at he
        have hT : True := trivial
        have z0 : (lkL W hs (tlOf ts l) l q != 0) = true := bne_iff_ne.2 hL
        have HE2 := Lib.hid he
        have HD2 := Lib.hid hd
        have hL := Lib.hid hL
        clear he hd
        generalize lkL W hs (tlOf ts l) l q = E at *
        generalize csV W hs (tlOf ts l) l (prOf ps l) q = C at *
        generalize prOf ps l = z at *
        generalize (tlOf ts l).getD 0 0 = te at *
        generalize (tlOf ts l).getD 1 0 = tb at *
        generalize (tlOf ts l).getD 2 0 = td at *
        generalize (tlOf ts l).getD 3 0 = tr at *
        generalize l.getD 0 0 = i at *
        generalize l.getD 1 0 = f at *
        generalize l.getD 2 0 = t at *
        generalize l.getD 3 0 = c at *
        generalize l.getD 4 0 = p at *
        generalize l.getD 5 0 = d at *
        generalize l.getD 6 0 = u at *
        generalize l.getD 7 0 = x at *
        generalize l.getD 8 0 = b at *
        generalize l.getD 9 0 = y at *
        go_wp2_with (refine wp_storeF rfl (.tmp 15) (.tmp 33) rfl wr.heap.size _ _ rfl rfl ZB.out rfl rfl (by simp [Value.oneCell']) ?_; intro w9 r9 k9 o9; have R9 := Lib.hid r9; have K9 : Hid (Kpt wr w9) := k9 _ _ KZ.out (Nat.le_refl _); clear r9 k9 o9)
        have KM9 : Hid (Kpt w1 w9) := ktr HK.out K9.out
        have KW9 : Hid (Kpt w w9) := ktr KQ.out K9.out
        have O9 := Lib.hid (HO.out.kpt K9.out)
        clear c0 c1 c2 c3 c4 c5 c6 c7 c8 c9
        have b0 := cell_k (q := w9) (a := ⟨w.heap.size, 0, none⟩) (v := .int .i64 W) ((BC.out.kpt KM9.out).cell 0)
        have b1 := cell_k (q := w9) (a := ⟨w.heap.size, 1, none⟩) (v := .slice a hs.length cap) ((BC.out.kpt KM9.out).cell 1)
        have b2 := cell_k (q := w9) (a := ⟨(w.heap.size + 1), 0, none⟩) (v := .slice (some ⟨g2, off2, none⟩) ts.length ct) ((BT.out.kpt KM9.out).cell 0)
        have b3 := cell_k (q := w9) (a := ⟨(w.heap.size + 3), 0, none⟩) (v := .slice (some ⟨g3, off3, none⟩) ps.length cp) ((BP.out.kpt KM9.out).cell 0)
        have b4 := cell_k (q := w9) (a := ⟨(w.heap.size + 4), 0, none⟩) (v := .int .i64 q) ((BQ.out.kpt KM9.out).cell 0)
        have t0 := cell_k (q := w9) (a := ⟨g2, off2 + c.toNat * 4, none⟩) (v := .int .i64 te) (KW9.out.cell h0)
        have t1 := cell_k (q := w9) (a := ⟨g2, off2 + c.toNat * 4 + 1, none⟩) (v := .int .i64 tb) (KW9.out.cell h1)
        have t2 := cell_k (q := w9) (a := ⟨g2, off2 + c.toNat * 4 + 2, none⟩) (v := .int .i64 td) (KW9.out.cell h2)
        have t3 := cell_k (q := w9) (a := ⟨g2, off2 + c.toNat * 4 + 3, none⟩) (v := .int .i64 tr) (KW9.out.cell h3)
        obtain ⟨pj, epj⟩ : ∃ pj, (p - 1).toNat = pj := ⟨_, rfl⟩
        have p0 := cell_k (q := w9) (a := ⟨g3, off3 + pj, none⟩) (v := .int .i64 z) (by rw [← epj]; exact KW9.out.cell hpc)
        have r0 := cell_k (q := w9) (a := ⟨wr.heap.size, 0, none⟩) (v := .int .i64 i) (R9.out.cell 0)
        have r1 := cell_k (q := w9) (a := ⟨wr.heap.size, 1, none⟩) (v := .int .i64 f) (R9.out.cell 1)
        have r2 := cell_k (q := w9) (a := ⟨wr.heap.size, 2, none⟩) (v := .int .i64 t) (R9.out.cell 2)
        have r3 := cell_k (q := w9) (a := ⟨wr.heap.size, 3, none⟩) (v := .int .i64 c) (R9.out.cell 3)
        have r4 := cell_k (q := w9) (a := ⟨wr.heap.size, 4, none⟩) (v := .int .i64 p) (R9.out.cell 4)
        have r5 := cell_k (q := w9) (a := ⟨wr.heap.size, 5, none⟩) (v := .int .i64 d) (R9.out.cell 5)
        have r6 := cell_k (q := w9) (a := ⟨wr.heap.size, 6, none⟩) (v := .int .i64 u) (R9.out.cell 6)
        have r7 := cell_k (q := w9) (a := ⟨wr.heap.size, 7, none⟩) (v := .int .i64 x) (R9.out.cell 7)
        have r8 := cell_k (q := w9) (a := ⟨wr.heap.size, 8, none⟩) (v := .int .i64 b) (R9.out.cell 8)
        have r9 := cell_k (q := w9) (a := ⟨wr.heap.size, 9, none⟩) (v := .int .i64 y) (R9.out.cell 9)
        have CK := Lib.hid (fun (p : KptTo w9) => CL.out p.w (ktr KW9.out p.h))
        have n1 : 0 ≤ c := fb.1.1
        have n2 : c < (ts.length : Int) := by have := T6.out; omega
        have n3 : 0 ≤ p - 1 := by omega
        have n4 : p - 1 < (ps.length : Int) := by have := P20.out; omega
        have n5 : -9223372036854775808 ≤ p - 1 := by omega
        have n6 : p - 1 ≤ 9223372036854775807 := by omega
        have n7 : IntKind.i64.wrap (p - 1) = p - 1 := IntWalk.i64_in _ (by omega)
        have mixed : Try.prog.follows .mixedOrders = true := by kernel_rfl
        refine quiet_k (q := w9) mixed (by kernel_rfl) ?_
        repeat (quiet_step (first | (go_at_call 35; with_reducible refine calls_k (CK.out _))))
        refine wpQuiet_nil ?_
        intro w8 hw1
        obtain ⟨⟨wz, kz⟩, hw2⟩ := hw1
        have hw3 : w8 = wz := hw2
        clear hw2
        subst hw3
        clear b0 b1 b2 b3 b4 t0 t1 t2 t3 p0 r0 r1 r2 r3 r4 r5 r6 r7 r8 r9 CK
        have O8 := Lib.hid (O9.out.kpt kz)
        have KM8 := Lib.hid (ktr KM9.out kz)
        have KW8 := Lib.hid (ktr KW9.out kz)
        have R8 := Lib.hid (R9.out.kpt kz)
        have r1 : World.cell? w8 ⟨wr.heap.size, 1, none⟩ = some (.int .i64 f) := R8.out.cell 1
        have r2 : World.cell? w8 ⟨wr.heap.size, 2, none⟩ = some (.int .i64 t) := R8.out.cell 2
        go_wp2
        go_ret2
        exact dayRes_nil HE2.out.symm (if_neg (by rw [HE2.out]; exact hL.out)) KW8.out
    · obtain rfl : k = fs.length := by omega
      rw [DA.out] at HE HD
      go_wp2
      go_ret2
      exact dayRes_ok HE.out (by unfold ifD; rw [if_pos (show X = 0 from HE.out), (show D = es ++ [] from HD.out)]; simp) HO.out MW.out (ktr KW.out HK.out)

theorem day_any (W q : Int) (v tv lv pv : Value) (hs : List Int) (ts fs : List (List Int)) (ps : List Int) (w : World) (hr : Reads w v hs) (hf : Fits hs) (ht : ReadsT w tv ts) (hl : ReadsF w lv fs) (hp : Reads w pv ps) :
    Calls Try.prog 8 #[calV W v, tv, lv, pv, .int .i64 q] w (DayRes w (dayE W hs ts fs ps q) (dayD W hs ts fs ps q)) := by
  by_cases hE : preE W hs ts fs ps q = 0
  · rw [(day_B hE).2, (day_B hE).1]
    exact day_ok W q v tv lv pv hs ts fs ps w hr hf ht hl hp hE
  · rw [(day_A hE).2, (day_A hE).1]
    exact day_no W q v tv lv pv hs ts fs ps w hr hf ht hl hp hE


end Go.Proofs.Ytmoanndonfmihaa
