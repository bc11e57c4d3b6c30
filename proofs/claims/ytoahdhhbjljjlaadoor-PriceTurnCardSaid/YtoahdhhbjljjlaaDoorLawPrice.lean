/-
  PriceSums, PriceWhole, PriceTurn: the laws answer true.
-/
import Derived.Test.YtoahdhhbjljjlaaDoorPriceC
import Derived.IntWalk
namespace Go.Proofs.YtoahdhhbjljjlaaDoor
open Go.RowKit
set_option linter.unusedVariables false

def cosE (u p : Int) : Int := if amtB u = false then 3 else if prcB p = false then 3 else if amtB (u * p / 10000) = true then 0 else 8
def cosQ (u p : Int) : Int := if cosE u p = 0 then u * p / 10000 else 0
def cosR (u p : Int) : Int := if cosE u p = 0 then u * p % 10000 else 0
theorem cos_t {u p : Int} (h : cosE u p = 0) : amtB u = true ∧ prcB p = true ∧ amtB (u * p / 10000) = true ∧ cosQ u p = u * p / 10000 ∧ cosR u p = u * p % 10000 := by
  unfold cosQ cosR
  rw [if_pos h, if_pos h]
  unfold cosE at h
  by_cases a : amtB u = false
  · rw [if_pos a] at h; cases h
  · rw [if_neg a] at h
    by_cases b : prcB p = false
    · rw [if_pos b] at h; cases h
    · rw [if_neg b] at h
      by_cases c : amtB (u * p / 10000) = true
      · exact ⟨by simpa using a, by simpa using b, c, rfl, rfl⟩
      · rw [if_neg c] at h; cases h
theorem cos_f {u p : Int} (h : cosE u p ≠ 0) : cosQ u p = 0 ∧ cosR u p = 0 ∧ (cosE u p = 3 ∨ cosE u p = 8) := by
  unfold cosQ cosR
  rw [if_neg h, if_neg h]
  refine ⟨rfl, rfl, ?_⟩
  unfold cosE at h ⊢
  split
  · exact .inl rfl
  · split
    · exact .inl rfl
    · split
      · rename_i a b c; rw [if_neg a, if_neg b, if_pos c] at h; exact absurd rfl h
      · exact .inr rfl
theorem cost_any (u p : Int) (w : World) : Calls Tryd.prog 10 #[.int .i64 u, .int .i64 p] w fun e w' => e = .returned (.tuple #[.int .i64 (cosQ u p), .int .i64 (cosR u p), .int .i64 (cosE u p)]) ∧ Kpt w w' := by
  have key : Calls Tryd.prog 10 #[.int .i64 u, .int .i64 p] w fun e w' => e = .returned (.tuple #[.int .i64 (cosQ u p), .int .i64 (cosR u p), .int .i64 (cosE u p)]) ∧ Grew w w' := by
    unfold cosQ cosR cosE
    cases ha : amtB u with
    | false => exact cost_no u p ha w
    | true =>
      cases hp : prcB p with
      | false => exact cost_price u p ha hp w
      | true =>
        obtain ⟨p0, p1⟩ := prc_t hp
        have hr : rngB p 10000 = true := rng_mk p0 p1 (by decide) (by decide)
        cases hq : amtB (u * p / 10000) with
        | true => exact cost_is u p _ _ 0 ha hp (fun w => part_ok u p 10000 ha hr hq w) w
        | false => exact cost_is u p 0 0 8 ha hp (fun w => part_wide u p 10000 ha hr hq w) w
  exact key.mono fun e w' h => ⟨h.1, h.2.kpt⟩

/-- LAWS -/
theorem laws_here : True := trivial
set_option maxRecDepth 100000 in
set_option maxHeartbeats 2000000 in
theorem priceSums_walk (a b p : Int) (w : World) (hm : MaxL w) (ht : PowT w) :
    Calls Tryd.prog 5 #[.int .i64 a, .int .i64 b, .int .i64 p] w fun r w' => r = .returned (.bool true) ∧ Kpt w w' := by
  have B := Lib.hid (fun w' (g : Kpt w w') => priceBegun w' (hm.kpt g) (ht.kpt g))
  have G := Lib.hid (Kpt.refl w)
  clear hm ht
  have C1 := Lib.hid (fun w => cost_any a p w)
  have C2 := Lib.hid (fun w => cost_any b p w)
  by_cases he : cosE a p = 0
  · by_cases hf : cosE b p = 0
    · obtain ⟨a1, p1, q1, e1, e2⟩ := cos_t he
      obtain ⟨b1, _, q2, f1, f2⟩ := cos_t hf
      rw [he, e1, e2] at C1
      rw [hf, f1, f2] at C2
      obtain ⟨a2, a3⟩ := amt_t a1
      obtain ⟨b2, b3⟩ := amt_t b1
      obtain ⟨x2, x3⟩ := amt_t q1
      obtain ⟨y2, y3⟩ := amt_t q2
      have C3 := Lib.hid (fun w => cost_any (a + b) p w)
      have E3 : cosE (a + b) p = 0 ∨ cosE (a + b) p = 3 ∨ cosE (a + b) p = 8 := by
        by_cases h : cosE (a + b) p = 0
        · exact .inl h
        · exact .inr (cos_f h).2.2
      have V : cosE (a + b) p = 0 → cosQ (a + b) p = (a * p + b * p) / 10000 ∧ cosR (a + b) p = (a * p + b * p) % 10000 := fun h => by
        obtain ⟨_, _, _, g1, g2⟩ := cos_t h
        rw [g1, g2, Int.add_mul]; exact ⟨rfl, rfl⟩
      generalize a * p = A at *
      generalize b * p = BB at *
      generalize cosE (a + b) p = E at *
      generalize cosQ (a + b) p = Z at *
      generalize cosR (a + b) p = T at *
      obtain ⟨x, hx⟩ : ∃ x, A / 10000 = x := ⟨_, rfl⟩
      obtain ⟨r, hr⟩ : ∃ r, A % 10000 = r := ⟨_, rfl⟩
      obtain ⟨y, hy⟩ : ∃ y, BB / 10000 = y := ⟨_, rfl⟩
      obtain ⟨s, hs⟩ : ∃ s, BB % 10000 = s := ⟨_, rfl⟩
      have r0 : 0 ≤ r := by omega
      have r1 : r < 10000 := by omega
      have s0 : 0 ≤ s := by omega
      have s1 : s < 10000 := by omega
      rw [hx] at x2 x3
      rw [hy] at y2 y3
      rw [hx, hr] at C1
      rw [hy, hs] at C2
      rcases E3 with rfl | rfl | rfl
      · obtain ⟨v1, v2⟩ := V rfl
        by_cases o : 10000 ≤ r + s
        · obtain rfl : Z = x + y + 1 := by omega
          obtain rfl : T = r + s - 10000 := by omega
          clear he hf e1 e2 f1 f2 v1 v2 hx hr hy hs V a1 b1 p1 q1 q2
          go_enter Tryd.func5, Tryd.ntmps5
          go_wp2_with (first
            | (go_at_call 10; (with_reducible refine (C1.out _).mono ?_); rintro e w1 ⟨rfl, g1⟩; have G := Lib.hid (ktr G.out g1); clear g1)
            | (go_at_call 10; (with_reducible refine (C2.out _).mono ?_); rintro e w1 ⟨rfl, g1⟩; have G := Lib.hid (ktr G.out g1); clear g1)
            | (go_at_call 18; (with_reducible refine (B.out _ G.out).mono ?_); rintro e w1 ⟨rfl, g1⟩; have G := Lib.hid (ktr G.out g1); clear g1)
            | (go_at_call 10; (with_reducible refine (C3.out _).mono ?_); rintro e w1 ⟨rfl, g1⟩; have G := Lib.hid (ktr G.out g1); clear g1))
          go_ret
          exact ⟨rfl, G.out⟩
        · obtain rfl : Z = x + y := by omega
          obtain rfl : T = r + s := by omega
          clear he hf e1 e2 f1 f2 v1 v2 hx hr hy hs V a1 b1 p1 q1 q2
          go_enter Tryd.func5, Tryd.ntmps5
          go_wp2_with (first
            | (go_at_call 10; (with_reducible refine (C1.out _).mono ?_); rintro e w1 ⟨rfl, g1⟩; have G := Lib.hid (ktr G.out g1); clear g1)
            | (go_at_call 10; (with_reducible refine (C2.out _).mono ?_); rintro e w1 ⟨rfl, g1⟩; have G := Lib.hid (ktr G.out g1); clear g1)
            | (go_at_call 18; (with_reducible refine (B.out _ G.out).mono ?_); rintro e w1 ⟨rfl, g1⟩; have G := Lib.hid (ktr G.out g1); clear g1)
            | (go_at_call 10; (with_reducible refine (C3.out _).mono ?_); rintro e w1 ⟨rfl, g1⟩; have G := Lib.hid (ktr G.out g1); clear g1))
          go_ret
          exact ⟨rfl, G.out⟩
      · clear he hf e1 e2 f1 f2 hx hr hy hs V a1 b1 p1 q1 q2
        go_enter Tryd.func5, Tryd.ntmps5
        go_wp2_with (first
          | (go_at_call 10; (with_reducible refine (C1.out _).mono ?_); rintro e w1 ⟨rfl, g1⟩; have G := Lib.hid (ktr G.out g1); clear g1)
          | (go_at_call 10; (with_reducible refine (C2.out _).mono ?_); rintro e w1 ⟨rfl, g1⟩; have G := Lib.hid (ktr G.out g1); clear g1)
          | (go_at_call 18; (with_reducible refine (B.out _ G.out).mono ?_); rintro e w1 ⟨rfl, g1⟩; have G := Lib.hid (ktr G.out g1); clear g1)
          | (go_at_call 10; (with_reducible refine (C3.out _).mono ?_); rintro e w1 ⟨rfl, g1⟩; have G := Lib.hid (ktr G.out g1); clear g1))
        go_ret
        exact ⟨rfl, G.out⟩
      · clear he hf e1 e2 f1 f2 hx hr hy hs V a1 b1 p1 q1 q2
        go_enter Tryd.func5, Tryd.ntmps5
        go_wp2_with (first
          | (go_at_call 10; (with_reducible refine (C1.out _).mono ?_); rintro e w1 ⟨rfl, g1⟩; have G := Lib.hid (ktr G.out g1); clear g1)
          | (go_at_call 10; (with_reducible refine (C2.out _).mono ?_); rintro e w1 ⟨rfl, g1⟩; have G := Lib.hid (ktr G.out g1); clear g1)
          | (go_at_call 18; (with_reducible refine (B.out _ G.out).mono ?_); rintro e w1 ⟨rfl, g1⟩; have G := Lib.hid (ktr G.out g1); clear g1)
          | (go_at_call 10; (with_reducible refine (C3.out _).mono ?_); rintro e w1 ⟨rfl, g1⟩; have G := Lib.hid (ktr G.out g1); clear g1))
        go_ret
        exact ⟨rfl, G.out⟩
    · obtain ⟨_, _, _, e1, e2⟩ := cos_t he
      obtain ⟨f1, f2, f3⟩ := cos_f hf
      rw [he] at C1
      rw [f1, f2] at C2
      generalize cosE b p = E at C2 hf
      have q1 : (E == 0) = false := beq_eq_false_iff_ne.2 hf
      have q2 : (E != 0) = true := bne_iff_ne.2 hf
      generalize cosQ a p = x at C1
      generalize cosR a p = r at C1
      clear he hf e1 e2 f1 f2 f3
      go_enter Tryd.func5, Tryd.ntmps5
      go_wp2_with (first
        | (go_at_call 10; (with_reducible refine (C1.out _).mono ?_); rintro e w1 ⟨rfl, g1⟩; have G := Lib.hid (ktr G.out g1); clear g1)
        | (go_at_call 10; (with_reducible refine (C2.out _).mono ?_); rintro e w1 ⟨rfl, g1⟩; have G := Lib.hid (ktr G.out g1); clear g1)
        | (go_at_call 18; (with_reducible refine (B.out _ G.out).mono ?_); rintro e w1 ⟨rfl, g1⟩; have G := Lib.hid (ktr G.out g1); clear g1))
      go_ret
      exact ⟨rfl, G.out⟩
  · obtain ⟨f1, f2, f3⟩ := cos_f he
    rw [f1, f2] at C1
    generalize cosE a p = E at C1 he
    generalize cosE b p = F at C2
    generalize cosQ b p = y at C2
    generalize cosR b p = s at C2
    have q1 : (E == 0) = false := beq_eq_false_iff_ne.2 he
    have q2 : (E != 0) = true := bne_iff_ne.2 he
    clear he f1 f2 f3
    go_enter Tryd.func5, Tryd.ntmps5
    go_wp2_with (first
      | (go_at_call 10; (with_reducible refine (C1.out _).mono ?_); rintro e w1 ⟨rfl, g1⟩; have G := Lib.hid (ktr G.out g1); clear g1)
      | (go_at_call 10; (with_reducible refine (C2.out _).mono ?_); rintro e w1 ⟨rfl, g1⟩; have G := Lib.hid (ktr G.out g1); clear g1)
      | (go_at_call 18; (with_reducible refine (B.out _ G.out).mono ?_); rintro e w1 ⟨rfl, g1⟩; have G := Lib.hid (ktr G.out g1); clear g1))
    go_ret
    exact ⟨rfl, G.out⟩

set_option maxRecDepth 100000 in
set_option maxHeartbeats 2000000 in
theorem priceTurn_walk (u p : Int) (w : World) (hm : MaxL w) (ht : PowT w) :
    Calls Tryd.prog 7 #[.int .i64 u, .int .i64 p] w fun r w' => r = .returned (.bool true) ∧ Kpt w w' := by
  have B := Lib.hid (fun w' (g : Kpt w w') => priceBegun w' (hm.kpt g) (ht.kpt g))
  have G := Lib.hid (Kpt.refl w)
  clear hm ht
  have C1 := Lib.hid (fun w => cost_any u p w)
  by_cases he : cosE u p = 0
  · obtain ⟨a1, p1, q1, e1, e2⟩ := cos_t he
    rw [he, e1, e2] at C1
    obtain ⟨a2, a3⟩ := amt_t a1
    obtain ⟨x2, x3⟩ := amt_t q1
    have C2 := Lib.hid (fun w => cost_any (-u) p w)
    have n1 : amtB (-u) = true := decide_eq_true (by omega)
    have E2 : cosE (-u) p = if amtB (-(u * p) / 10000) = true then 0 else 8 := by
      unfold cosE; rw [if_neg (by rw [n1]; simp), if_neg (by rw [p1]; simp), Int.neg_mul]
    have V : cosE (-u) p = 0 → cosQ (-u) p = -(u * p) / 10000 ∧ cosR (-u) p = -(u * p) % 10000 := fun h => by
      obtain ⟨_, _, _, g1, g2⟩ := cos_t h
      rw [g1, g2, Int.neg_mul]; exact ⟨rfl, rfl⟩
    have V2 : cosE (-u) p ≠ 0 → cosQ (-u) p = 0 ∧ cosR (-u) p = 0 := fun h => ⟨(cos_f h).1, (cos_f h).2.1⟩
    generalize u * p = A at *
    generalize cosE (-u) p = E at *
    generalize cosQ (-u) p = Z at *
    generalize cosR (-u) p = T at *
    obtain ⟨c, hc⟩ : ∃ c, A / 10000 = c := ⟨_, rfl⟩
    obtain ⟨r, hr⟩ : ∃ r, A % 10000 = r := ⟨_, rfl⟩
    have r0 : 0 ≤ r := by omega
    have r1 : r < 10000 := by omega
    rw [hc] at x2 x3
    rw [hc, hr] at C1
    by_cases hz : r = 0
    · have hA : amtB (-A / 10000) = true := decide_eq_true (by omega)
      rw [if_pos hA] at E2
      obtain ⟨v1, v2⟩ := V E2
      obtain rfl : Z = -c := by omega
      obtain rfl : T = 0 := by omega
      subst E2 hz
      clear he e1 e2 v1 v2 hc hr V V2 a1 p1 q1 n1 hA
      go_enter Tryd.func7, Tryd.ntmps7
      go_wp2_with (first
        | (go_at_call 10; (with_reducible refine (C1.out _).mono ?_); rintro e w1 ⟨rfl, g1⟩; have G := Lib.hid (ktr G.out g1); clear g1)
        | (go_at_call 18; (with_reducible refine (B.out _ G.out).mono ?_); rintro e w1 ⟨rfl, g1⟩; have G := Lib.hid (ktr G.out g1); clear g1)
        | (go_at_call 10; (with_reducible refine (C2.out _).mono ?_); rintro e w1 ⟨rfl, g1⟩; have G := Lib.hid (ktr G.out g1); clear g1))
      go_ret
      exact ⟨rfl, G.out⟩
    · have z1 : (r == 0) = false := beq_eq_false_iff_ne.2 hz
      by_cases hA : amtB (-A / 10000) = true
      · rw [if_pos hA] at E2
        obtain ⟨v1, v2⟩ := V E2
        obtain rfl : Z = -c - 1 := by omega
        obtain rfl : T = 10000 - r := by omega
        have hA' := amt_t hA
        have x4 : c ≤ 1152921504606846975 := by omega
        subst E2
        clear he e1 e2 v1 v2 hc hr V V2 a1 p1 q1 n1 hA hz hA'
        go_enter Tryd.func7, Tryd.ntmps7
        go_wp2_with (first
          | (go_at_call 10; (with_reducible refine (C1.out _).mono ?_); rintro e w1 ⟨rfl, g1⟩; have G := Lib.hid (ktr G.out g1); clear g1)
          | (go_at_call 18; (with_reducible refine (B.out _ G.out).mono ?_); rintro e w1 ⟨rfl, g1⟩; have G := Lib.hid (ktr G.out g1); clear g1)
          | (go_at_call 10; (with_reducible refine (C2.out _).mono ?_); rintro e w1 ⟨rfl, g1⟩; have G := Lib.hid (ktr G.out g1); clear g1))
        go_ret
        exact ⟨rfl, G.out⟩
      · rw [if_neg hA] at E2
        obtain ⟨v1, v2⟩ := V2 (by rw [E2]; decide)
        subst E2
        subst v1 v2
        clear he e1 e2 hc hr V V2 a1 p1 q1 n1 hA hz
        go_enter Tryd.func7, Tryd.ntmps7
        go_wp2_with (first
          | (go_at_call 10; (with_reducible refine (C1.out _).mono ?_); rintro e w1 ⟨rfl, g1⟩; have G := Lib.hid (ktr G.out g1); clear g1)
          | (go_at_call 18; (with_reducible refine (B.out _ G.out).mono ?_); rintro e w1 ⟨rfl, g1⟩; have G := Lib.hid (ktr G.out g1); clear g1)
          | (go_at_call 10; (with_reducible refine (C2.out _).mono ?_); rintro e w1 ⟨rfl, g1⟩; have G := Lib.hid (ktr G.out g1); clear g1))
        go_ret
        exact ⟨rfl, G.out⟩
  · obtain ⟨f1, f2, f3⟩ := cos_f he
    rw [f1, f2] at C1
    generalize cosE u p = E at C1 he
    have q1 : (E == 0) = false := beq_eq_false_iff_ne.2 he
    have q2 : (E != 0) = true := bne_iff_ne.2 he
    clear he f1 f2 f3
    go_enter Tryd.func7, Tryd.ntmps7
    go_wp2_with (first
      | (go_at_call 10; (with_reducible refine (C1.out _).mono ?_); rintro e w1 ⟨rfl, g1⟩; have G := Lib.hid (ktr G.out g1); clear g1)
      | (go_at_call 18; (with_reducible refine (B.out _ G.out).mono ?_); rintro e w1 ⟨rfl, g1⟩; have G := Lib.hid (ktr G.out g1); clear g1))
    go_ret
    exact ⟨rfl, G.out⟩

set_option maxRecDepth 100000 in
set_option maxHeartbeats 2000000 in
theorem priceWhole_walk (u p : Int) (w : World) (hm : MaxL w) (ht : PowT w) :
    Calls Tryd.prog 6 #[.int .i64 u, .int .i64 p] w fun r w' => r = .returned (.bool true) ∧ Kpt w w' := by
  have B := Lib.hid (fun w' (g : Kpt w w') => priceBegun w' (hm.kpt g) (ht.kpt g))
  have G := Lib.hid (Kpt.refl w)
  clear hm ht
  by_cases h1 : u < -1000000
  · go_enter Tryd.func6, Tryd.ntmps6
    go_wp2_with (first
      | (go_at_call 18; (with_reducible refine (B.out _ G.out).mono ?_); rintro e w1 ⟨rfl, g1⟩; have G := Lib.hid (ktr G.out g1); clear g1))
    go_ret
    exact ⟨rfl, G.out⟩
  · by_cases h2 : 1000000 < u
    · have k1 : -1000000 ≤ u := by omega
      clear h1
      go_enter Tryd.func6, Tryd.ntmps6
      go_wp2_with (first
        | (go_at_call 18; (with_reducible refine (B.out _ G.out).mono ?_); rintro e w1 ⟨rfl, g1⟩; have G := Lib.hid (ktr G.out g1); clear g1))
      go_ret
      exact ⟨rfl, G.out⟩
    · by_cases h3 : p < 1
      · have k1 : -1000000 ≤ u := by omega
        have k2 : u ≤ 1000000 := by omega
        clear h1 h2
        go_enter Tryd.func6, Tryd.ntmps6
        go_wp2_with (first
          | (go_at_call 18; (with_reducible refine (B.out _ G.out).mono ?_); rintro e w1 ⟨rfl, g1⟩; have G := Lib.hid (ktr G.out g1); clear g1))
        go_ret
        exact ⟨rfl, G.out⟩
      · by_cases h4 : 1000000 < p
        · have k1 : -1000000 ≤ u := by omega
          have k2 : u ≤ 1000000 := by omega
          have k3 : 1 ≤ p := by omega
          clear h1 h2 h3
          go_enter Tryd.func6, Tryd.ntmps6
          go_wp2_with (first
            | (go_at_call 18; (with_reducible refine (B.out _ G.out).mono ?_); rintro e w1 ⟨rfl, g1⟩; have G := Lib.hid (ktr G.out g1); clear g1))
          go_ret
          exact ⟨rfl, G.out⟩
        · have k1 : -1000000 ≤ u := by omega
          have k2 : u ≤ 1000000 := by omega
          have k3 : 1 ≤ p := by omega
          have k4 : p ≤ 1000000 := by omega
          clear h1 h2 h3 h4
          have m1 : u * p ≤ 1000000 * 1000000 := by
            rcases Int.le_total 0 u with h | h
            · exact Int.mul_le_mul k2 k4 (by omega) (by omega)
            · have := Int.mul_nonneg (show 0 ≤ -u by omega) (show 0 ≤ p by omega)
              rw [Int.neg_mul] at this; omega
          have m2 : -(1000000 * 1000000) ≤ u * p := by
            rcases Int.le_total 0 u with h | h
            · have := Int.mul_nonneg h (show 0 ≤ p by omega); omega
            · have : -u * p ≤ 1000000 * 1000000 := Int.mul_le_mul (show -u ≤ 1000000 by omega) k4 (by omega) (by omega)
              rw [Int.neg_mul] at this; omega
          have pp : prcB (p * 10000) = true := prc_mk (by omega) (by omega)
          have C1 := Lib.hid (fun w => (cost_is u (p * 10000) (u * p) 0 0 (decide_eq_true (by omega)) pp (fun w => by
            have := part_ok u (p * 10000) 10000 (decide_eq_true (by omega)) (rng_mk (by omega) (by omega) (by decide) (by decide)) (by rw [← Int.mul_assoc, Int.mul_ediv_cancel _ (by decide)]; exact decide_eq_true (by omega)) w
            rw [← Int.mul_assoc, Int.mul_ediv_cancel _ (by decide), Int.mul_emod_left] at this
            exact this) w).mono fun e w' h => (⟨h.1, h.2.kpt⟩ : e = _ ∧ Kpt w w'))
          have q0 : prcB p = true := prc_mk (by omega) (by omega)
          have A1 := Lib.hid (fun w => (apart_ok p p q0 q0 k3 w).mono fun e w' h => (⟨h.1, h.2.kpt⟩ : e = _ ∧ Kpt w w'))
          have A2 := Lib.hid (fun w => (apart_ok p (2 * p) q0 (prc_mk (by omega) (by omega)) k3 w).mono fun e w' h => (⟨h.1, h.2.kpt⟩ : e = _ ∧ Kpt w w'))
          have A3 := Lib.hid (fun w => (apart_ok p 0 q0 (by decide) k3 w).mono fun e w' h => (⟨h.1, h.2.kpt⟩ : e = _ ∧ Kpt w w'))
          rw [show (p - p) * 10000 / p = 0 by rw [Int.sub_self]; simp] at A1
          rw [show (2 * p - p) * 10000 / p = 10000 by rw [show (2 * p - p) * 10000 = 10000 * p by omega, Int.mul_ediv_cancel _ (by omega)]] at A2
          rw [show (0 - p) * 10000 / p = -10000 by rw [show (0 - p) * 10000 = -10000 * p by omega, Int.mul_ediv_cancel _ (by omega)]] at A3
          have hw := IntWalk.i64_in (u * p) (by omega)
          obtain ⟨z, hz⟩ : ∃ z, u * p = z := ⟨_, rfl⟩
          have hw2 : IntKind.i64.wrap (u * p) = z := hw.trans hz
          rw [hz] at C1
          clear hw hz m1 m2 pp q0
          go_enter Tryd.func6, Tryd.ntmps6
          go_wp2_with (first
            | (go_at_call 18; (with_reducible refine (B.out _ G.out).mono ?_); rintro e w1 ⟨rfl, g1⟩; have G := Lib.hid (ktr G.out g1); clear g1)
            | (go_at_call 10; (with_reducible refine (C1.out _).mono ?_); rintro e w1 ⟨rfl, g1⟩; have G := Lib.hid (ktr G.out g1); clear g1)
            | (go_at_call 11; (with_reducible refine (A1.out _).mono ?_); rintro e w1 ⟨rfl, g1⟩; have G := Lib.hid (ktr G.out g1); clear g1)
            | (go_at_call 11; (with_reducible refine (A2.out _).mono ?_); rintro e w1 ⟨rfl, g1⟩; have G := Lib.hid (ktr G.out g1); clear g1)
            | (go_at_call 11; (with_reducible refine (A3.out _).mono ?_); rintro e w1 ⟨rfl, g1⟩; have G := Lib.hid (ktr G.out g1); clear g1))
          go_ret
          exact ⟨rfl, G.out⟩

end Go.Proofs.YtoahdhhbjljjlaaDoor
