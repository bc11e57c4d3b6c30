/-
  PriceTells: the law answers true.
-/
import Derived.Test.YtoahdhhbjljjlaaDoorPriceS
import Derived.Test.YtoahdhhbjljjlaaDoorLawPrice2
import Derived.Test.YtoahdhhbjljjlaaDoorRefPart2
namespace Go.Proofs.YtoahdhhbjljjlaaDoor
open Go.RowKit
set_option linter.unusedVariables false

/-- both ways of telling how far apart two prices are answer the same -/
def ApartBoth (a b x h : Int) : Prop := (∀ w, Calls Tryd.prog 11 #[.int .i64 a, .int .i64 b] w fun e w' => e = .returned (.tuple #[.int .i64 x, .int .i64 h]) ∧ Kpt w w') ∧ (∀ w, Calls Tryd.prog 17 #[.int .i64 a, .int .i64 b] w fun e w' => e = .returned (.tuple #[.int .i64 x, .int .i64 h]) ∧ w = w')
theorem rapart_rng (a b : Int) (h : prcB a = false ∨ (prcB a = true ∧ prcB b = false)) (w : World) : Calls Tryd.prog 17 #[.int .i64 a, .int .i64 b] w fun e w' => e = .returned (.tuple #[.int .i64 0, .int .i64 3]) ∧ w = w' := by
  rcases h with h | ⟨h, h2⟩
  · have C := Lib.hid (fun w => rchkp_no a h w)
    clear h
    go_enter Tryd.func17, Tryd.ntmps17
    go_wp2_with (go_at_call 12; (with_reducible refine (C.out _).mono ?_); rintro e w' ⟨rfl, rfl⟩)
    go_ret2
    exact ⟨rfl, rfl⟩
  · have C := Lib.hid (fun w => rchkp_ok a h w)
    have C2 := Lib.hid (fun w => rchkp_no b h2 w)
    clear h h2
    go_enter Tryd.func17, Tryd.ntmps17
    go_wp2_with (first
      | (go_at_call 12; (with_reducible refine (C.out _).mono ?_); rintro e w' ⟨rfl, rfl⟩)
      | (go_at_call 12; (with_reducible refine (C2.out _).mono ?_); rintro e w' ⟨rfl, rfl⟩))
    go_ret2
    exact ⟨rfl, rfl⟩
theorem rapart_zero (b : Int) (h2 : prcB b = true) (w : World) : Calls Tryd.prog 17 #[.int .i64 0, .int .i64 b] w fun e w' => e = .returned (.tuple #[.int .i64 0, .int .i64 1]) ∧ w = w' := by
  have C := Lib.hid (fun w => rchkp_ok 0 (by decide) w)
  have C2 := Lib.hid (fun w => rchkp_ok b h2 w)
  clear h2
  go_enter Tryd.func17, Tryd.ntmps17
  go_wp2_with (first
    | (go_at_call 12; (with_reducible refine (C.out _).mono ?_); rintro e w' ⟨rfl, rfl⟩)
    | (go_at_call 12; (with_reducible refine (C2.out _).mono ?_); rintro e w' ⟨rfl, rfl⟩))
  go_ret2
  exact ⟨rfl, rfl⟩
theorem rapart_is (a b q r E : Int) (h : prcB a = true) (h2 : prcB b = true) (h0 : 1 ≤ a) (P : RPart (b - a) 10000 a q r E) (w : World) : Calls Tryd.prog 17 #[.int .i64 a, .int .i64 b] w fun e w' => e = .returned (.tuple #[.int .i64 q, .int .i64 E]) ∧ w = w' := by
  have C := Lib.hid (fun w => rchkp_ok a h w)
  have C2 := Lib.hid (fun w => rchkp_ok b h2 w)
  obtain ⟨a0, a1⟩ := prc_t h
  obtain ⟨b0, b1⟩ := prc_t h2
  clear h h2
  go_enter Tryd.func17, Tryd.ntmps17
  go_wp2_with (first
    | (go_at_call 12; (with_reducible refine (C.out _).mono ?_); rintro e w' ⟨rfl, rfl⟩)
    | (go_at_call 12; (with_reducible refine (C2.out _).mono ?_); rintro e w' ⟨rfl, rfl⟩)
    | (go_at_call 16; (with_reducible refine (P.run _).mono ?_); rintro e w' ⟨rfl, rfl⟩))
  go_ret2
  exact ⟨rfl, rfl⟩
theorem apart_is (a b q r E : Int) (h : prcB a = true) (h2 : prcB b = true) (h0 : 1 ≤ a) (P : PartIs (b - a) 10000 a q r E) (w : World) : Calls Tryd.prog 11 #[.int .i64 a, .int .i64 b] w fun e w' => e = .returned (.tuple #[.int .i64 q, .int .i64 E]) ∧ Grew w w' := by
  have C := Lib.hid (fun w => pcheck_ok a h w)
  have C2 := Lib.hid (fun w => pcheck_ok b h2 w)
  obtain ⟨a0, a1⟩ := prc_t h
  obtain ⟨b0, b1⟩ := prc_t h2
  clear h h2
  go_enter Tryd.func11, Tryd.ntmps11
  go_wp2_with (first
    | (go_at_call 19; (with_reducible refine (C.out _).mono ?_); rintro e w' ⟨rfl, rfl⟩)
    | (go_at_call 19; (with_reducible refine (C2.out _).mono ?_); rintro e w' ⟨rfl, rfl⟩)
    | (go_at_call 27; (with_reducible refine (P.run _).mono ?_); rintro e w1 ⟨rfl, g1⟩))
  go_ret2
  exact ⟨rfl, g1⟩
theorem apart_both (a b : Int) : ∃ x h, ApartBoth a b x h := by
  cases ha : prcB a with
  | false => exact ⟨0, 3, fun w => (apart_was a b ha w).mono fun e w' h => ⟨h.1, by rw [h.2]; exact Kpt.refl _⟩, fun w => rapart_rng a b (.inl ha) w⟩
  | true =>
    cases hb : prcB b with
    | false => exact ⟨0, 3, fun w => (apart_now a b ha hb w).mono fun e w' h => ⟨h.1, by rw [h.2]; exact Kpt.refl _⟩, fun w => rapart_rng a b (.inr ⟨ha, hb⟩) w⟩
    | true =>
      by_cases hz : a = 0
      · subst hz
        exact ⟨0, 1, fun w => (apart_zero b hb w).mono fun e w' h => ⟨h.1, by rw [h.2]; exact Kpt.refl _⟩, fun w => rapart_zero b hb w⟩
      · have h0 : 1 ≤ a := by have := prc_t ha; omega
        obtain ⟨q, r, E, P, R⟩ := part_both (b - a) 10000 a
        exact ⟨q, E, fun w => (apart_is a b q r E ha hb h0 P w).mono fun e w' h => ⟨h.1, h.2.kpt⟩, fun w => rapart_is a b q r E ha hb h0 R w⟩

set_option maxRecDepth 100000 in
set_option maxHeartbeats 4000000 in
theorem priceTells_walk (p now u : Int) (s : ByteArray) (w : World) (hm : MaxL w) (ht : PowT w) (hs : s.size < 4294967281) :
    Calls Tryd.prog 3 #[.int .i64 p, .int .i64 now, .int .i64 u, .string s] w fun r w' => r = .returned (.bool true) ∧ Kpt w w' := by
  have B := Lib.hid (fun w' (g : Kpt w w') => priceBegun w' (hm.kpt g) (ht.kpt g))
  have G := Lib.hid (Kpt.refl w)
  have R1 := Lib.hid (fun w' (g : Kpt w w') => read_any s hs w' (hm.kpt g))
  have R2 : Hid (∀ w', Calls Tryd.prog 14 #[.string s] w' fun e w'' => e = .returned (.tuple #[.int .i64 (rdR s), .int .i64 (rdE s)]) ∧ Kpt w' w'') := fun w' => by
    have := rread_any s hs w'
    unfold RRd at this
    rw [(read_both s).1, (read_both s).2] at this
    exact this
  generalize rdE s = E at R1 R2
  generalize rdR s = X at R1 R2
  obtain ⟨x, h, A1, A2⟩ := apart_both p now
  have AP := Lib.hid A1
  have RA := Lib.hid A2
  clear A1 A2
  cases hp : prcB p with
  | false =>
    have S1 := Lib.hid (fun w' => (show_no p hp w').mono fun e w'' hh => (⟨hh.1, by rw [hh.2]; exact Kpt.refl _⟩ : e = _ ∧ Kpt w' w''))
    have K1 := Lib.hid (fun w => rchkp_no p hp w)
    have K2 := Lib.hid (fun w => pcheck_no p hp w)
    cases ha : amtB u with
    | false =>
      have C1 := Lib.hid (fun w' => (cost_no u p ha w').mono fun e w'' hh => (⟨hh.1, hh.2.kpt⟩ : e = _ ∧ Kpt w' w''))
      have U1 := Lib.hid (fun w => rchk_no u w ha)
      clear hp ha hm ht
      go_enter Tryd.func3, Tryd.ntmps3
      go_wp2_with (first
        | (go_at_call 8; (with_reducible refine (R1.out _ G.out).mono ?_); rintro e w1 ⟨rfl, g1⟩; have G := Lib.hid (ktr G.out g1); clear g1)
        | (go_at_call 9; (with_reducible refine (S1.out _).mono ?_); rintro e w1 ⟨rfl, g1⟩; have G := Lib.hid (ktr G.out g1); clear g1)
        | (go_at_call 10; (with_reducible refine (C1.out _).mono ?_); rintro e w1 ⟨rfl, g1⟩; have G := Lib.hid (ktr G.out g1); clear g1)
        | (go_at_call 11; (with_reducible refine (AP.out _).mono ?_); rintro e w1 ⟨rfl, g1⟩; have G := Lib.hid (ktr G.out g1); clear g1)
        | (go_at_call 12; (with_reducible refine (K1.out _).mono ?_); rintro e w' ⟨rfl, rfl⟩)
        | (go_at_call 14; (with_reducible refine (R2.out _).mono ?_); rintro e w1 ⟨rfl, g1⟩; have G := Lib.hid (ktr G.out g1); clear g1)
        | (go_at_call 15; (with_reducible refine (U1.out _).mono ?_); rintro e w' ⟨rfl, rfl⟩)
        | (go_at_call 17; (with_reducible refine (RA.out _).mono ?_); rintro e w' ⟨rfl, rfl⟩)
        | (go_at_call 18; (with_reducible refine (B.out _ G.out).mono ?_); rintro e w1 ⟨rfl, g1⟩; have G := Lib.hid (ktr G.out g1); clear g1)
        | (go_at_call 19; (with_reducible refine (K2.out _).mono ?_); rintro e w' ⟨rfl, rfl⟩))
      go_ret
      exact ⟨rfl, G.out⟩
    | true =>
      have C1 := Lib.hid (fun w' => (cost_price u p ha hp w').mono fun e w'' hh => (⟨hh.1, hh.2.kpt⟩ : e = _ ∧ Kpt w' w''))
      have U1 := Lib.hid (fun w => rchk_ok u w ha)
      clear hp ha hm ht
      go_enter Tryd.func3, Tryd.ntmps3
      go_wp2_with (first
        | (go_at_call 8; (with_reducible refine (R1.out _ G.out).mono ?_); rintro e w1 ⟨rfl, g1⟩; have G := Lib.hid (ktr G.out g1); clear g1)
        | (go_at_call 9; (with_reducible refine (S1.out _).mono ?_); rintro e w1 ⟨rfl, g1⟩; have G := Lib.hid (ktr G.out g1); clear g1)
        | (go_at_call 10; (with_reducible refine (C1.out _).mono ?_); rintro e w1 ⟨rfl, g1⟩; have G := Lib.hid (ktr G.out g1); clear g1)
        | (go_at_call 11; (with_reducible refine (AP.out _).mono ?_); rintro e w1 ⟨rfl, g1⟩; have G := Lib.hid (ktr G.out g1); clear g1)
        | (go_at_call 12; (with_reducible refine (K1.out _).mono ?_); rintro e w' ⟨rfl, rfl⟩)
        | (go_at_call 14; (with_reducible refine (R2.out _).mono ?_); rintro e w1 ⟨rfl, g1⟩; have G := Lib.hid (ktr G.out g1); clear g1)
        | (go_at_call 15; (with_reducible refine (U1.out _).mono ?_); rintro e w' ⟨rfl, rfl⟩)
        | (go_at_call 17; (with_reducible refine (RA.out _).mono ?_); rintro e w' ⟨rfl, rfl⟩)
        | (go_at_call 18; (with_reducible refine (B.out _ G.out).mono ?_); rintro e w1 ⟨rfl, g1⟩; have G := Lib.hid (ktr G.out g1); clear g1)
        | (go_at_call 19; (with_reducible refine (K2.out _).mono ?_); rintro e w' ⟨rfl, rfl⟩))
      go_ret
      exact ⟨rfl, G.out⟩
  | true =>
    have S1 := Lib.hid (fun w' (g : Kpt w w') => show_ok p hp w' (ht.kpt g))
    have S2 := Lib.hid (fun w' => rshow_loop p (prc_t hp).1 (by have := prc_t hp; omega) w')
    have K1 := Lib.hid (fun w => rchkp_ok p hp w)
    have K2 := Lib.hid (fun w => pcheck_ok p hp w)
    generalize shS p = t at S1 S2
    cases ha : amtB u with
    | false =>
      have C1 := Lib.hid (fun w' => (cost_no u p ha w').mono fun e w'' hh => (⟨hh.1, hh.2.kpt⟩ : e = _ ∧ Kpt w' w''))
      have U1 := Lib.hid (fun w => rchk_no u w ha)
      clear hp ha hm ht
      go_enter Tryd.func3, Tryd.ntmps3
      go_wp2_with (first
        | (go_at_call 8; (with_reducible refine (R1.out _ G.out).mono ?_); rintro e w1 ⟨rfl, g1⟩; have G := Lib.hid (ktr G.out g1); clear g1)
        | (go_at_call 9; (with_reducible refine (S1.out _ G.out).mono ?_); rintro e w1 ⟨rfl, g1⟩; have G := Lib.hid (ktr G.out g1); clear g1)
        | (go_at_call 10; (with_reducible refine (C1.out _).mono ?_); rintro e w1 ⟨rfl, g1⟩; have G := Lib.hid (ktr G.out g1); clear g1)
        | (go_at_call 11; (with_reducible refine (AP.out _).mono ?_); rintro e w1 ⟨rfl, g1⟩; have G := Lib.hid (ktr G.out g1); clear g1)
        | (go_at_call 12; (with_reducible refine (K1.out _).mono ?_); rintro e w' ⟨rfl, rfl⟩)
        | (go_at_call 14; (with_reducible refine (R2.out _).mono ?_); rintro e w1 ⟨rfl, g1⟩; have G := Lib.hid (ktr G.out g1); clear g1)
        | (go_at_call 15; (with_reducible refine (U1.out _).mono ?_); rintro e w' ⟨rfl, rfl⟩)
        | (go_at_call 17; (with_reducible refine (RA.out _).mono ?_); rintro e w' ⟨rfl, rfl⟩)
        | (go_at_call 18; (with_reducible refine (B.out _ G.out).mono ?_); rintro e w1 ⟨rfl, g1⟩; have G := Lib.hid (ktr G.out g1); clear g1)
        | (go_at_call 19; (with_reducible refine (K2.out _).mono ?_); rintro e w' ⟨rfl, rfl⟩)
        | (go_at_call 13; (with_reducible refine (S2.out _).mono ?_); rintro e w1 ⟨rfl, g1⟩; have G := Lib.hid (ktr G.out g1); clear g1))
      go_ret
      exact ⟨rfl, G.out⟩
    | true =>
      obtain ⟨q, r, F, P, RP⟩ := part_both u p 10000
      have C1 := Lib.hid (fun w' => (cost_is u p q r F ha hp P w').mono fun e w'' hh => (⟨hh.1, hh.2.kpt⟩ : e = _ ∧ Kpt w' w''))
      have M1 := Lib.hid (fun w => RP.run w)
      have U1 := Lib.hid (fun w => rchk_ok u w ha)
      clear hp ha hm ht P RP
      go_enter Tryd.func3, Tryd.ntmps3
      go_wp2_with (first
        | (go_at_call 8; (with_reducible refine (R1.out _ G.out).mono ?_); rintro e w1 ⟨rfl, g1⟩; have G := Lib.hid (ktr G.out g1); clear g1)
        | (go_at_call 9; (with_reducible refine (S1.out _ G.out).mono ?_); rintro e w1 ⟨rfl, g1⟩; have G := Lib.hid (ktr G.out g1); clear g1)
        | (go_at_call 10; (with_reducible refine (C1.out _).mono ?_); rintro e w1 ⟨rfl, g1⟩; have G := Lib.hid (ktr G.out g1); clear g1)
        | (go_at_call 11; (with_reducible refine (AP.out _).mono ?_); rintro e w1 ⟨rfl, g1⟩; have G := Lib.hid (ktr G.out g1); clear g1)
        | (go_at_call 12; (with_reducible refine (K1.out _).mono ?_); rintro e w' ⟨rfl, rfl⟩)
        | (go_at_call 14; (with_reducible refine (R2.out _).mono ?_); rintro e w1 ⟨rfl, g1⟩; have G := Lib.hid (ktr G.out g1); clear g1)
        | (go_at_call 15; (with_reducible refine (U1.out _).mono ?_); rintro e w' ⟨rfl, rfl⟩)
        | (go_at_call 17; (with_reducible refine (RA.out _).mono ?_); rintro e w' ⟨rfl, rfl⟩)
        | (go_at_call 18; (with_reducible refine (B.out _ G.out).mono ?_); rintro e w1 ⟨rfl, g1⟩; have G := Lib.hid (ktr G.out g1); clear g1)
        | (go_at_call 19; (with_reducible refine (K2.out _).mono ?_); rintro e w' ⟨rfl, rfl⟩)
        | (go_at_call 13; (with_reducible refine (S2.out _).mono ?_); rintro e w1 ⟨rfl, g1⟩; have G := Lib.hid (ktr G.out g1); clear g1)
        | (go_at_call 16; (with_reducible refine (M1.out _).mono ?_); rintro e w' ⟨rfl, rfl⟩))
      go_ret
      exact ⟨rfl, G.out⟩

end Go.Proofs.YtoahdhhbjljjlaaDoor
