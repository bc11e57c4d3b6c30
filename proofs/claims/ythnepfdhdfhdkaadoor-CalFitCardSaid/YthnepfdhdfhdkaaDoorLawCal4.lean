/-
  CalFit: the law answers true.
-/
import Derived.Test.YthnepfdhdfhdkaaDoorCalK
namespace Go.Proofs.YthnepfdhdfhdkaaDoor
open Go.RowKit
set_option linter.unusedVariables false

set_option maxRecDepth 100000 in
set_option maxHeartbeats 2000000 in
theorem calFit_walk (W : Int) (v : Value) (hs : List Int) (n : Int) (w : World) (ht : Tab w) (hr : Reads w v hs) (hf : Fits hs) :
    Calls Tryd.prog 6 #[calV W v, .int .i64 n] w fun r w' => r = .returned (.bool true) ∧ Kpt w w' := by
  obtain ⟨a, cap, rfl, hm, hc⟩ := id hr
  have k0 : Kpt w (w.alloc (.cells #[.int .i64 W, .slice a hs.length cap] 24)) := (Kpt.refl _).alloc _
  have G := Lib.hid k0
  have c0 : (w.alloc (.cells #[.int .i64 W, .slice a hs.length cap] 24)).cell? ⟨w.heap.size, 0, none⟩ = some (.int .i64 W) := by simp [go_sem]
  have c1 : (w.alloc (.cells #[.int .i64 W, .slice a hs.length cap] 24)).cell? ⟨w.heap.size, 1, none⟩ = some (.slice a hs.length cap) := by simp [go_sem]
  have B := Lib.hid (fun w' (g : Kpt w w') => calBegun w' (ht.kpt g))
  have HT := Lib.hid ht
  have HR := Lib.hid hr
  have HF := Lib.hid hf
  have D := Lib.hid (fun w' (g : Kpt w w') => dateBegun w' (ht.kpt g))
  clear hr hm hc ht hf k0
  by_cases hE : daysE W hs [n] = 0
  · obtain ⟨hE0, n0, n1⟩ := daysE_1 hE
    obtain ⟨y, m, d, hv, hN⟩ := num_onto n n0 n1
    have O1 := Lib.hid (fun w' (g : Kpt w w') => of_at y m d n hv hN w' (HT.out.kpt g))
    have N1 : Hid (∀ w', Kpt w w' → Calls Tryd.prog 7 #[calV W (.slice a hs.length cap), .int .i64 n] w' fun e w'' => e = .returned (.tuple #[.int .i64 (upR W hs n 1), .int .i64 (upE W hs n 1)]) ∧ Kpt w' w'') := fun w' g => next_ok W n _ hs w' (HR.out.kpt g) HF.out hE
    have uc := up_cases W hs (n := n - 1) (m := 1) (by omega) (by omega) (by omega)
    rw [show n - 1 + 1 = n by omega] at uc
    have dc := dn_cases W hs (n := n - 1) (m := 1) (by omega) (by omega) (by omega)
    -- no business day from n on in this month: neither is n
    have Z : ∀ k, k ≤ n - 1 → 0 ≤ k → bizB W hs n = false → bizB W hs k = true → cnt (bizB W hs) (k - 1) (n - 1) = 1 → (couR W hs k n = 0 ∧ couE W hs k n = 0) := fun k k1 k0 hb kb kc => by
      have c := cou_ok (W := W) (hs := hs) (f := k) (t := n) hE0 k0 (by omega) n1
      have e1 := cnt_at (bizB W hs) k1 kb
      have e2 := cnt_succ (bizB W hs) k1
      rw [show n - 1 + 1 = n by omega, hb] at e2
      rw [show cnt (bizB W hs) k n = 0 by rw [e2]; simp; omega] at c
      exact c
    rcases uc with ⟨e1, e2, e3, e4, e5⟩ | ⟨e1, e2, e3⟩
    · obtain ⟨x, hx⟩ : ∃ x, upR W hs n 1 = x := ⟨_, rfl⟩
      rw [hx, e1] at N1
      rw [hx] at e2 e3 e4 e5
      obtain ⟨Y, M, E, hV, hM⟩ := num_onto x (by omega) e3
      have O2 := Lib.hid (fun w' (g : Kpt w w') => of_at Y M E x hV hM w' (HT.out.kpt g))
      by_cases hs' : y = Y ∧ m = M
      · obtain ⟨rfl, rfl⟩ := hs'
        have F1 := Lib.hid (fun w' (g : Kpt w w') => fit_same W n _ hs y m d E x hv hN hV hM w' (HT.out.kpt g) (HR.out.kpt g) HF.out hE hx e1)
        have i1 := is_ok' hE0 (show 0 ≤ x by omega) e3
        have I1 := Lib.hid (fun w' (g : Kpt w w') => is_any W x _ hs w' (HR.out.kpt g) HF.out)
        rw [i1.1, i1.2, e4] at I1
        have p1 : n ≤ x := by omega
        clear hv hN hV hM hE hx e1 e2 e4 e5 i1 dc Z hE0
        go_enter Tryd.func6, Tryd.ntmps6
        go_wp2_with (first
          | (go_at_call 12; (with_reducible refine (F1.out _ G.out).mono ?_); rintro e w1 ⟨rfl, g1⟩; have c0 := g1.cell c0; have c1 := g1.cell c1; have G := Lib.hid (ktr G.out g1); clear g1)
          | (go_at_call 8; (with_reducible refine (B.out _ G.out).mono ?_); rintro e w1 ⟨rfl, g1⟩; have c0 := g1.cell c0; have c1 := g1.cell c1; have G := Lib.hid (ktr G.out g1); clear g1)
          | (go_at_call 13; (with_reducible refine (D.out _ G.out).mono ?_); rintro e w' ⟨rfl, rfl⟩)
          | (go_at_call 9; (with_reducible refine (I1.out _ G.out).mono ?_); rintro e w1 ⟨rfl, g1⟩; have c0 := g1.cell c0; have c1 := g1.cell c1; have G := Lib.hid (ktr G.out g1); clear g1)
          | (go_at_call 14; (with_reducible refine (O1.out _ G.out).mono ?_); rintro e w' ⟨rfl, rfl⟩)
          | (go_at_call 7; (with_reducible refine (N1.out _ G.out).mono ?_); rintro e w1 ⟨rfl, g1⟩; have c0 := g1.cell c0; have c1 := g1.cell c1; have G := Lib.hid (ktr G.out g1); clear g1)
          | (go_at_call 14; (with_reducible refine (O2.out _ G.out).mono ?_); rintro e w' ⟨rfl, rfl⟩))
        go_ret
        exact ⟨rfl, G.out⟩
      · have F1 := Lib.hid (fun w' (g : Kpt w w') => fit_other W n _ hs y m d Y M E x hv hN hV hM hs' w' (HT.out.kpt g) (HR.out.kpt g) HF.out hE hx e1)
        have nb : bizB W hs n = false := by
          cases hb : bizB W hs n with
          | false => rfl
          | true =>
            have : x = n := cnt_inj (β := bizB W hs) (n := n - 1) e2 (by omega) e4 hb (by rw [e5, cnt_end _ (by omega) hb, cnt_self])
            subst this
            obtain ⟨r1, r2, _⟩ := num_inj hv hV (hN.trans hM.symm)
            exact absurd ⟨r1, r2⟩ hs'
        rcases dc with ⟨d1, d2, d3, d4, d5⟩ | ⟨d1, d2, d3⟩
        · obtain ⟨k, hk⟩ : ∃ k, dnR W hs (n - 1) 1 = k := ⟨_, rfl⟩
          rw [hk] at d2 d3 d4 d5 F1
          rw [d1] at F1
          have z := Z k d3 d2 nb d4 d5
          have i1 := is_ok' hE0 d2 (show k ≤ 3652058 by omega)
          have I1 := Lib.hid (fun w' (g : Kpt w w') => is_any W k _ hs w' (HR.out.kpt g) HF.out)
          rw [i1.1, i1.2, d4] at I1
          have C1 := Lib.hid (fun w' (g : Kpt w w') => count_any W k n _ hs w' (HR.out.kpt g) HF.out)
          rw [z.1, z.2] at C1
          have p1 : ¬ n ≤ k := by omega
          have p2 : decide (n ≤ k) = false := decide_eq_false p1
          clear hv hN hV hM hE hx e1 e2 e4 e5 i1 Z hE0 d1 d3 d4 d5 z nb hk
          by_cases g1 : Y = y
          · subst g1
            have g2 : ¬ M = m := fun h => hs' ⟨rfl, h.symm⟩
            have q1 : (M != m) = true := bne_iff_ne.2 g2
            have q2 : (M == m) = false := beq_eq_false_iff_ne.2 g2
            clear hs' g2
            go_enter Tryd.func6, Tryd.ntmps6
            go_wp2_with (first
              | (go_at_call 12; (with_reducible refine (F1.out _ G.out).mono ?_); rintro e w1 ⟨rfl, g1⟩; have c0 := g1.cell c0; have c1 := g1.cell c1; have G := Lib.hid (ktr G.out g1); clear g1)
              | (go_at_call 8; (with_reducible refine (B.out _ G.out).mono ?_); rintro e w1 ⟨rfl, g1⟩; have c0 := g1.cell c0; have c1 := g1.cell c1; have G := Lib.hid (ktr G.out g1); clear g1)
              | (go_at_call 13; (with_reducible refine (D.out _ G.out).mono ?_); rintro e w' ⟨rfl, rfl⟩)
              | (go_at_call 9; (with_reducible refine (I1.out _ G.out).mono ?_); rintro e w1 ⟨rfl, g1⟩; have c0 := g1.cell c0; have c1 := g1.cell c1; have G := Lib.hid (ktr G.out g1); clear g1)
              | (go_at_call 14; (with_reducible refine (O1.out _ G.out).mono ?_); rintro e w' ⟨rfl, rfl⟩)
              | (go_at_call 7; (with_reducible refine (N1.out _ G.out).mono ?_); rintro e w1 ⟨rfl, g1⟩; have c0 := g1.cell c0; have c1 := g1.cell c1; have G := Lib.hid (ktr G.out g1); clear g1)
              | (go_at_call 10; (with_reducible refine (C1.out _ G.out).mono ?_); rintro e w1 ⟨rfl, g1⟩; have c0 := g1.cell c0; have c1 := g1.cell c1; have G := Lib.hid (ktr G.out g1); clear g1)
              | (go_at_call 14; (with_reducible refine (O2.out _ G.out).mono ?_); rintro e w' ⟨rfl, rfl⟩))
            go_ret
            exact ⟨rfl, G.out⟩
          · have q1 : (Y != y) = true := bne_iff_ne.2 g1
            have q2 : (Y == y) = false := beq_eq_false_iff_ne.2 g1
            clear hs' g1
            go_enter Tryd.func6, Tryd.ntmps6
            go_wp2_with (first
              | (go_at_call 12; (with_reducible refine (F1.out _ G.out).mono ?_); rintro e w1 ⟨rfl, g1⟩; have c0 := g1.cell c0; have c1 := g1.cell c1; have G := Lib.hid (ktr G.out g1); clear g1)
              | (go_at_call 8; (with_reducible refine (B.out _ G.out).mono ?_); rintro e w1 ⟨rfl, g1⟩; have c0 := g1.cell c0; have c1 := g1.cell c1; have G := Lib.hid (ktr G.out g1); clear g1)
              | (go_at_call 13; (with_reducible refine (D.out _ G.out).mono ?_); rintro e w' ⟨rfl, rfl⟩)
              | (go_at_call 9; (with_reducible refine (I1.out _ G.out).mono ?_); rintro e w1 ⟨rfl, g1⟩; have c0 := g1.cell c0; have c1 := g1.cell c1; have G := Lib.hid (ktr G.out g1); clear g1)
              | (go_at_call 14; (with_reducible refine (O1.out _ G.out).mono ?_); rintro e w' ⟨rfl, rfl⟩)
              | (go_at_call 7; (with_reducible refine (N1.out _ G.out).mono ?_); rintro e w1 ⟨rfl, g1⟩; have c0 := g1.cell c0; have c1 := g1.cell c1; have G := Lib.hid (ktr G.out g1); clear g1)
              | (go_at_call 10; (with_reducible refine (C1.out _ G.out).mono ?_); rintro e w1 ⟨rfl, g1⟩; have c0 := g1.cell c0; have c1 := g1.cell c1; have G := Lib.hid (ktr G.out g1); clear g1)
              | (go_at_call 14; (with_reducible refine (O2.out _ G.out).mono ?_); rintro e w' ⟨rfl, rfl⟩))
            go_ret
            exact ⟨rfl, G.out⟩
        · rw [d1, d2] at F1
          clear hv hN hV hM hE hx e1 e2 e4 e5 Z hE0 d1 d2 d3 nb hs'
          go_enter Tryd.func6, Tryd.ntmps6
          go_wp2_with (first
            | (go_at_call 12; (with_reducible refine (F1.out _ G.out).mono ?_); rintro e w1 ⟨rfl, g1⟩; have c0 := g1.cell c0; have c1 := g1.cell c1; have G := Lib.hid (ktr G.out g1); clear g1)
            | (go_at_call 8; (with_reducible refine (B.out _ G.out).mono ?_); rintro e w1 ⟨rfl, g1⟩; have c0 := g1.cell c0; have c1 := g1.cell c1; have G := Lib.hid (ktr G.out g1); clear g1)
            | (go_at_call 13; (with_reducible refine (D.out _ G.out).mono ?_); rintro e w' ⟨rfl, rfl⟩))
          go_ret
          exact ⟨rfl, G.out⟩
    · have F1 := Lib.hid (fun w' (g : Kpt w w') => fit_none W n _ hs w' (HT.out.kpt g) (HR.out.kpt g) HF.out hE e1)
      rw [e1, e2] at N1
      have nb : bizB W hs n = false := cnt_none (show n - 1 ≤ 3652058 by omega) (by omega) (show n - 1 < n by omega) n1
      rcases dc with ⟨d1, d2, d3, d4, d5⟩ | ⟨d1, d2, d3⟩
      · obtain ⟨k, hk⟩ : ∃ k, dnR W hs (n - 1) 1 = k := ⟨_, rfl⟩
        rw [hk] at d2 d3 d4 d5 F1
        rw [d1] at F1
        have z := Z k d3 d2 nb d4 d5
        have i1 := is_ok' hE0 d2 (show k ≤ 3652058 by omega)
        have I1 := Lib.hid (fun w' (g : Kpt w w') => is_any W k _ hs w' (HR.out.kpt g) HF.out)
        rw [i1.1, i1.2, d4] at I1
        have C1 := Lib.hid (fun w' (g : Kpt w w') => count_any W k n _ hs w' (HR.out.kpt g) HF.out)
        rw [z.1, z.2] at C1
        have p1 : ¬ n ≤ k := by omega
        have p2 : decide (n ≤ k) = false := decide_eq_false p1
        clear hv hN hE e1 e2 e3 i1 Z hE0 d1 d3 d4 d5 z nb hk
        go_enter Tryd.func6, Tryd.ntmps6
        go_wp2_with (first
          | (go_at_call 12; (with_reducible refine (F1.out _ G.out).mono ?_); rintro e w1 ⟨rfl, g1⟩; have c0 := g1.cell c0; have c1 := g1.cell c1; have G := Lib.hid (ktr G.out g1); clear g1)
          | (go_at_call 8; (with_reducible refine (B.out _ G.out).mono ?_); rintro e w1 ⟨rfl, g1⟩; have c0 := g1.cell c0; have c1 := g1.cell c1; have G := Lib.hid (ktr G.out g1); clear g1)
          | (go_at_call 13; (with_reducible refine (D.out _ G.out).mono ?_); rintro e w' ⟨rfl, rfl⟩)
          | (go_at_call 9; (with_reducible refine (I1.out _ G.out).mono ?_); rintro e w1 ⟨rfl, g1⟩; have c0 := g1.cell c0; have c1 := g1.cell c1; have G := Lib.hid (ktr G.out g1); clear g1)
          | (go_at_call 14; (with_reducible refine (O1.out _ G.out).mono ?_); rintro e w' ⟨rfl, rfl⟩)
          | (go_at_call 7; (with_reducible refine (N1.out _ G.out).mono ?_); rintro e w1 ⟨rfl, g1⟩; have c0 := g1.cell c0; have c1 := g1.cell c1; have G := Lib.hid (ktr G.out g1); clear g1)
          | (go_at_call 10; (with_reducible refine (C1.out _ G.out).mono ?_); rintro e w1 ⟨rfl, g1⟩; have c0 := g1.cell c0; have c1 := g1.cell c1; have G := Lib.hid (ktr G.out g1); clear g1))
        go_ret
        exact ⟨rfl, G.out⟩
      · rw [d1, d2] at F1
        clear hv hN hE e1 e2 e3 Z hE0 d1 d2 d3 nb
        go_enter Tryd.func6, Tryd.ntmps6
        go_wp2_with (first
          | (go_at_call 12; (with_reducible refine (F1.out _ G.out).mono ?_); rintro e w1 ⟨rfl, g1⟩; have c0 := g1.cell c0; have c1 := g1.cell c1; have G := Lib.hid (ktr G.out g1); clear g1)
          | (go_at_call 8; (with_reducible refine (B.out _ G.out).mono ?_); rintro e w1 ⟨rfl, g1⟩; have c0 := g1.cell c0; have c1 := g1.cell c1; have G := Lib.hid (ktr G.out g1); clear g1)
          | (go_at_call 13; (with_reducible refine (D.out _ G.out).mono ?_); rintro e w' ⟨rfl, rfl⟩))
        go_ret
        exact ⟨rfl, G.out⟩
  · have F1 := Lib.hid (fun w' (g : Kpt w w') => fit_bad W n _ hs w' (HR.out.kpt g) HF.out hE)
    generalize daysE W hs [n] = E at F1 hE
    have q : (E == 0) = false := beq_eq_false_iff_ne.2 hE
    have q' : (E != 0) = true := bne_iff_ne.2 hE
    clear hE
    go_enter Tryd.func6, Tryd.ntmps6
    go_wp2_with (first
      | (go_at_call 12; (with_reducible refine (F1.out _ G.out).mono ?_); rintro e w1 ⟨rfl, g1⟩; have c0 := g1.cell c0; have c1 := g1.cell c1; have G := Lib.hid (ktr G.out g1); clear g1)
      | (go_at_call 8; (with_reducible refine (B.out _ G.out).mono ?_); rintro e w1 ⟨rfl, g1⟩; have c0 := g1.cell c0; have c1 := g1.cell c1; have G := Lib.hid (ktr G.out g1); clear g1)
      | (go_at_call 13; (with_reducible refine (D.out _ G.out).mono ?_); rintro e w' ⟨rfl, rfl⟩))
    go_ret
    exact ⟨rfl, G.out⟩

end Go.Proofs.YthnepfdhdfhdkaaDoor
