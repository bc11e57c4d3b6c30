/-
  What Step and Fit of package cal do: contracts.
-/
import Derived.Test.YtpkhhbplabfeaaaDoorCalM
namespace Go.Proofs.YtpkhhbplabfeaaaDoor
open Go.RowKit
set_option linter.unusedVariables false

set_option maxRecDepth 100000 in
theorem step_bad (W n many : Int) (v : Value) (hs : List Int) (w : World) (hr : Reads w v hs) (hf : Fits hs) (hE : daysE W hs [n] ≠ 0) :
    Calls Tryd.prog 6 #[calV W v, .int .i64 n, .int .i64 many] w fun e w' => e = .returned (.tuple #[.int .i64 0, .int .i64 (daysE W hs [n])]) ∧ Kpt w w' := by
  obtain ⟨a, cap, rfl, hm, hc⟩ := id hr
  have CK := Lib.hid (check1 W n a cap hs w hr hf)
  generalize daysE W hs [n] = x at CK hE ⊢
  have q : (x == 0) = false := beq_eq_false_iff_ne.2 hE
  clear hr hm hc hE
  go_enter Tryd.func6, Tryd.ntmps6
  go_wp2_with (first
    | (go_at_call 17; (with_reducible refine CK.out.mono ?_); rintro e w1 ⟨rfl, g1, c0, c1⟩; have G1 := Lib.hid g1; clear g1))
  go_ret2
  exact ⟨rfl, G1.out.kpt⟩
set_option maxRecDepth 100000 in
theorem step_low (W n many : Int) (v : Value) (hs : List Int) (hm : many < -500) (w : World) (hr : Reads w v hs) (hf : Fits hs) (hE : daysE W hs [n] = 0) :
    Calls Tryd.prog 6 #[calV W v, .int .i64 n, .int .i64 many] w fun e w' => e = .returned (.tuple #[.int .i64 0, .int .i64 3]) ∧ Kpt w w' := by
  obtain ⟨hE0, n0, n1⟩ := daysE_1 hE
  obtain ⟨a, cap, rfl, hm, hc⟩ := id hr
  have CK := Lib.hid (hE ▸ check1 W n a cap hs w hr hf)
  clear hr hm hc hE hE0 hf
  go_enter Tryd.func6, Tryd.ntmps6
  go_wp2_with (first
    | (go_at_call 17; (with_reducible refine CK.out.mono ?_); rintro e w1 ⟨rfl, g1, c0, c1⟩; have G1 := Lib.hid g1; clear g1))
  go_ret2
  exact ⟨rfl, G1.out.kpt⟩
set_option maxRecDepth 100000 in
theorem step_high (W n many : Int) (v : Value) (hs : List Int) (hm2 : 500 < many) (w : World) (hr : Reads w v hs) (hf : Fits hs) (hE : daysE W hs [n] = 0) :
    Calls Tryd.prog 6 #[calV W v, .int .i64 n, .int .i64 many] w fun e w' => e = .returned (.tuple #[.int .i64 0, .int .i64 3]) ∧ Kpt w w' := by
  obtain ⟨hE0, n0, n1⟩ := daysE_1 hE
  obtain ⟨a, cap, rfl, hm, hc⟩ := id hr
  have CK := Lib.hid (hE ▸ check1 W n a cap hs w hr hf)
  clear hr hm hc hE hE0 hf
  have hm3 : ¬ many < -500 := by omega
  go_enter Tryd.func6, Tryd.ntmps6
  go_wp2_with (first
    | (go_at_call 17; (with_reducible refine CK.out.mono ?_); rintro e w1 ⟨rfl, g1, c0, c1⟩; have G1 := Lib.hid g1; clear g1))
  go_ret2
  exact ⟨rfl, G1.out.kpt⟩
set_option maxRecDepth 100000 in
theorem step_zero (W n many : Int) (v : Value) (hs : List Int) (hz : many = 0) (w : World) (hr : Reads w v hs) (hf : Fits hs) (hE : daysE W hs [n] = 0) :
    Calls Tryd.prog 6 #[calV W v, .int .i64 n, .int .i64 many] w fun e w' => e = .returned (.tuple #[.int .i64 n, .int .i64 0]) ∧ Kpt w w' := by
  obtain ⟨hE0, n0, n1⟩ := daysE_1 hE
  obtain ⟨a, cap, rfl, hm, hc⟩ := id hr
  have CK := Lib.hid (hE ▸ check1 W n a cap hs w hr hf)
  clear hr hm hc hE hE0 hf
  subst hz
  go_enter Tryd.func6, Tryd.ntmps6
  go_wp2_with (first
    | (go_at_call 17; (with_reducible refine CK.out.mono ?_); rintro e w1 ⟨rfl, g1, c0, c1⟩; have G1 := Lib.hid g1; clear g1))
  go_ret2
  exact ⟨rfl, G1.out.kpt⟩
set_option maxRecDepth 100000 in
set_option maxHeartbeats 1000000 in
theorem step_up (W n many : Int) (v : Value) (hs : List Int) (m0 : 1 ≤ many) (m1 : many ≤ 500) (w : World) (hr : Reads w v hs) (hf : Fits hs) (hE : daysE W hs [n] = 0) :
    Calls Tryd.prog 6 #[calV W v, .int .i64 n, .int .i64 many] w fun e w' => e = .returned (.tuple #[.int .i64 (upR W hs (n + 1) many.toNat), .int .i64 (upE W hs (n + 1) many.toNat)]) ∧ Kpt w w' := by
  obtain ⟨hE0, n0, n1⟩ := daysE_1 hE
  obtain ⟨a, cap, rfl, hm, hc⟩ := id hr
  have CK := Lib.hid (hE ▸ check1 W n a cap hs w hr hf)
  have BU := Lib.hid (fun w' (g : Grew w w') => business_is W (n + 1) 1 _ hs w' (hr.grew g))
  have NT := Lib.hid (fun b4 b5 b3 => nth_up W a cap hs (n + 1) (by omega) (by omega) b4 b5 b3 many (by omega) (by omega) hE0)
  clear hr hm hc hE hE0 hf
  generalize upR W hs (n + 1) many.toNat = x at NT ⊢
  generalize upE W hs (n + 1) many.toNat = y at NT ⊢
  go_enter Tryd.func6, Tryd.ntmps6
  go_wp2_with (first
    | (go_at_call 17; (with_reducible refine CK.out.mono ?_); rintro e w1 ⟨rfl, g1, c0, c1⟩; have G1 := Lib.hid g1; clear g1)
    | (go_at_call 20; (with_reducible refine (BU.out _ G1.out).mono ?_); rintro e w2 ⟨b4, b5, b3, rfl, hH, g2⟩; have HH := Lib.hid hH; have G2 := Lib.hid g2; clear hH g2)
    | (go_at_call 19; (with_reducible refine (NT.out _ _ _ _ HH.out).mono ?_); rintro e w3 ⟨rfl, g3⟩; have G3 := Lib.hid g3; clear g3))
  go_ret2
  exact ⟨rfl, ktr (gtr G1.out G2.out).kpt G3.out⟩
set_option maxRecDepth 100000 in
set_option maxHeartbeats 1000000 in
theorem step_dn (W n many : Int) (v : Value) (hs : List Int) (m0 : many ≤ -1) (m1 : -500 ≤ many) (w : World) (hr : Reads w v hs) (hf : Fits hs) (hE : daysE W hs [n] = 0) :
    Calls Tryd.prog 6 #[calV W v, .int .i64 n, .int .i64 many] w fun e w' => e = .returned (.tuple #[.int .i64 (dnR W hs (n - 1) (-many).toNat), .int .i64 (dnE W hs (n - 1) (-many).toNat)]) ∧ Kpt w w' := by
  obtain ⟨hE0, n0, n1⟩ := daysE_1 hE
  obtain ⟨a, cap, rfl, hm, hc⟩ := id hr
  have CK := Lib.hid (hE ▸ check1 W n a cap hs w hr hf)
  have BU := Lib.hid (fun w' (g : Grew w w') => business_is W (n - 1) (-1) _ hs w' (hr.grew g))
  have NT := Lib.hid (fun b4 b5 b3 => nth_dn W a cap hs (n - 1) (by omega) (by omega) b4 b5 b3 (-many) (by omega) (by omega) hE0)
  clear hr hm hc hE hE0 hf
  generalize dnR W hs (n - 1) (-many).toNat = x at NT ⊢
  generalize dnE W hs (n - 1) (-many).toNat = y at NT ⊢
  go_enter Tryd.func6, Tryd.ntmps6
  go_wp2_with (first
    | (go_at_call 17; (with_reducible refine CK.out.mono ?_); rintro e w1 ⟨rfl, g1, c0, c1⟩; have G1 := Lib.hid g1; clear g1)
    | (go_at_call 20; (with_reducible refine (BU.out _ G1.out).mono ?_); rintro e w2 ⟨b4, b5, b3, rfl, hH, g2⟩; have HH := Lib.hid hH; have G2 := Lib.hid g2; clear hH g2)
    | (go_at_call 19; (with_reducible refine (NT.out _ _ _ _ HH.out).mono ?_); rintro e w3 ⟨rfl, g3⟩; have G3 := Lib.hid g3; clear g3))
  go_ret2
  exact ⟨rfl, ktr (gtr G1.out G2.out).kpt G3.out⟩

/-- what Step answers -/
def stpR (W : Int) (hs : List Int) (n many : Int) : Int := if many < -500 ∨ 500 < many then 0 else if many = 0 then n else if 0 < many then upR W hs (n + 1) many.toNat else dnR W hs (n - 1) (-many).toNat
def stpE (W : Int) (hs : List Int) (n many : Int) : Int := if many < -500 ∨ 500 < many then 3 else if many = 0 then 0 else if 0 < many then upE W hs (n + 1) many.toNat else dnE W hs (n - 1) (-many).toNat
theorem step_ok (W n many : Int) (v : Value) (hs : List Int) (w : World) (hr : Reads w v hs) (hf : Fits hs) (hE : daysE W hs [n] = 0) :
    Calls Tryd.prog 6 #[calV W v, .int .i64 n, .int .i64 many] w fun e w' => e = .returned (.tuple #[.int .i64 (stpR W hs n many), .int .i64 (stpE W hs n many)]) ∧ Kpt w w' := by
  unfold stpR stpE
  by_cases a : many < -500 ∨ 500 < many
  · rw [if_pos a, if_pos a]
    rcases a with a | a
    · exact step_low W n many v hs a w hr hf hE
    · exact step_high W n many v hs a w hr hf hE
  · rw [if_neg a, if_neg a]
    by_cases b : many = 0
    · rw [if_pos b, if_pos b]; exact step_zero W n many v hs b w hr hf hE
    · rw [if_neg b, if_neg b]
      by_cases c : 0 < many
      · rw [if_pos c, if_pos c]; exact step_up W n many v hs (by omega) (by omega) w hr hf hE
      · rw [if_neg c, if_neg c]; exact step_dn W n many v hs (by omega) (by omega) w hr hf hE

theorem sameMonth_any (y m d Y M D a b : Int) (hv : vldB y m d = true) (hN : num y m d = a) (hV : vldB Y M D = true) (hM : num Y M D = b) (w : World) (ht : Tab w) :
    Calls Tryd.prog 24 #[.int .i64 a, .int .i64 b] w fun e w' => e = .returned (.bool (decide (y = Y ∧ m = M))) ∧ w = w' := by
  have O1 := Lib.hid (of_at y m d a hv hN w ht)
  have O2 := Lib.hid (of_at Y M D b hV hM w ht)
  clear hv hN hV hM ht
  by_cases e1 : y = Y
  · subst e1
    by_cases e2 : m = M
    · subst e2
      go_enter Tryd.func24, Tryd.ntmps24
      go_wp2_with (first
        | (go_at_call 34; (with_reducible refine O1.out.mono ?_); rintro e w' ⟨rfl, rfl⟩)
        | (go_at_call 34; (with_reducible refine O2.out.mono ?_); rintro e w' ⟨rfl, rfl⟩))
      go_ret
      exact ⟨ret_bool (by simp), rfl⟩
    · have q : (m == M) = false := beq_eq_false_iff_ne.2 e2
      have E : Hid (decide (y = y ∧ m = M) = false) := decide_eq_false (fun h => e2 h.2)
      clear e2
      go_enter Tryd.func24, Tryd.ntmps24
      go_wp2_with (first
        | (go_at_call 34; (with_reducible refine O1.out.mono ?_); rintro e w' ⟨rfl, rfl⟩)
        | (go_at_call 34; (with_reducible refine O2.out.mono ?_); rintro e w' ⟨rfl, rfl⟩))
      go_ret
      exact ⟨ret_bool E.out.symm, rfl⟩
  · have q : (y == Y) = false := beq_eq_false_iff_ne.2 e1
    have E : Hid (decide (y = Y ∧ m = M) = false) := decide_eq_false (fun h => e1 h.1)
    clear e1
    go_enter Tryd.func24, Tryd.ntmps24
    go_wp2_with (first
      | (go_at_call 34; (with_reducible refine O1.out.mono ?_); rintro e w' ⟨rfl, rfl⟩)
      | (go_at_call 34; (with_reducible refine O2.out.mono ?_); rintro e w' ⟨rfl, rfl⟩))
    go_ret
    exact ⟨ret_bool E.out.symm, rfl⟩

set_option maxRecDepth 100000 in
theorem fit_bad (W n : Int) (v : Value) (hs : List Int) (w : World) (hr : Reads w v hs) (hf : Fits hs) (hE : daysE W hs [n] ≠ 0) :
    Calls Tryd.prog 8 #[calV W v, .int .i64 n] w fun e w' => e = .returned (.tuple #[.int .i64 0, .int .i64 (daysE W hs [n])]) ∧ Kpt w w' := by
  obtain ⟨a, cap, rfl, hm, hc⟩ := id hr
  have CK := Lib.hid (check1 W n a cap hs w hr hf)
  generalize daysE W hs [n] = x at CK hE ⊢
  have q : (x == 0) = false := beq_eq_false_iff_ne.2 hE
  clear hr hm hc hE
  go_enter Tryd.func8, Tryd.ntmps8
  go_wp2_with (first
    | (go_at_call 17; (with_reducible refine CK.out.mono ?_); rintro e w1 ⟨rfl, g1, c0, c1⟩; have G1 := Lib.hid g1; clear g1))
  go_ret2
  exact ⟨rfl, G1.out.kpt⟩
theorem Tab.kpt {w w' : World} (h : Tab w) (g : Kpt w w') : Tab w' := fun j hj => g.cell (h j hj)
set_option maxRecDepth 100000 in
set_option maxHeartbeats 1000000 in
theorem fit_same (W n : Int) (v : Value) (hs : List Int) (y m d D k : Int) (hv : vldB y m d = true) (hN : num y m d = n) (hV : vldB y m D = true) (hM : num y m D = k) (w : World) (ht : Tab w) (hr : Reads w v hs) (hf : Fits hs) (hE : daysE W hs [n] = 0) (hk : upR W hs n 1 = k) (he : upE W hs n 1 = 0) :
    Calls Tryd.prog 8 #[calV W v, .int .i64 n] w fun e w' => e = .returned (.tuple #[.int .i64 k, .int .i64 0]) ∧ Kpt w w' := by
  obtain ⟨hE0, n0, n1⟩ := daysE_1 hE
  obtain ⟨a, cap, rfl, hm, hc⟩ := id hr
  have CK := Lib.hid (hE ▸ check1 W n a cap hs w hr hf)
  have BU := Lib.hid (fun w' (g : Grew w w') => business_is W n 1 _ hs w' (hr.grew g))
  have NT := Lib.hid (fun b4 b5 b3 => nth_up W a cap hs n n0 (by omega) b4 b5 b3 1 (by decide) (by decide) hE0)
  rw [show (1 : Int).toNat = 1 from rfl, hk, he] at NT
  have SM := Lib.hid (fun w ht => sameMonth_any y m d y m D n k hv hN hV hM w ht)
  rw [show decide (y = y ∧ m = m) = true by simp] at SM
  have HT := Lib.hid ht
  clear hr hm hc hE hE0 hf hv hN hV hM ht hk he
  go_enter Tryd.func8, Tryd.ntmps8
  go_wp2_with (first
    | (go_at_call 17; (with_reducible refine CK.out.mono ?_); rintro e w1 ⟨rfl, g1, c0, c1⟩; have G1 := Lib.hid g1; clear g1)
    | (go_at_call 20; (with_reducible refine (BU.out _ G1.out).mono ?_); rintro e w2 ⟨b4, b5, b3, rfl, hH, g2⟩; have HH := Lib.hid hH; have G2 := Lib.hid g2; clear hH g2)
    | (go_at_call 19; (with_reducible refine (NT.out _ _ _ _ HH.out).mono ?_); rintro e w3 ⟨rfl, g3⟩; have G3 := Lib.hid (ktr (gtr G1.out G2.out).kpt g3); have d0 := g3.cell (G2.out.cell (cell_in c0) c0); have d1 := g3.cell (G2.out.cell (cell_in c1) c1); clear g3)
    | (go_at_call 24; (with_reducible refine (SM.out _ (HT.out.kpt G3.out)).mono ?_); rintro e w' ⟨rfl, rfl⟩))
  go_ret2
  exact ⟨rfl, G3.out⟩
set_option maxRecDepth 100000 in
set_option maxHeartbeats 1000000 in
theorem fit_other (W n : Int) (v : Value) (hs : List Int) (y m d Y M D k : Int) (hv : vldB y m d = true) (hN : num y m d = n) (hV : vldB Y M D = true) (hM : num Y M D = k) (hne : ¬ (y = Y ∧ m = M)) (w : World) (ht : Tab w) (hr : Reads w v hs) (hf : Fits hs) (hE : daysE W hs [n] = 0) (hk : upR W hs n 1 = k) (he : upE W hs n 1 = 0) :
    Calls Tryd.prog 8 #[calV W v, .int .i64 n] w fun e w' => e = .returned (.tuple #[.int .i64 (dnR W hs (n - 1) 1), .int .i64 (dnE W hs (n - 1) 1)]) ∧ Kpt w w' := by
  obtain ⟨hE0, n0, n1⟩ := daysE_1 hE
  obtain ⟨a, cap, rfl, hm, hc⟩ := id hr
  have CK := Lib.hid (hE ▸ check1 W n a cap hs w hr hf)
  have BU := Lib.hid (fun w' (g : Grew w w') => business_is W n 1 _ hs w' (hr.grew g))
  have NT := Lib.hid (fun b4 b5 b3 => nth_up W a cap hs n n0 (by omega) b4 b5 b3 1 (by decide) (by decide) hE0)
  have BV := Lib.hid (fun w' (g : Kpt w w') => business_is W (n - 1) (-1) _ hs w' (hr.kpt g))
  have NV := Lib.hid (fun b4 b5 b3 => nth_dn W a cap hs (n - 1) (by omega) (by omega) b4 b5 b3 1 (by decide) (by decide) hE0)
  rw [show (1 : Int).toNat = 1 from rfl] at NT NV
  rw [hk, he] at NT
  have SM := Lib.hid (fun w ht => sameMonth_any y m d Y M D n k hv hN hV hM w ht)
  rw [decide_eq_false hne] at SM
  have HT := Lib.hid ht
  clear hr hm hc hE hE0 hf hv hN hV hM ht hk he hne
  generalize dnR W hs (n - 1) 1 = x at NV ⊢
  generalize dnE W hs (n - 1) 1 = z at NV ⊢
  go_enter Tryd.func8, Tryd.ntmps8
  go_wp2_with (first
    | (go_at_call 17; (with_reducible refine CK.out.mono ?_); rintro e w1 ⟨rfl, g1, c0, c1⟩; have G1 := Lib.hid g1; clear g1)
    | (go_at_call 20; (with_reducible refine (BU.out _ G1.out).mono ?_); rintro e w2 ⟨b4, b5, b3, rfl, hH, g2⟩; have HH := Lib.hid hH; have G2 := Lib.hid g2; clear hH g2)
    | (go_at_call 19; (with_reducible refine (NT.out _ _ _ _ HH.out).mono ?_); rintro e w3 ⟨rfl, g3⟩; have G3 := Lib.hid (ktr (gtr G1.out G2.out).kpt g3); have d0 := g3.cell (G2.out.cell (cell_in c0) c0); have d1 := g3.cell (G2.out.cell (cell_in c1) c1); clear g3)
    | (go_at_call 24; (with_reducible refine (SM.out _ (HT.out.kpt G3.out)).mono ?_); rintro e w' ⟨rfl, rfl⟩)
    | (go_at_call 20; (with_reducible refine (BV.out _ G3.out).mono ?_); rintro e w4 ⟨b4', b5', b3', rfl, hH', g4⟩; have HH2 := Lib.hid hH'; have G4 := Lib.hid g4; clear hH' g4)
    | (go_at_call 19; (with_reducible refine (NV.out _ _ _ _ HH2.out).mono ?_); rintro e w5 ⟨rfl, g5⟩; have G5 := Lib.hid g5; clear g5))
  go_ret2
  exact ⟨rfl, ktr (ktr G3.out G4.out.kpt) G5.out⟩
set_option maxRecDepth 100000 in
set_option maxHeartbeats 1000000 in
theorem fit_none (W n : Int) (v : Value) (hs : List Int) (w : World) (ht : Tab w) (hr : Reads w v hs) (hf : Fits hs) (hE : daysE W hs [n] = 0) (he : upE W hs n 1 = 8) :
    Calls Tryd.prog 8 #[calV W v, .int .i64 n] w fun e w' => e = .returned (.tuple #[.int .i64 (dnR W hs (n - 1) 1), .int .i64 (dnE W hs (n - 1) 1)]) ∧ Kpt w w' := by
  obtain ⟨hE0, n0, n1⟩ := daysE_1 hE
  obtain ⟨a, cap, rfl, hm, hc⟩ := id hr
  have CK := Lib.hid (hE ▸ check1 W n a cap hs w hr hf)
  have BU := Lib.hid (fun w' (g : Grew w w') => business_is W n 1 _ hs w' (hr.grew g))
  have NT := Lib.hid (fun b4 b5 b3 => nth_up W a cap hs n n0 (by omega) b4 b5 b3 1 (by decide) (by decide) hE0)
  have BV := Lib.hid (fun w' (g : Kpt w w') => business_is W (n - 1) (-1) _ hs w' (hr.kpt g))
  have NV := Lib.hid (fun b4 b5 b3 => nth_dn W a cap hs (n - 1) (by omega) (by omega) b4 b5 b3 1 (by decide) (by decide) hE0)
  rw [show (1 : Int).toNat = 1 from rfl] at NT NV
  rw [he] at NT
  have HT := Lib.hid ht
  clear hr hm hc hE hE0 hf ht he
  generalize upR W hs n 1 = u at NT
  generalize dnR W hs (n - 1) 1 = x at NV ⊢
  generalize dnE W hs (n - 1) 1 = z at NV ⊢
  go_enter Tryd.func8, Tryd.ntmps8
  go_wp2_with (first
    | (go_at_call 17; (with_reducible refine CK.out.mono ?_); rintro e w1 ⟨rfl, g1, c0, c1⟩; have G1 := Lib.hid g1; clear g1)
    | (go_at_call 20; (with_reducible refine (BU.out _ G1.out).mono ?_); rintro e w2 ⟨b4, b5, b3, rfl, hH, g2⟩; have HH := Lib.hid hH; have G2 := Lib.hid g2; clear hH g2)
    | (go_at_call 19; (with_reducible refine (NT.out _ _ _ _ HH.out).mono ?_); rintro e w3 ⟨rfl, g3⟩; have G3 := Lib.hid (ktr (gtr G1.out G2.out).kpt g3); have d0 := g3.cell (G2.out.cell (cell_in c0) c0); have d1 := g3.cell (G2.out.cell (cell_in c1) c1); clear g3)
    | (go_at_call 20; (with_reducible refine (BV.out _ G3.out).mono ?_); rintro e w4 ⟨b4', b5', b3', rfl, hH', g4⟩; have HH2 := Lib.hid hH'; have G4 := Lib.hid g4; clear hH' g4)
    | (go_at_call 19; (with_reducible refine (NV.out _ _ _ _ HH2.out).mono ?_); rintro e w5 ⟨rfl, g5⟩; have G5 := Lib.hid g5; clear g5))
  go_ret2
  exact ⟨rfl, ktr (ktr G3.out G4.out.kpt) G5.out⟩

end Go.Proofs.YtpkhhbplabfeaaaDoor
