/-
  What Step and Fit of package cal do: contracts.
-/
import Derived.Test.YtmoanndonfmihaaCalM
namespace Go.Proofs.Ytmoanndonfmihaa
open Go.RowKit
set_option linter.unusedVariables false

set_option maxRecDepth 100000 in
theorem step_bad (W n many : Int) (v : Value) (hs : List Int) (w : World) (hr : Reads w v hs) (hf : Fits hs) (hE : daysE W hs [n] ≠ 0) :
    Calls Try.prog 116 #[calV W v, .int .i64 n, .int .i64 many] w fun e w' => e = .returned (.tuple #[.int .i64 0, .int .i64 (daysE W hs [n])]) ∧ Kpt w w' := by
  obtain ⟨a, cap, rfl, hm, hc⟩ := id hr
  have CK := Lib.hid (check1 W n a cap hs w hr hf)
  generalize daysE W hs [n] = x at CK hE ⊢
  have q : (x == 0) = false := beq_eq_false_iff_ne.2 hE
  clear hr hm hc hE
  go_enter Try.func116, Try.ntmps116
  go_wp2_with (first
    | (go_at_call 113; (with_reducible refine CK.out.mono ?_); rintro e w1 ⟨rfl, g1, c0, c1⟩; have G1 := Lib.hid g1; clear g1))
  go_ret2
  exact ⟨rfl, G1.out.kpt⟩
set_option maxRecDepth 100000 in
theorem step_low (W n many : Int) (v : Value) (hs : List Int) (hm : many < -500) (w : World) (hr : Reads w v hs) (hf : Fits hs) (hE : daysE W hs [n] = 0) :
    Calls Try.prog 116 #[calV W v, .int .i64 n, .int .i64 many] w fun e w' => e = .returned (.tuple #[.int .i64 0, .int .i64 3]) ∧ Kpt w w' := by
  obtain ⟨hE0, n0, n1⟩ := daysE_1 hE
  obtain ⟨a, cap, rfl, hm, hc⟩ := id hr
  have CK := Lib.hid (hE ▸ check1 W n a cap hs w hr hf)
  clear hr hm hc hE hE0 hf
  go_enter Try.func116, Try.ntmps116
  go_wp2_with (first
    | (go_at_call 113; (with_reducible refine CK.out.mono ?_); rintro e w1 ⟨rfl, g1, c0, c1⟩; have G1 := Lib.hid g1; clear g1))
  go_ret2
  exact ⟨rfl, G1.out.kpt⟩
set_option maxRecDepth 100000 in
theorem step_high (W n many : Int) (v : Value) (hs : List Int) (hm2 : 500 < many) (w : World) (hr : Reads w v hs) (hf : Fits hs) (hE : daysE W hs [n] = 0) :
    Calls Try.prog 116 #[calV W v, .int .i64 n, .int .i64 many] w fun e w' => e = .returned (.tuple #[.int .i64 0, .int .i64 3]) ∧ Kpt w w' := by
  obtain ⟨hE0, n0, n1⟩ := daysE_1 hE
  obtain ⟨a, cap, rfl, hm, hc⟩ := id hr
  have CK := Lib.hid (hE ▸ check1 W n a cap hs w hr hf)
  clear hr hm hc hE hE0 hf
  have hm3 : ¬ many < -500 := by omega
  go_enter Try.func116, Try.ntmps116
  go_wp2_with (first
    | (go_at_call 113; (with_reducible refine CK.out.mono ?_); rintro e w1 ⟨rfl, g1, c0, c1⟩; have G1 := Lib.hid g1; clear g1))
  go_ret2
  exact ⟨rfl, G1.out.kpt⟩
set_option maxRecDepth 100000 in
theorem step_zero (W n many : Int) (v : Value) (hs : List Int) (hz : many = 0) (w : World) (hr : Reads w v hs) (hf : Fits hs) (hE : daysE W hs [n] = 0) :
    Calls Try.prog 116 #[calV W v, .int .i64 n, .int .i64 many] w fun e w' => e = .returned (.tuple #[.int .i64 n, .int .i64 0]) ∧ Kpt w w' := by
  obtain ⟨hE0, n0, n1⟩ := daysE_1 hE
  obtain ⟨a, cap, rfl, hm, hc⟩ := id hr
  have CK := Lib.hid (hE ▸ check1 W n a cap hs w hr hf)
  clear hr hm hc hE hE0 hf
  subst hz
  go_enter Try.func116, Try.ntmps116
  go_wp2_with (first
    | (go_at_call 113; (with_reducible refine CK.out.mono ?_); rintro e w1 ⟨rfl, g1, c0, c1⟩; have G1 := Lib.hid g1; clear g1))
  go_ret2
  exact ⟨rfl, G1.out.kpt⟩
set_option maxRecDepth 100000 in
set_option maxHeartbeats 1000000 in
theorem step_up (W n many : Int) (v : Value) (hs : List Int) (m0 : 1 ≤ many) (m1 : many ≤ 500) (w : World) (hr : Reads w v hs) (hf : Fits hs) (hE : daysE W hs [n] = 0) :
    Calls Try.prog 116 #[calV W v, .int .i64 n, .int .i64 many] w fun e w' => e = .returned (.tuple #[.int .i64 (upR W hs (n + 1) many.toNat), .int .i64 (upE W hs (n + 1) many.toNat)]) ∧ Kpt w w' := by
  obtain ⟨hE0, n0, n1⟩ := daysE_1 hE
  obtain ⟨a, cap, rfl, hm, hc⟩ := id hr
  have CK := Lib.hid (hE ▸ check1 W n a cap hs w hr hf)
  have BU := Lib.hid (fun w' (g : Grew w w') => business_is W (n + 1) 1 _ hs w' (hr.grew g))
  have NT := Lib.hid (fun b4 b5 b3 => nth_up W a cap hs (n + 1) (by omega) (by omega) b4 b5 b3 many (by omega) (by omega) hE0)
  clear hr hm hc hE hE0 hf
  generalize upR W hs (n + 1) many.toNat = x at NT ⊢
  generalize upE W hs (n + 1) many.toNat = y at NT ⊢
  go_enter Try.func116, Try.ntmps116
  go_wp2_with (first
    | (go_at_call 113; (with_reducible refine CK.out.mono ?_); rintro e w1 ⟨rfl, g1, c0, c1⟩; have G1 := Lib.hid g1; clear g1)
    | (go_at_call 148; (with_reducible refine (BU.out _ G1.out).mono ?_); rintro e w2 ⟨b4, b5, b3, rfl, hH, g2⟩; have HH := Lib.hid hH; have G2 := Lib.hid g2; clear hH g2)
    | (go_at_call 147; (with_reducible refine (NT.out _ _ _ _ HH.out).mono ?_); rintro e w3 ⟨rfl, g3⟩; have G3 := Lib.hid g3; clear g3))
  go_ret2
  exact ⟨rfl, ktr (gtr G1.out G2.out).kpt G3.out⟩
set_option maxRecDepth 100000 in
set_option maxHeartbeats 1000000 in
theorem step_dn (W n many : Int) (v : Value) (hs : List Int) (m0 : many ≤ -1) (m1 : -500 ≤ many) (w : World) (hr : Reads w v hs) (hf : Fits hs) (hE : daysE W hs [n] = 0) :
    Calls Try.prog 116 #[calV W v, .int .i64 n, .int .i64 many] w fun e w' => e = .returned (.tuple #[.int .i64 (dnR W hs (n - 1) (-many).toNat), .int .i64 (dnE W hs (n - 1) (-many).toNat)]) ∧ Kpt w w' := by
  obtain ⟨hE0, n0, n1⟩ := daysE_1 hE
  obtain ⟨a, cap, rfl, hm, hc⟩ := id hr
  have CK := Lib.hid (hE ▸ check1 W n a cap hs w hr hf)
  have BU := Lib.hid (fun w' (g : Grew w w') => business_is W (n - 1) (-1) _ hs w' (hr.grew g))
  have NT := Lib.hid (fun b4 b5 b3 => nth_dn W a cap hs (n - 1) (by omega) (by omega) b4 b5 b3 (-many) (by omega) (by omega) hE0)
  clear hr hm hc hE hE0 hf
  generalize dnR W hs (n - 1) (-many).toNat = x at NT ⊢
  generalize dnE W hs (n - 1) (-many).toNat = y at NT ⊢
  go_enter Try.func116, Try.ntmps116
  go_wp2_with (first
    | (go_at_call 113; (with_reducible refine CK.out.mono ?_); rintro e w1 ⟨rfl, g1, c0, c1⟩; have G1 := Lib.hid g1; clear g1)
    | (go_at_call 148; (with_reducible refine (BU.out _ G1.out).mono ?_); rintro e w2 ⟨b4, b5, b3, rfl, hH, g2⟩; have HH := Lib.hid hH; have G2 := Lib.hid g2; clear hH g2)
    | (go_at_call 147; (with_reducible refine (NT.out _ _ _ _ HH.out).mono ?_); rintro e w3 ⟨rfl, g3⟩; have G3 := Lib.hid g3; clear g3))
  go_ret2
  exact ⟨rfl, ktr (gtr G1.out G2.out).kpt G3.out⟩

/-- what Step answers -/
def stpR (W : Int) (hs : List Int) (n many : Int) : Int := if many < -500 ∨ 500 < many then 0 else if many = 0 then n else if 0 < many then upR W hs (n + 1) many.toNat else dnR W hs (n - 1) (-many).toNat
def stpE (W : Int) (hs : List Int) (n many : Int) : Int := if many < -500 ∨ 500 < many then 3 else if many = 0 then 0 else if 0 < many then upE W hs (n + 1) many.toNat else dnE W hs (n - 1) (-many).toNat
theorem step_ok (W n many : Int) (v : Value) (hs : List Int) (w : World) (hr : Reads w v hs) (hf : Fits hs) (hE : daysE W hs [n] = 0) :
    Calls Try.prog 116 #[calV W v, .int .i64 n, .int .i64 many] w fun e w' => e = .returned (.tuple #[.int .i64 (stpR W hs n many), .int .i64 (stpE W hs n many)]) ∧ Kpt w w' := by
  unfold stpR stpE
  by_cases a : many < -500 ∨ 500 < many
  · rw [if_pos a, if_pos a]
    rcases a with a | a
    · exact step_low W n many v hs a w hr hf hE
    · exact step_high W n many v hs a w hr hf hE
  · rw [if_neg a, if_neg a]
    by_cases b : many = 0
    · rw [if_pos b, if_pos b]; exact step_zero W n many v hs b w hr hf hE
    · rw [if_neg b, if_neg b]
      by_cases c : 0 < many
      · rw [if_pos c, if_pos c]; exact step_up W n many v hs (by omega) (by omega) w hr hf hE
      · rw [if_neg c, if_neg c]; exact step_dn W n many v hs (by omega) (by omega) w hr hf hE

end Go.Proofs.Ytmoanndonfmihaa
