/-
  What CalErr, CalNext and CalFit of the reference do.
-/
import Derived.Test.YtpkhhbplabfeaaaDoorRefCal2
import Derived.Test.YtpkhhbplabfeaaaDoorRefDate
namespace Go.Proofs.YtpkhhbplabfeaaaDoor
open Go.RowKit
set_option linter.unusedVariables false

set_option maxHeartbeats 1000000 in
theorem rce_e (W n : Int) (E : Int) (v : Value) (l : Nat) (w : World) (hsl : ∃ a cap, v = .slice a l cap) (C0 : (∀ w' : World, Kpt w w' → Calls Tryd.prog 16 #[calV W v] w' fun z w'' => z = .returned (.int .i64 E) ∧ Kpt w' w'')) (z1 : (E == 0) = false) :
    Calls Tryd.prog 9 #[calV W v, .int .i64 n] w fun e w' => e = .returned (.int .i64 E) ∧ Kpt w w' := by
  obtain ⟨a, cap, rfl⟩ := hsl
  obtain ⟨k0, a0, a1⟩ := W1cells W a l cap w
  have K0 := Lib.hid k0
  clear k0
  have C0 := Lib.hid C0
  go_enter Tryd.func9, Tryd.ntmps9
  go_wp2_with (first
    | (go_at_call 16; (with_reducible refine (C0.out _ K0.out).mono ?_); rintro e q1 ⟨rfl, k1⟩; have K1 : Hid (Kpt w q1) := ktr K0.out k1; have a0 := k1.cell a0; have a1 := k1.cell a1; clear k1))
  go_ret
  exact ⟨rfl, K1.out⟩

set_option maxHeartbeats 1000000 in
theorem rce_in (W n : Int) (v : Value) (l : Nat) (w : World) (hsl : ∃ a cap, v = .slice a l cap) (C0 : (∀ w' : World, Kpt w w' → Calls Tryd.prog 16 #[calV W v] w' fun z w'' => z = .returned (.int .i64 0) ∧ Kpt w' w'')) (Y : btw 0 3652058 n = true) :
    Calls Tryd.prog 9 #[calV W v, .int .i64 n] w fun e w' => e = .returned (.int .i64 0) ∧ Kpt w w' := by
  obtain ⟨a, cap, rfl⟩ := hsl
  obtain ⟨k0, a0, a1⟩ := W1cells W a l cap w
  have K0 := Lib.hid k0
  clear k0
  have C0 := Lib.hid C0
  go_enter Tryd.func9, Tryd.ntmps9
  go_wp2_with (first
    | (go_at_call 16; (with_reducible refine (C0.out _ K0.out).mono ?_); rintro e q1 ⟨rfl, k1⟩; have K1 : Hid (Kpt w q1) := ktr K0.out k1; have a0 := k1.cell a0; have a1 := k1.cell a1; clear k1)
    | (go_at_call 25; (with_reducible refine (rbt_any _ _ _ _ Y _).mono ?_); rintro e q2 ⟨rfl, rfl⟩))
  go_ret
  exact ⟨rfl, K1.out⟩

set_option maxHeartbeats 1000000 in
theorem rce_out (W n : Int) (v : Value) (l : Nat) (w : World) (hsl : ∃ a cap, v = .slice a l cap) (C0 : (∀ w' : World, Kpt w w' → Calls Tryd.prog 16 #[calV W v] w' fun z w'' => z = .returned (.int .i64 0) ∧ Kpt w' w'')) (Y : btw 0 3652058 n = false) :
    Calls Tryd.prog 9 #[calV W v, .int .i64 n] w fun e w' => e = .returned (.int .i64 3) ∧ Kpt w w' := by
  obtain ⟨a, cap, rfl⟩ := hsl
  obtain ⟨k0, a0, a1⟩ := W1cells W a l cap w
  have K0 := Lib.hid k0
  clear k0
  have C0 := Lib.hid C0
  go_enter Tryd.func9, Tryd.ntmps9
  go_wp2_with (first
    | (go_at_call 16; (with_reducible refine (C0.out _ K0.out).mono ?_); rintro e q1 ⟨rfl, k1⟩; have K1 : Hid (Kpt w q1) := ktr K0.out k1; have a0 := k1.cell a0; have a1 := k1.cell a1; clear k1)
    | (go_at_call 25; (with_reducible refine (rbt_any _ _ _ _ Y _).mono ?_); rintro e q2 ⟨rfl, rfl⟩))
  go_ret
  exact ⟨rfl, K1.out⟩

theorem rce_run (W n : Int) (v : Value) (hs : List Int) (w : World) (hr : Reads w v hs) :
    Calls Tryd.prog 9 #[calV W v, .int .i64 n] w fun e w' => e = .returned (.int .i64 (daysE W hs [n])) ∧ Kpt w w' := by
  have C0 := fun w' (k : Kpt w w') => rcc_run W v hs w' (hr.kpt k)
  have hsl : ∃ a cap, v = .slice a hs.length cap := by obtain ⟨a, cap, rfl, _⟩ := hr; exact ⟨_, _, rfl⟩
  unfold daysE
  by_cases h : calE W hs = 0
  · rw [if_pos h]
    rw [h] at C0
    unfold dysE
    cases Y : btw 0 3652058 n with
    | true => rw [if_pos (by simpa using (show dayB n = true from Y))]; exact rce_in W n v _ w hsl C0 Y
    | false => rw [if_neg (by simpa using (show dayB n = false from Y))]; exact rce_out W n v _ w hsl C0 Y
  · rw [if_neg h]; exact rce_e W n _ v _ w hsl C0 (beq_eq_false_iff_ne.2 h)

set_option maxHeartbeats 1000000 in
theorem rcn_t (W n : Int) (v : Value) (l : Nat) (w : World) (hsl : ∃ a cap, v = .slice a l cap) (HB : (∀ w' : World, Kpt w w' → Calls Tryd.prog 10 #[calV W v, .int .i64 n] w' fun z w'' => z = .returned (.bool true) ∧ Kpt w' w'')) :
    Calls Tryd.prog 11 #[calV W v, .int .i64 n] w fun e w' => e = .returned (.int .i64 n) ∧ Kpt w w' := by
  obtain ⟨a, cap, rfl⟩ := hsl
  obtain ⟨k0, a0, a1⟩ := W1cells W a l cap w
  have K0 := Lib.hid k0
  clear k0
  have HB := Lib.hid HB
  go_enter Tryd.func11, Tryd.ntmps11
  go_wp2_with (first
    | (go_at_call 10; (with_reducible refine (HB.out _ K0.out).mono ?_); rintro e q1 ⟨rfl, k1⟩; have K1 : Hid (Kpt w q1) := ktr K0.out k1; have a0 := k1.cell a0; have a1 := k1.cell a1; clear k1))
  go_ret
  exact ⟨rfl, K1.out⟩

set_option maxHeartbeats 1000000 in
theorem rcn_f (W n : Int) (r : Int) (v : Value) (l : Nat) (w : World) (hsl : ∃ a cap, v = .slice a l cap) (HB : (∀ w' : World, Kpt w w' → Calls Tryd.prog 10 #[calV W v, .int .i64 n] w' fun z w'' => z = .returned (.bool false) ∧ Kpt w' w'')) (HS : (∀ w' : World, Kpt w w' → Calls Tryd.prog 12 #[calV W v, .int .i64 n, .int .i64 1] w' fun z w'' => z = .returned (.int .i64 r) ∧ Kpt w' w'')) :
    Calls Tryd.prog 11 #[calV W v, .int .i64 n] w fun e w' => e = .returned (.int .i64 r) ∧ Kpt w w' := by
  obtain ⟨a, cap, rfl⟩ := hsl
  obtain ⟨k0, a0, a1⟩ := W1cells W a l cap w
  have K0 := Lib.hid k0
  clear k0
  have HB := Lib.hid HB
  have HS := Lib.hid HS
  go_enter Tryd.func11, Tryd.ntmps11
  go_wp2_with (first
    | (go_at_call 10; (with_reducible refine (HB.out _ K0.out).mono ?_); rintro e q1 ⟨rfl, k1⟩; have K1 : Hid (Kpt w q1) := ktr K0.out k1; have a0 := k1.cell a0; have a1 := k1.cell a1; clear k1)
    | (go_at_call 12; (with_reducible refine (HS.out _ K1.out).mono ?_); rintro e q2 ⟨rfl, k1⟩; have K2 : Hid (Kpt w q2) := ktr K1.out k1; have a0 := k1.cell a0; have a1 := k1.cell a1; clear k1))
  go_ret
  exact ⟨rfl, K2.out⟩

def cnV (W : Int) (hs : List Int) (n : Int) : Int := if nxtE W hs n = 0 then nxtR W hs n else -1
theorem rcn_run (W n : Int) (v : Value) (hs : List Int) (hE : calE W hs = 0) (n0 : 0 ≤ n) (n1 : n ≤ 3652058) (w : World) (hr : Reads w v hs) :
    Calls Tryd.prog 11 #[calV W v, .int .i64 n] w fun e w' => e = .returned (.int .i64 (cnV W hs n)) ∧ Kpt w w' := by
  have hsl : ∃ a cap, v = .slice a hs.length cap := by obtain ⟨a, cap, rfl, _⟩ := id hr; exact ⟨_, _, rfl⟩
  have HB := fun w' (k : Kpt w w') => rbz_run W n v hs w' (hr.kpt k) hE
  have HS := fun w' (k : Kpt w w') => rst_run W n 1 v hs hE n0 n1 (by omega) (by omega) w' (hr.kpt k)
  rw [show dayB n = true from decide_eq_true ⟨n0, n1⟩, Bool.true_and] at HB
  unfold cnV
  cases hb : bizB W hs n with
  | true =>
    rw [hb] at HB
    have c1 := cnt_end (bizB W hs) (show n - 1 < n by omega) hb
    rw [cnt_self] at c1
    obtain ⟨e1, e2⟩ := nxt_at hE n0 (Int.le_refl _) n1 hb c1
    rw [if_pos e2, e1]
    exact rcn_t W n v _ w hsl HB
  | false =>
    rw [hb] at HB
    have cp := fun b (h : n ≤ b) => cnt_pre (bizB W hs) h
    rw [hb] at cp
    rcases nxt_cases W hs n with ⟨h1, _, _, h2, h3, h4, h5⟩ | ⟨h1, _⟩
    · rw [if_pos h1]
      have hlt : n < nxtR W hs n := by
        rcases Int.lt_or_eq_of_le h2 with g | g
        · exact g
        · rw [← g, hb] at h4; cases h4
      have c2 := cp _ h2
      rw [if_neg (by simp)] at c2
      have := cs_up hE n0 hlt h3 (show (0 : Int) < 1 by omega) (by omega) h4 (by rw [show (1 : Int).toNat = 1 from rfl]; omega)
      rw [← this]
      exact rcn_f W n _ v _ w hsl HB HS
    · rw [if_neg h1]
      have c3 : cnt (bizB W hs) n 3652058 < 1 := by
        have uc := up_cases W hs (n := n - 1) (m := 1) (by omega) (by omega) (by omega)
        rw [show n - 1 + 1 = n by omega] at uc
        rcases uc with ⟨e1, _⟩ | ⟨_, _, e3⟩
        · exact absurd (show nxtE W hs n = 0 by unfold nxtE; rw [days_mk1 hE n0 n1, if_pos rfl]; exact e1) h1
        · have c2 := cp 3652058 n1
          rw [if_neg (by simp)] at c2
          omega
      have := cs_far (W := W) (hs := hs) (n := n) (m := 1) (by omega) (by rw [show (1 : Int).toNat = 1 from rfl]; exact c3)
      rw [← this]
      exact rcn_f W n _ v _ w hsl HB HS

set_option maxHeartbeats 1000000 in
theorem rcf_same (W n : Int) (k y m d D : Int) (v : Value) (l : Nat) (w : World) (hsl : ∃ a cap, v = .slice a l cap) (HN : (∀ w' : World, Kpt w w' → Calls Tryd.prog 11 #[calV W v, .int .i64 n] w' fun z w'' => z = .returned (.int .i64 k) ∧ Kpt w' w'')) (D1 : ∀ w' : World, Calls Tryd.prog 26 #[.int .i64 n] w' fun z w'' => z = .returned (.tuple #[.int .i64 y, .int .i64 m, .int .i64 d, .int .i64 0]) ∧ w' = w'') (D2 : ∀ w' : World, Calls Tryd.prog 26 #[.int .i64 k] w' fun z w'' => z = .returned (.tuple #[.int .i64 y, .int .i64 m, .int .i64 D, .int .i64 0]) ∧ w' = w'') (z1 : 0 ≤ k) (z2 : decide (0 ≤ k) = true) :
    Calls Tryd.prog 13 #[calV W v, .int .i64 n] w fun e w' => e = .returned (.int .i64 k) ∧ Kpt w w' := by
  obtain ⟨a, cap, rfl⟩ := hsl
  obtain ⟨k0, a0, a1⟩ := W1cells W a l cap w
  have K0 := Lib.hid k0
  clear k0
  have HN := Lib.hid HN
  have D1 := Lib.hid D1
  have D2 := Lib.hid D2
  go_enter Tryd.func13, Tryd.ntmps13
  go_wp2_with (first
    | (go_at_call 11; (with_reducible refine (HN.out _ K0.out).mono ?_); rintro e q1 ⟨rfl, k1⟩; have K1 : Hid (Kpt w q1) := ktr K0.out k1; have a0 := k1.cell a0; have a1 := k1.cell a1; clear k1)
    | (go_at_call 26; (with_reducible refine (D1.out _).mono ?_); rintro e q2 ⟨rfl, rfl⟩)
    | (go_at_call 26; (with_reducible refine (D2.out _).mono ?_); rintro e q3 ⟨rfl, rfl⟩))
  go_ret
  exact ⟨rfl, K1.out⟩

set_option maxHeartbeats 1000000 in
theorem rcf_y (W n : Int) (k y m d Y M D r : Int) (v : Value) (l : Nat) (w : World) (hsl : ∃ a cap, v = .slice a l cap) (HN : (∀ w' : World, Kpt w w' → Calls Tryd.prog 11 #[calV W v, .int .i64 n] w' fun z w'' => z = .returned (.int .i64 k) ∧ Kpt w' w'')) (D1 : ∀ w' : World, Calls Tryd.prog 26 #[.int .i64 n] w' fun z w'' => z = .returned (.tuple #[.int .i64 y, .int .i64 m, .int .i64 d, .int .i64 0]) ∧ w' = w'') (D2 : ∀ w' : World, Calls Tryd.prog 26 #[.int .i64 k] w' fun z w'' => z = .returned (.tuple #[.int .i64 Y, .int .i64 M, .int .i64 D, .int .i64 0]) ∧ w' = w'') (HS : (∀ w' : World, Kpt w w' → Calls Tryd.prog 12 #[calV W v, .int .i64 n, .int .i64 (-1)] w' fun z w'' => z = .returned (.int .i64 r) ∧ Kpt w' w'')) (z1 : 0 ≤ k) (z2 : decide (0 ≤ k) = true) (z3 : (Y == y) = false) :
    Calls Tryd.prog 13 #[calV W v, .int .i64 n] w fun e w' => e = .returned (.int .i64 r) ∧ Kpt w w' := by
  obtain ⟨a, cap, rfl⟩ := hsl
  obtain ⟨k0, a0, a1⟩ := W1cells W a l cap w
  have K0 := Lib.hid k0
  clear k0
  have HN := Lib.hid HN
  have D1 := Lib.hid D1
  have D2 := Lib.hid D2
  have HS := Lib.hid HS
  go_enter Tryd.func13, Tryd.ntmps13
  go_wp2_with (first
    | (go_at_call 11; (with_reducible refine (HN.out _ K0.out).mono ?_); rintro e q1 ⟨rfl, k1⟩; have K1 : Hid (Kpt w q1) := ktr K0.out k1; have a0 := k1.cell a0; have a1 := k1.cell a1; clear k1)
    | (go_at_call 26; (with_reducible refine (D1.out _).mono ?_); rintro e q2 ⟨rfl, rfl⟩)
    | (go_at_call 26; (with_reducible refine (D2.out _).mono ?_); rintro e q3 ⟨rfl, rfl⟩)
    | (go_at_call 12; (with_reducible refine (HS.out _ K1.out).mono ?_); rintro e q4 ⟨rfl, k1⟩; have K4 : Hid (Kpt w q4) := ktr K1.out k1; have a0 := k1.cell a0; have a1 := k1.cell a1; clear k1))
  go_ret
  exact ⟨rfl, K4.out⟩

set_option maxHeartbeats 1000000 in
theorem rcf_m (W n : Int) (k y m d Y M D r : Int) (v : Value) (l : Nat) (w : World) (hsl : ∃ a cap, v = .slice a l cap) (HN : (∀ w' : World, Kpt w w' → Calls Tryd.prog 11 #[calV W v, .int .i64 n] w' fun z w'' => z = .returned (.int .i64 k) ∧ Kpt w' w'')) (D1 : ∀ w' : World, Calls Tryd.prog 26 #[.int .i64 n] w' fun z w'' => z = .returned (.tuple #[.int .i64 y, .int .i64 m, .int .i64 d, .int .i64 0]) ∧ w' = w'') (D2 : ∀ w' : World, Calls Tryd.prog 26 #[.int .i64 k] w' fun z w'' => z = .returned (.tuple #[.int .i64 Y, .int .i64 M, .int .i64 D, .int .i64 0]) ∧ w' = w'') (HS : (∀ w' : World, Kpt w w' → Calls Tryd.prog 12 #[calV W v, .int .i64 n, .int .i64 (-1)] w' fun z w'' => z = .returned (.int .i64 r) ∧ Kpt w' w'')) (z1 : 0 ≤ k) (z2 : decide (0 ≤ k) = true) (z3 : (M == m) = false) (z4 : (Y == y) = true) :
    Calls Tryd.prog 13 #[calV W v, .int .i64 n] w fun e w' => e = .returned (.int .i64 r) ∧ Kpt w w' := by
  obtain ⟨a, cap, rfl⟩ := hsl
  obtain ⟨k0, a0, a1⟩ := W1cells W a l cap w
  have K0 := Lib.hid k0
  clear k0
  have HN := Lib.hid HN
  have D1 := Lib.hid D1
  have D2 := Lib.hid D2
  have HS := Lib.hid HS
  go_enter Tryd.func13, Tryd.ntmps13
  go_wp2_with (first
    | (go_at_call 11; (with_reducible refine (HN.out _ K0.out).mono ?_); rintro e q1 ⟨rfl, k1⟩; have K1 : Hid (Kpt w q1) := ktr K0.out k1; have a0 := k1.cell a0; have a1 := k1.cell a1; clear k1)
    | (go_at_call 26; (with_reducible refine (D1.out _).mono ?_); rintro e q2 ⟨rfl, rfl⟩)
    | (go_at_call 26; (with_reducible refine (D2.out _).mono ?_); rintro e q3 ⟨rfl, rfl⟩)
    | (go_at_call 12; (with_reducible refine (HS.out _ K1.out).mono ?_); rintro e q4 ⟨rfl, k1⟩; have K4 : Hid (Kpt w q4) := ktr K1.out k1; have a0 := k1.cell a0; have a1 := k1.cell a1; clear k1))
  go_ret
  exact ⟨rfl, K4.out⟩

set_option maxHeartbeats 1000000 in
theorem rcf_none (W n : Int) (k y m d r : Int) (v : Value) (l : Nat) (w : World) (hsl : ∃ a cap, v = .slice a l cap) (HN : (∀ w' : World, Kpt w w' → Calls Tryd.prog 11 #[calV W v, .int .i64 n] w' fun z w'' => z = .returned (.int .i64 k) ∧ Kpt w' w'')) (D1 : ∀ w' : World, Calls Tryd.prog 26 #[.int .i64 n] w' fun z w'' => z = .returned (.tuple #[.int .i64 y, .int .i64 m, .int .i64 d, .int .i64 0]) ∧ w' = w'') (HS : (∀ w' : World, Kpt w w' → Calls Tryd.prog 12 #[calV W v, .int .i64 n, .int .i64 (-1)] w' fun z w'' => z = .returned (.int .i64 r) ∧ Kpt w' w'')) (z1 : ¬ 0 ≤ k) (z2 : decide (0 ≤ k) = false) :
    Calls Tryd.prog 13 #[calV W v, .int .i64 n] w fun e w' => e = .returned (.int .i64 r) ∧ Kpt w w' := by
  obtain ⟨a, cap, rfl⟩ := hsl
  obtain ⟨k0, a0, a1⟩ := W1cells W a l cap w
  have K0 := Lib.hid k0
  clear k0
  have HN := Lib.hid HN
  have D1 := Lib.hid D1
  have HS := Lib.hid HS
  go_enter Tryd.func13, Tryd.ntmps13
  go_wp2_with (first
    | (go_at_call 11; (with_reducible refine (HN.out _ K0.out).mono ?_); rintro e q1 ⟨rfl, k1⟩; have K1 : Hid (Kpt w q1) := ktr K0.out k1; have a0 := k1.cell a0; have a1 := k1.cell a1; clear k1)
    | (go_at_call 26; (with_reducible refine (D1.out _).mono ?_); rintro e q2 ⟨rfl, rfl⟩)
    | (go_at_call 12; (with_reducible refine (HS.out _ K1.out).mono ?_); rintro e q3 ⟨rfl, k1⟩; have K3 : Hid (Kpt w q3) := ktr K1.out k1; have a0 := k1.cell a0; have a1 := k1.cell a1; clear k1))
  go_ret
  exact ⟨rfl, K3.out⟩

end Go.Proofs.YtpkhhbplabfeaaaDoor
