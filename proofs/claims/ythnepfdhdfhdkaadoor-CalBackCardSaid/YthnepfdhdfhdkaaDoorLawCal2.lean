/-
  CalBack: the law answers true.
-/
import Derived.Test.YthnepfdhdfhdkaaDoorCalK
namespace Go.Proofs.YthnepfdhdfhdkaaDoor
open Go.RowKit
set_option linter.unusedVariables false

set_option maxRecDepth 100000 in
set_option maxHeartbeats 2000000 in
theorem calBack_walk (W : Int) (v : Value) (hs : List Int) (n many : Int) (w : World) (ht : Tab w) (hr : Reads w v hs) (hf : Fits hs) :
    Calls Tryd.prog 4 #[calV W v, .int .i64 n, .int .i64 many] w fun r w' => r = .returned (.bool true) ∧ Kpt w w' := by
  obtain ⟨a, cap, rfl, hm, hc⟩ := id hr
  have k0 : Kpt w (w.alloc (.cells #[.int .i64 W, .slice a hs.length cap] 24)) := (Kpt.refl _).alloc _
  have G := Lib.hid k0
  have c0 : (w.alloc (.cells #[.int .i64 W, .slice a hs.length cap] 24)).cell? ⟨w.heap.size, 0, none⟩ = some (.int .i64 W) := by simp [go_sem]
  have c1 : (w.alloc (.cells #[.int .i64 W, .slice a hs.length cap] 24)).cell? ⟨w.heap.size, 1, none⟩ = some (.slice a hs.length cap) := by simp [go_sem]
  have B := Lib.hid (fun w' (g : Kpt w w') => calBegun w' (ht.kpt g))
  have HT := Lib.hid ht
  have HR := Lib.hid hr
  have HF := Lib.hid hf
  clear hr hm hc ht hf k0
  have S1 := Lib.hid (fun w' (g : Kpt w w') => step_any W n many _ hs w' (HR.out.kpt g) HF.out)
  rcases ste_cases W hs n many with ⟨e1, hE, n0, n1, m0, m1, k0, k1, P⟩ | ⟨e1, e2⟩
  · have i1 := is_ok' hE n0 n1
    have i2 := is_ok' hE k0 k1
    skip
    rw [e1] at S1
    obtain ⟨k, hk⟩ : ∃ k, steR W hs n many = k := ⟨_, rfl⟩
    rw [hk] at S1 k0 k1 i2 P
    have I1 := Lib.hid (fun w' (g : Kpt w w') => is_any W n _ hs w' (HR.out.kpt g) HF.out)
    rw [i1.1, i1.2] at I1
    have I2 := Lib.hid (fun w' (g : Kpt w w') => is_any W k _ hs w' (HR.out.kpt g) HF.out)
    rw [i2.1, i2.2] at I2
    have S2 : Hid (∀ w', Kpt w w' → Calls Tryd.prog 11 #[calV W (.slice a hs.length cap), .int .i64 k, .int .i64 (-many)] w' fun e w'' => e = .returned (.tuple #[.int .i64 (steR W hs k (-many)), .int .i64 (steE W hs k (-many))]) ∧ Kpt w' w'') := fun w' g => step_any W k (-many) _ hs w' (HR.out.kpt g) HF.out
    rcases P with ⟨rfl, rfl⟩ | ⟨p0, p1, p2, p3⟩ | ⟨p0, p1, p2, p3⟩
    · have z := ste_zero (W := W) (hs := hs) hE n0 n1
      have S2' : Hid (∀ w', Kpt w w' → Calls Tryd.prog 11 #[calV W (.slice a hs.length cap), .int .i64 k, .int .i64 0] w' fun e w'' => e = .returned (.tuple #[.int .i64 k, .int .i64 0]) ∧ Kpt w' w'') := fun w' g => by
        have := step_any W k 0 _ hs w' (HR.out.kpt g) HF.out
        rw [z.1, z.2] at this
        exact this
      clear i1 i2 hk e1 z S2
      cases hb : bizB W hs k with
      | true =>
        rw [hb] at I1 I2
        clear hb
        go_enter Tryd.func4, Tryd.ntmps4
        go_wp2_with (first
          | (go_at_call 11; (with_reducible refine (S1.out _ G.out).mono ?_); rintro e w1 ⟨rfl, g1⟩; have c0 := g1.cell c0; have c1 := g1.cell c1; have G := Lib.hid (ktr G.out g1); clear g1)
          | (go_at_call 8; (with_reducible refine (B.out _ G.out).mono ?_); rintro e w1 ⟨rfl, g1⟩; have c0 := g1.cell c0; have c1 := g1.cell c1; have G := Lib.hid (ktr G.out g1); clear g1)
          | (go_at_call 9; (with_reducible refine (I1.out _ G.out).mono ?_); rintro e w1 ⟨rfl, g1⟩; have c0 := g1.cell c0; have c1 := g1.cell c1; have G := Lib.hid (ktr G.out g1); clear g1)
          | (go_at_call 9; (with_reducible refine (I2.out _ G.out).mono ?_); rintro e w1 ⟨rfl, g1⟩; have c0 := g1.cell c0; have c1 := g1.cell c1; have G := Lib.hid (ktr G.out g1); clear g1)
          | (go_at_call 11; (with_reducible refine (S2'.out _ G.out).mono ?_); rintro e w1 ⟨rfl, g1⟩; have c0 := g1.cell c0; have c1 := g1.cell c1; have G := Lib.hid (ktr G.out g1); clear g1))
        go_ret
        exact ⟨rfl, G.out⟩
      | false =>
        rw [hb] at I1 I2
        clear hb
        go_enter Tryd.func4, Tryd.ntmps4
        go_wp2_with (first
          | (go_at_call 11; (with_reducible refine (S1.out _ G.out).mono ?_); rintro e w1 ⟨rfl, g1⟩; have c0 := g1.cell c0; have c1 := g1.cell c1; have G := Lib.hid (ktr G.out g1); clear g1)
          | (go_at_call 8; (with_reducible refine (B.out _ G.out).mono ?_); rintro e w1 ⟨rfl, g1⟩; have c0 := g1.cell c0; have c1 := g1.cell c1; have G := Lib.hid (ktr G.out g1); clear g1)
          | (go_at_call 9; (with_reducible refine (I1.out _ G.out).mono ?_); rintro e w1 ⟨rfl, g1⟩; have c0 := g1.cell c0; have c1 := g1.cell c1; have G := Lib.hid (ktr G.out g1); clear g1)
          | (go_at_call 9; (with_reducible refine (I2.out _ G.out).mono ?_); rintro e w1 ⟨rfl, g1⟩; have c0 := g1.cell c0; have c1 := g1.cell c1; have G := Lib.hid (ktr G.out g1); clear g1)
          | (go_at_call 11; (with_reducible refine (S2'.out _ G.out).mono ?_); rintro e w1 ⟨rfl, g1⟩; have c0 := g1.cell c0; have c1 := g1.cell c1; have G := Lib.hid (ktr G.out g1); clear g1))
        go_ret
        exact ⟨rfl, G.out⟩
    · rw [p2] at I2
      have c := cou_ok (W := W) (hs := hs) (f := n) (t := k) hE n0 (by omega) k1
      rw [p3, show ((many.toNat : Nat) : Int) = many by omega] at c
      have C1 := Lib.hid (fun w' (g : Kpt w w') => count_any W n k _ hs w' (HR.out.kpt g) HF.out)
      rw [c.1, c.2] at C1
      have bk : bizB W hs n = true → steR W hs k (-many) = n ∧ steE W hs k (-many) = 0 := fun hb => ste_dn hE n0 p1 k1 (by omega) (by omega) hb (by
        have e3 := cnt_at (bizB W hs) (show n ≤ k - 1 by omega) hb
        have e4 := cnt_end (bizB W hs) p1 p2
        omega)
      have z1 : (many == 0) = false := beq_eq_false_iff_ne.2 (by omega)
      clear i1 i2 hk e1 c p2 p3
      cases hb : bizB W hs n with
      | true =>
        obtain ⟨b1, b2⟩ := bk hb
        rw [b1, b2] at S2
        rw [hb] at I1
        clear hb bk b1 b2
        go_enter Tryd.func4, Tryd.ntmps4
        go_wp2_with (first
          | (go_at_call 11; (with_reducible refine (S1.out _ G.out).mono ?_); rintro e w1 ⟨rfl, g1⟩; have c0 := g1.cell c0; have c1 := g1.cell c1; have G := Lib.hid (ktr G.out g1); clear g1)
          | (go_at_call 8; (with_reducible refine (B.out _ G.out).mono ?_); rintro e w1 ⟨rfl, g1⟩; have c0 := g1.cell c0; have c1 := g1.cell c1; have G := Lib.hid (ktr G.out g1); clear g1)
          | (go_at_call 9; (with_reducible refine (I1.out _ G.out).mono ?_); rintro e w1 ⟨rfl, g1⟩; have c0 := g1.cell c0; have c1 := g1.cell c1; have G := Lib.hid (ktr G.out g1); clear g1)
          | (go_at_call 9; (with_reducible refine (I2.out _ G.out).mono ?_); rintro e w1 ⟨rfl, g1⟩; have c0 := g1.cell c0; have c1 := g1.cell c1; have G := Lib.hid (ktr G.out g1); clear g1)
          | (go_at_call 10; (with_reducible refine (C1.out _ G.out).mono ?_); rintro e w1 ⟨rfl, g1⟩; have c0 := g1.cell c0; have c1 := g1.cell c1; have G := Lib.hid (ktr G.out g1); clear g1)
          | (go_at_call 11; (with_reducible refine (S2.out _ G.out).mono ?_); rintro e w1 ⟨rfl, g1⟩; have c0 := g1.cell c0; have c1 := g1.cell c1; have G := Lib.hid (ktr G.out g1); clear g1))
        go_ret
        exact ⟨rfl, G.out⟩
      | false =>
        generalize steR W hs k (-many) = Y at S2
        generalize steE W hs k (-many) = E at S2
        rw [hb] at I1
        clear hb bk
        go_enter Tryd.func4, Tryd.ntmps4
        go_wp2_with (first
          | (go_at_call 11; (with_reducible refine (S1.out _ G.out).mono ?_); rintro e w1 ⟨rfl, g1⟩; have c0 := g1.cell c0; have c1 := g1.cell c1; have G := Lib.hid (ktr G.out g1); clear g1)
          | (go_at_call 8; (with_reducible refine (B.out _ G.out).mono ?_); rintro e w1 ⟨rfl, g1⟩; have c0 := g1.cell c0; have c1 := g1.cell c1; have G := Lib.hid (ktr G.out g1); clear g1)
          | (go_at_call 9; (with_reducible refine (I1.out _ G.out).mono ?_); rintro e w1 ⟨rfl, g1⟩; have c0 := g1.cell c0; have c1 := g1.cell c1; have G := Lib.hid (ktr G.out g1); clear g1)
          | (go_at_call 9; (with_reducible refine (I2.out _ G.out).mono ?_); rintro e w1 ⟨rfl, g1⟩; have c0 := g1.cell c0; have c1 := g1.cell c1; have G := Lib.hid (ktr G.out g1); clear g1)
          | (go_at_call 10; (with_reducible refine (C1.out _ G.out).mono ?_); rintro e w1 ⟨rfl, g1⟩; have c0 := g1.cell c0; have c1 := g1.cell c1; have G := Lib.hid (ktr G.out g1); clear g1)
          | (go_at_call 11; (with_reducible refine (S2.out _ G.out).mono ?_); rintro e w1 ⟨rfl, g1⟩; have c0 := g1.cell c0; have c1 := g1.cell c1; have G := Lib.hid (ktr G.out g1); clear g1))
        go_ret
        exact ⟨rfl, G.out⟩
    · rw [p2] at I2
      have bk : bizB W hs n = true → steR W hs k (-many) = n ∧ steE W hs k (-many) = 0 := fun hb => ste_up hE k0 p1 n1 (by omega) (by omega) hb (by
        have e3 := cnt_at (bizB W hs) (show k ≤ n - 1 by omega) p2
        have e4 := cnt_end (bizB W hs) p1 hb
        omega)
      have z1 : (many == 0) = false := beq_eq_false_iff_ne.2 (by omega)
      have z2 : decide (0 < many) = false := decide_eq_false (by omega)
      have z3 : ¬ 0 < many := by omega
      clear i1 i2 hk e1 p2 p3
      cases hb : bizB W hs n with
      | true =>
        obtain ⟨b1, b2⟩ := bk hb
        rw [b1, b2] at S2
        rw [hb] at I1
        clear hb bk b1 b2
        go_enter Tryd.func4, Tryd.ntmps4
        go_wp2_with (first
          | (go_at_call 11; (with_reducible refine (S1.out _ G.out).mono ?_); rintro e w1 ⟨rfl, g1⟩; have c0 := g1.cell c0; have c1 := g1.cell c1; have G := Lib.hid (ktr G.out g1); clear g1)
          | (go_at_call 8; (with_reducible refine (B.out _ G.out).mono ?_); rintro e w1 ⟨rfl, g1⟩; have c0 := g1.cell c0; have c1 := g1.cell c1; have G := Lib.hid (ktr G.out g1); clear g1)
          | (go_at_call 9; (with_reducible refine (I1.out _ G.out).mono ?_); rintro e w1 ⟨rfl, g1⟩; have c0 := g1.cell c0; have c1 := g1.cell c1; have G := Lib.hid (ktr G.out g1); clear g1)
          | (go_at_call 9; (with_reducible refine (I2.out _ G.out).mono ?_); rintro e w1 ⟨rfl, g1⟩; have c0 := g1.cell c0; have c1 := g1.cell c1; have G := Lib.hid (ktr G.out g1); clear g1)
          | (go_at_call 11; (with_reducible refine (S2.out _ G.out).mono ?_); rintro e w1 ⟨rfl, g1⟩; have c0 := g1.cell c0; have c1 := g1.cell c1; have G := Lib.hid (ktr G.out g1); clear g1))
        go_ret
        exact ⟨rfl, G.out⟩
      | false =>
        generalize steR W hs k (-many) = Y at S2
        generalize steE W hs k (-many) = E at S2
        rw [hb] at I1
        clear hb bk
        go_enter Tryd.func4, Tryd.ntmps4
        go_wp2_with (first
          | (go_at_call 11; (with_reducible refine (S1.out _ G.out).mono ?_); rintro e w1 ⟨rfl, g1⟩; have c0 := g1.cell c0; have c1 := g1.cell c1; have G := Lib.hid (ktr G.out g1); clear g1)
          | (go_at_call 8; (with_reducible refine (B.out _ G.out).mono ?_); rintro e w1 ⟨rfl, g1⟩; have c0 := g1.cell c0; have c1 := g1.cell c1; have G := Lib.hid (ktr G.out g1); clear g1)
          | (go_at_call 9; (with_reducible refine (I1.out _ G.out).mono ?_); rintro e w1 ⟨rfl, g1⟩; have c0 := g1.cell c0; have c1 := g1.cell c1; have G := Lib.hid (ktr G.out g1); clear g1)
          | (go_at_call 9; (with_reducible refine (I2.out _ G.out).mono ?_); rintro e w1 ⟨rfl, g1⟩; have c0 := g1.cell c0; have c1 := g1.cell c1; have G := Lib.hid (ktr G.out g1); clear g1)
          | (go_at_call 11; (with_reducible refine (S2.out _ G.out).mono ?_); rintro e w1 ⟨rfl, g1⟩; have c0 := g1.cell c0; have c1 := g1.cell c1; have G := Lib.hid (ktr G.out g1); clear g1))
        go_ret
        exact ⟨rfl, G.out⟩
  · rw [e2] at S1
    generalize steE W hs n many = E at S1 e1
    have q : (E == 0) = false := beq_eq_false_iff_ne.2 e1
    clear e1 e2
    go_enter Tryd.func4, Tryd.ntmps4
    go_wp2_with (first
      | (go_at_call 11; (with_reducible refine (S1.out _ G.out).mono ?_); rintro e w1 ⟨rfl, g1⟩; have c0 := g1.cell c0; have c1 := g1.cell c1; have G := Lib.hid (ktr G.out g1); clear g1)
      | (go_at_call 8; (with_reducible refine (B.out _ G.out).mono ?_); rintro e w1 ⟨rfl, g1⟩; have c0 := g1.cell c0; have c1 := g1.cell c1; have G := Lib.hid (ktr G.out g1); clear g1))
    go_ret
    exact ⟨rfl, G.out⟩

end Go.Proofs.YthnepfdhdfhdkaaDoor
