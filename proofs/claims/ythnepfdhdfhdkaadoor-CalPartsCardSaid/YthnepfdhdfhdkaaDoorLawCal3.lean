/-
  CalParts: the law answers true.
-/
import Derived.Test.YthnepfdhdfhdkaaDoorCalK
namespace Go.Proofs.YthnepfdhdfhdkaaDoor
open Go.RowKit
set_option linter.unusedVariables false

set_option maxRecDepth 100000 in
set_option maxHeartbeats 2000000 in
theorem calParts_walk (W : Int) (v : Value) (hs : List Int) (n many b t : Int) (w : World) (ht : Tab w) (hr : Reads w v hs) (hf : Fits hs) :
    Calls Tryd.prog 5 #[calV W v, .int .i64 n, .int .i64 many, .int .i64 b, .int .i64 t] w fun r w' => r = .returned (.bool true) ∧ Kpt w w' := by
  obtain ⟨a, cap, rfl, hm, hc⟩ := id hr
  have k0 : Kpt w (w.alloc (.cells #[.int .i64 W, .slice a hs.length cap] 24)) := (Kpt.refl _).alloc _
  have G := Lib.hid k0
  have c0 : (w.alloc (.cells #[.int .i64 W, .slice a hs.length cap] 24)).cell? ⟨w.heap.size, 0, none⟩ = some (.int .i64 W) := by simp [go_sem]
  have c1 : (w.alloc (.cells #[.int .i64 W, .slice a hs.length cap] 24)).cell? ⟨w.heap.size, 1, none⟩ = some (.slice a hs.length cap) := by simp [go_sem]
  have B := Lib.hid (fun w' (g : Kpt w w') => calBegun w' (ht.kpt g))
  have HT := Lib.hid ht
  have HR := Lib.hid hr
  have HF := Lib.hid hf
  clear hr hm hc ht hf k0
  have S1 := Lib.hid (fun w' (g : Kpt w w') => step_any W n many _ hs w' (HR.out.kpt g) HF.out)
  rcases ste_cases W hs n many with ⟨e1, hE, n0, n1, m0, m1, k0, k1, P⟩ | ⟨e1, e2⟩
  · rw [e1] at S1
    obtain ⟨x, hx⟩ : ∃ x, steR W hs n many = x := ⟨_, rfl⟩
    rw [hx] at S1 k0 k1 P
    have S2 := Lib.hid (fun w' (g : Kpt w w') => step_any W x b _ hs w' (HR.out.kpt g) HF.out)
    -- the second half: days up to a day
    have F : ∀ (e1 : Unit), x < n ∨ (n ≤ x ∧ t < x) ∨ (n ≤ x ∧ x ≤ t ∧ couE W hs x t ≠ 0) ∨ (n ≤ x ∧ x ≤ t ∧ couE W hs x t = 0 ∧ couE W hs n x = 0 ∧ couE W hs n t = 0 ∧ couR W hs n t = couR W hs n x + couR W hs x t ∧ 0 ≤ couR W hs n x ∧ couR W hs n x ≤ 3652058 ∧ 0 ≤ couR W hs x t ∧ couR W hs x t ≤ 3652058) := fun _ => by
      by_cases g1 : x < n
      · exact .inl g1
      · by_cases g2 : t < x
        · exact .inr (.inl ⟨by omega, g2⟩)
        · by_cases g3 : couE W hs x t = 0
          · refine .inr (.inr (.inr ⟨by omega, by omega, g3, ?_⟩))
            have ht1 : t ≤ 3652058 := by
              unfold couE at g3
              by_cases d : daysE W hs [x, t] = 0
              · exact (daysE_2 d).2.2.2.2
              · rw [if_neg d] at g3; exact absurd g3 d
            have c1 := cou_ok (W := W) (hs := hs) (f := n) (t := x) hE n0 (by omega) k1
            have c2 := cou_ok (W := W) (hs := hs) (f := x) (t := t) hE k0 (by omega) ht1
            have c3 := cou_ok (W := W) (hs := hs) (f := n) (t := t) hE n0 (by omega) ht1
            have ca := cnt_add (bizB W hs) (show n ≤ x by omega) (show x ≤ t by omega)
            have l1 := cnt_le (bizB W hs) n x
            have l2 := cnt_le (bizB W hs) x t
            rw [c1.1, c2.1, c3.1, ca]
            refine ⟨c1.2, c3.2, by omega, by omega, by omega, by omega, by omega⟩
          · exact .inr (.inr (.inl ⟨by omega, by omega, g3⟩))
    -- the first half: a step more
    have Q : (steE W hs x b ≠ 0) ∨ (steE W hs x b = 0 ∧ many < 0) ∨ (steE W hs x b = 0 ∧ 0 ≤ many ∧ b < 0) ∨ (steE W hs x b = 0 ∧ 0 ≤ many ∧ 0 ≤ b ∧ b ≤ 500 ∧ 500 < many + b) ∨ (steE W hs x b = 0 ∧ 0 ≤ many ∧ 0 ≤ b ∧ b ≤ 500 ∧ many + b ≤ 500 ∧ steE W hs n (many + b) = 0 ∧ steR W hs n (many + b) = steR W hs x b) := by
      by_cases q1 : steE W hs x b = 0
      · by_cases q2 : many < 0
        · exact .inr (.inl ⟨q1, q2⟩)
        · by_cases q3 : b < 0
          · exact .inr (.inr (.inl ⟨q1, by omega, q3⟩))
          · rcases ste_cases W hs x b with ⟨f1, _, x0, x1, b0, b1, y0, y1, R⟩ | ⟨f1, _⟩
            · by_cases q4 : 500 < many + b
              · exact .inr (.inr (.inr (.inl ⟨q1, by omega, by omega, b1, q4⟩)))
              · refine .inr (.inr (.inr (.inr ⟨q1, by omega, by omega, b1, by omega, ?_⟩)))
                rcases P with ⟨rfl, rfl⟩ | ⟨p0, p1, p2, p3⟩ | ⟨p0, _⟩
                · rw [Int.zero_add]; exact ⟨q1, rfl⟩
                · rcases R with ⟨rfl, r1⟩ | ⟨r0, r1, r2, r3⟩ | ⟨r0, _⟩
                  · rw [r1, Int.add_zero, hx]; exact ⟨e1, rfl⟩
                  · have := ste_up (many := many + b) hE n0 (show n < steR W hs x b by omega) y1 (by omega) (by omega) r2 (by rw [cnt_add (bizB W hs) (show n ≤ x by omega) (show x ≤ steR W hs x b by omega), p3, r3]; omega)
                    exact ⟨this.2, this.1⟩
                  · omega
                · omega
            · exact absurd q1 f1
      · exact .inl q1
    have F' := F ()
    clear F
    have C1 := Lib.hid (fun w' (g : Kpt w w') => count_any W n x _ hs w' (HR.out.kpt g) HF.out)
    have C2 := Lib.hid (fun w' (g : Kpt w w') => count_any W x t _ hs w' (HR.out.kpt g) HF.out)
    have C3 := Lib.hid (fun w' (g : Kpt w w') => count_any W n t _ hs w' (HR.out.kpt g) HF.out)
    skip
    have S3 : Hid (∀ w', Kpt w w' → Calls Tryd.prog 11 #[calV W (.slice a hs.length cap), .int .i64 n, .int .i64 (many + b)] w' fun e w'' => e = .returned (.tuple #[.int .i64 (steR W hs n (many + b)), .int .i64 (steE W hs n (many + b))]) ∧ Kpt w' w'') := fun w' g => step_any W n (many + b) _ hs w' (HR.out.kpt g) HF.out
    generalize steR W hs x b = y at S2 Q
    generalize steE W hs x b = f at S2 Q
    generalize steR W hs n (many + b) = z at S3 Q
    generalize steE W hs n (many + b) = g' at S3 Q
    generalize couR W hs n x = p at C1 F'
    generalize couE W hs n x = pe at C1 F'
    generalize couR W hs x t = q at C2 F'
    generalize couE W hs x t = qe at C2 F'
    generalize couR W hs n t = r at C3 F'
    generalize couE W hs n t = re at C3 F'
    clear P e1 hx hE
    rcases Q with q1 | ⟨rfl, q2⟩ | ⟨rfl, q2, q3⟩ | ⟨rfl, q2, q3, q3', q4⟩ | ⟨rfl, q2, q3, q3', q4, rfl, rfl⟩
    · have z1 : (f == 0) = false := beq_eq_false_iff_ne.2 q1
      clear q1
      rcases F' with u1 | ⟨u1, u2⟩ | ⟨u1, u2, u3⟩ | ⟨u1, u2, rfl, rfl, rfl, rfl, u3, u4, u5, u6⟩
      · skip
        go_enter Tryd.func5, Tryd.ntmps5
        go_wp2_with (first
          | (go_at_call 11; (with_reducible refine (S1.out _ G.out).mono ?_); rintro e w1 ⟨rfl, g1⟩; have c0 := g1.cell c0; have c1 := g1.cell c1; have G := Lib.hid (ktr G.out g1); clear g1)
          | (go_at_call 8; (with_reducible refine (B.out _ G.out).mono ?_); rintro e w1 ⟨rfl, g1⟩; have c0 := g1.cell c0; have c1 := g1.cell c1; have G := Lib.hid (ktr G.out g1); clear g1)
          | (go_at_call 11; (with_reducible refine (S2.out _ G.out).mono ?_); rintro e w1 ⟨rfl, g1⟩; have c0 := g1.cell c0; have c1 := g1.cell c1; have G := Lib.hid (ktr G.out g1); clear g1)
          | (go_at_call 11; (with_reducible refine (S3.out _ G.out).mono ?_); rintro e w1 ⟨rfl, g1⟩; have c0 := g1.cell c0; have c1 := g1.cell c1; have G := Lib.hid (ktr G.out g1); clear g1)
          | (go_at_call 10; (with_reducible refine (C1.out _ G.out).mono ?_); rintro e w1 ⟨rfl, g1⟩; have c0 := g1.cell c0; have c1 := g1.cell c1; have G := Lib.hid (ktr G.out g1); clear g1)
          | (go_at_call 10; (with_reducible refine (C2.out _ G.out).mono ?_); rintro e w1 ⟨rfl, g1⟩; have c0 := g1.cell c0; have c1 := g1.cell c1; have G := Lib.hid (ktr G.out g1); clear g1)
          | (go_at_call 10; (with_reducible refine (C3.out _ G.out).mono ?_); rintro e w1 ⟨rfl, g1⟩; have c0 := g1.cell c0; have c1 := g1.cell c1; have G := Lib.hid (ktr G.out g1); clear g1))
        go_ret
        exact ⟨rfl, G.out⟩
      · have y1 : decide (x < n) = false := decide_eq_false (by omega)
        go_enter Tryd.func5, Tryd.ntmps5
        go_wp2_with (first
          | (go_at_call 11; (with_reducible refine (S1.out _ G.out).mono ?_); rintro e w1 ⟨rfl, g1⟩; have c0 := g1.cell c0; have c1 := g1.cell c1; have G := Lib.hid (ktr G.out g1); clear g1)
          | (go_at_call 8; (with_reducible refine (B.out _ G.out).mono ?_); rintro e w1 ⟨rfl, g1⟩; have c0 := g1.cell c0; have c1 := g1.cell c1; have G := Lib.hid (ktr G.out g1); clear g1)
          | (go_at_call 11; (with_reducible refine (S2.out _ G.out).mono ?_); rintro e w1 ⟨rfl, g1⟩; have c0 := g1.cell c0; have c1 := g1.cell c1; have G := Lib.hid (ktr G.out g1); clear g1)
          | (go_at_call 11; (with_reducible refine (S3.out _ G.out).mono ?_); rintro e w1 ⟨rfl, g1⟩; have c0 := g1.cell c0; have c1 := g1.cell c1; have G := Lib.hid (ktr G.out g1); clear g1)
          | (go_at_call 10; (with_reducible refine (C1.out _ G.out).mono ?_); rintro e w1 ⟨rfl, g1⟩; have c0 := g1.cell c0; have c1 := g1.cell c1; have G := Lib.hid (ktr G.out g1); clear g1)
          | (go_at_call 10; (with_reducible refine (C2.out _ G.out).mono ?_); rintro e w1 ⟨rfl, g1⟩; have c0 := g1.cell c0; have c1 := g1.cell c1; have G := Lib.hid (ktr G.out g1); clear g1)
          | (go_at_call 10; (with_reducible refine (C3.out _ G.out).mono ?_); rintro e w1 ⟨rfl, g1⟩; have c0 := g1.cell c0; have c1 := g1.cell c1; have G := Lib.hid (ktr G.out g1); clear g1))
        go_ret
        exact ⟨rfl, G.out⟩
      · have y1 : decide (x < n) = false := decide_eq_false (by omega)
        have y2 : (qe != 0) = true := bne_iff_ne.2 u3
        have y3 : (qe == 0) = false := beq_eq_false_iff_ne.2 u3
        clear u3
        go_enter Tryd.func5, Tryd.ntmps5
        go_wp2_with (first
          | (go_at_call 11; (with_reducible refine (S1.out _ G.out).mono ?_); rintro e w1 ⟨rfl, g1⟩; have c0 := g1.cell c0; have c1 := g1.cell c1; have G := Lib.hid (ktr G.out g1); clear g1)
          | (go_at_call 8; (with_reducible refine (B.out _ G.out).mono ?_); rintro e w1 ⟨rfl, g1⟩; have c0 := g1.cell c0; have c1 := g1.cell c1; have G := Lib.hid (ktr G.out g1); clear g1)
          | (go_at_call 11; (with_reducible refine (S2.out _ G.out).mono ?_); rintro e w1 ⟨rfl, g1⟩; have c0 := g1.cell c0; have c1 := g1.cell c1; have G := Lib.hid (ktr G.out g1); clear g1)
          | (go_at_call 11; (with_reducible refine (S3.out _ G.out).mono ?_); rintro e w1 ⟨rfl, g1⟩; have c0 := g1.cell c0; have c1 := g1.cell c1; have G := Lib.hid (ktr G.out g1); clear g1)
          | (go_at_call 10; (with_reducible refine (C1.out _ G.out).mono ?_); rintro e w1 ⟨rfl, g1⟩; have c0 := g1.cell c0; have c1 := g1.cell c1; have G := Lib.hid (ktr G.out g1); clear g1)
          | (go_at_call 10; (with_reducible refine (C2.out _ G.out).mono ?_); rintro e w1 ⟨rfl, g1⟩; have c0 := g1.cell c0; have c1 := g1.cell c1; have G := Lib.hid (ktr G.out g1); clear g1)
          | (go_at_call 10; (with_reducible refine (C3.out _ G.out).mono ?_); rintro e w1 ⟨rfl, g1⟩; have c0 := g1.cell c0; have c1 := g1.cell c1; have G := Lib.hid (ktr G.out g1); clear g1))
        go_ret
        exact ⟨rfl, G.out⟩
      · have y1 : decide (x < n) = false := decide_eq_false (by omega)
        go_enter Tryd.func5, Tryd.ntmps5
        go_wp2_with (first
          | (go_at_call 11; (with_reducible refine (S1.out _ G.out).mono ?_); rintro e w1 ⟨rfl, g1⟩; have c0 := g1.cell c0; have c1 := g1.cell c1; have G := Lib.hid (ktr G.out g1); clear g1)
          | (go_at_call 8; (with_reducible refine (B.out _ G.out).mono ?_); rintro e w1 ⟨rfl, g1⟩; have c0 := g1.cell c0; have c1 := g1.cell c1; have G := Lib.hid (ktr G.out g1); clear g1)
          | (go_at_call 11; (with_reducible refine (S2.out _ G.out).mono ?_); rintro e w1 ⟨rfl, g1⟩; have c0 := g1.cell c0; have c1 := g1.cell c1; have G := Lib.hid (ktr G.out g1); clear g1)
          | (go_at_call 11; (with_reducible refine (S3.out _ G.out).mono ?_); rintro e w1 ⟨rfl, g1⟩; have c0 := g1.cell c0; have c1 := g1.cell c1; have G := Lib.hid (ktr G.out g1); clear g1)
          | (go_at_call 10; (with_reducible refine (C1.out _ G.out).mono ?_); rintro e w1 ⟨rfl, g1⟩; have c0 := g1.cell c0; have c1 := g1.cell c1; have G := Lib.hid (ktr G.out g1); clear g1)
          | (go_at_call 10; (with_reducible refine (C2.out _ G.out).mono ?_); rintro e w1 ⟨rfl, g1⟩; have c0 := g1.cell c0; have c1 := g1.cell c1; have G := Lib.hid (ktr G.out g1); clear g1)
          | (go_at_call 10; (with_reducible refine (C3.out _ G.out).mono ?_); rintro e w1 ⟨rfl, g1⟩; have c0 := g1.cell c0; have c1 := g1.cell c1; have G := Lib.hid (ktr G.out g1); clear g1))
        go_ret
        exact ⟨rfl, G.out⟩
    · have z2 : ¬ 0 ≤ many := by omega
      have z3 : decide (0 ≤ many) = false := decide_eq_false z2
      rcases F' with u1 | ⟨u1, u2⟩ | ⟨u1, u2, u3⟩ | ⟨u1, u2, rfl, rfl, rfl, rfl, u3, u4, u5, u6⟩
      · skip
        go_enter Tryd.func5, Tryd.ntmps5
        go_wp2_with (first
          | (go_at_call 11; (with_reducible refine (S1.out _ G.out).mono ?_); rintro e w1 ⟨rfl, g1⟩; have c0 := g1.cell c0; have c1 := g1.cell c1; have G := Lib.hid (ktr G.out g1); clear g1)
          | (go_at_call 8; (with_reducible refine (B.out _ G.out).mono ?_); rintro e w1 ⟨rfl, g1⟩; have c0 := g1.cell c0; have c1 := g1.cell c1; have G := Lib.hid (ktr G.out g1); clear g1)
          | (go_at_call 11; (with_reducible refine (S2.out _ G.out).mono ?_); rintro e w1 ⟨rfl, g1⟩; have c0 := g1.cell c0; have c1 := g1.cell c1; have G := Lib.hid (ktr G.out g1); clear g1)
          | (go_at_call 11; (with_reducible refine (S3.out _ G.out).mono ?_); rintro e w1 ⟨rfl, g1⟩; have c0 := g1.cell c0; have c1 := g1.cell c1; have G := Lib.hid (ktr G.out g1); clear g1)
          | (go_at_call 10; (with_reducible refine (C1.out _ G.out).mono ?_); rintro e w1 ⟨rfl, g1⟩; have c0 := g1.cell c0; have c1 := g1.cell c1; have G := Lib.hid (ktr G.out g1); clear g1)
          | (go_at_call 10; (with_reducible refine (C2.out _ G.out).mono ?_); rintro e w1 ⟨rfl, g1⟩; have c0 := g1.cell c0; have c1 := g1.cell c1; have G := Lib.hid (ktr G.out g1); clear g1)
          | (go_at_call 10; (with_reducible refine (C3.out _ G.out).mono ?_); rintro e w1 ⟨rfl, g1⟩; have c0 := g1.cell c0; have c1 := g1.cell c1; have G := Lib.hid (ktr G.out g1); clear g1))
        go_ret
        exact ⟨rfl, G.out⟩
      · have y1 : decide (x < n) = false := decide_eq_false (by omega)
        go_enter Tryd.func5, Tryd.ntmps5
        go_wp2_with (first
          | (go_at_call 11; (with_reducible refine (S1.out _ G.out).mono ?_); rintro e w1 ⟨rfl, g1⟩; have c0 := g1.cell c0; have c1 := g1.cell c1; have G := Lib.hid (ktr G.out g1); clear g1)
          | (go_at_call 8; (with_reducible refine (B.out _ G.out).mono ?_); rintro e w1 ⟨rfl, g1⟩; have c0 := g1.cell c0; have c1 := g1.cell c1; have G := Lib.hid (ktr G.out g1); clear g1)
          | (go_at_call 11; (with_reducible refine (S2.out _ G.out).mono ?_); rintro e w1 ⟨rfl, g1⟩; have c0 := g1.cell c0; have c1 := g1.cell c1; have G := Lib.hid (ktr G.out g1); clear g1)
          | (go_at_call 11; (with_reducible refine (S3.out _ G.out).mono ?_); rintro e w1 ⟨rfl, g1⟩; have c0 := g1.cell c0; have c1 := g1.cell c1; have G := Lib.hid (ktr G.out g1); clear g1)
          | (go_at_call 10; (with_reducible refine (C1.out _ G.out).mono ?_); rintro e w1 ⟨rfl, g1⟩; have c0 := g1.cell c0; have c1 := g1.cell c1; have G := Lib.hid (ktr G.out g1); clear g1)
          | (go_at_call 10; (with_reducible refine (C2.out _ G.out).mono ?_); rintro e w1 ⟨rfl, g1⟩; have c0 := g1.cell c0; have c1 := g1.cell c1; have G := Lib.hid (ktr G.out g1); clear g1)
          | (go_at_call 10; (with_reducible refine (C3.out _ G.out).mono ?_); rintro e w1 ⟨rfl, g1⟩; have c0 := g1.cell c0; have c1 := g1.cell c1; have G := Lib.hid (ktr G.out g1); clear g1))
        go_ret
        exact ⟨rfl, G.out⟩
      · have y1 : decide (x < n) = false := decide_eq_false (by omega)
        have y2 : (qe != 0) = true := bne_iff_ne.2 u3
        have y3 : (qe == 0) = false := beq_eq_false_iff_ne.2 u3
        clear u3
        go_enter Tryd.func5, Tryd.ntmps5
        go_wp2_with (first
          | (go_at_call 11; (with_reducible refine (S1.out _ G.out).mono ?_); rintro e w1 ⟨rfl, g1⟩; have c0 := g1.cell c0; have c1 := g1.cell c1; have G := Lib.hid (ktr G.out g1); clear g1)
          | (go_at_call 8; (with_reducible refine (B.out _ G.out).mono ?_); rintro e w1 ⟨rfl, g1⟩; have c0 := g1.cell c0; have c1 := g1.cell c1; have G := Lib.hid (ktr G.out g1); clear g1)
          | (go_at_call 11; (with_reducible refine (S2.out _ G.out).mono ?_); rintro e w1 ⟨rfl, g1⟩; have c0 := g1.cell c0; have c1 := g1.cell c1; have G := Lib.hid (ktr G.out g1); clear g1)
          | (go_at_call 11; (with_reducible refine (S3.out _ G.out).mono ?_); rintro e w1 ⟨rfl, g1⟩; have c0 := g1.cell c0; have c1 := g1.cell c1; have G := Lib.hid (ktr G.out g1); clear g1)
          | (go_at_call 10; (with_reducible refine (C1.out _ G.out).mono ?_); rintro e w1 ⟨rfl, g1⟩; have c0 := g1.cell c0; have c1 := g1.cell c1; have G := Lib.hid (ktr G.out g1); clear g1)
          | (go_at_call 10; (with_reducible refine (C2.out _ G.out).mono ?_); rintro e w1 ⟨rfl, g1⟩; have c0 := g1.cell c0; have c1 := g1.cell c1; have G := Lib.hid (ktr G.out g1); clear g1)
          | (go_at_call 10; (with_reducible refine (C3.out _ G.out).mono ?_); rintro e w1 ⟨rfl, g1⟩; have c0 := g1.cell c0; have c1 := g1.cell c1; have G := Lib.hid (ktr G.out g1); clear g1))
        go_ret
        exact ⟨rfl, G.out⟩
      · have y1 : decide (x < n) = false := decide_eq_false (by omega)
        go_enter Tryd.func5, Tryd.ntmps5
        go_wp2_with (first
          | (go_at_call 11; (with_reducible refine (S1.out _ G.out).mono ?_); rintro e w1 ⟨rfl, g1⟩; have c0 := g1.cell c0; have c1 := g1.cell c1; have G := Lib.hid (ktr G.out g1); clear g1)
          | (go_at_call 8; (with_reducible refine (B.out _ G.out).mono ?_); rintro e w1 ⟨rfl, g1⟩; have c0 := g1.cell c0; have c1 := g1.cell c1; have G := Lib.hid (ktr G.out g1); clear g1)
          | (go_at_call 11; (with_reducible refine (S2.out _ G.out).mono ?_); rintro e w1 ⟨rfl, g1⟩; have c0 := g1.cell c0; have c1 := g1.cell c1; have G := Lib.hid (ktr G.out g1); clear g1)
          | (go_at_call 11; (with_reducible refine (S3.out _ G.out).mono ?_); rintro e w1 ⟨rfl, g1⟩; have c0 := g1.cell c0; have c1 := g1.cell c1; have G := Lib.hid (ktr G.out g1); clear g1)
          | (go_at_call 10; (with_reducible refine (C1.out _ G.out).mono ?_); rintro e w1 ⟨rfl, g1⟩; have c0 := g1.cell c0; have c1 := g1.cell c1; have G := Lib.hid (ktr G.out g1); clear g1)
          | (go_at_call 10; (with_reducible refine (C2.out _ G.out).mono ?_); rintro e w1 ⟨rfl, g1⟩; have c0 := g1.cell c0; have c1 := g1.cell c1; have G := Lib.hid (ktr G.out g1); clear g1)
          | (go_at_call 10; (with_reducible refine (C3.out _ G.out).mono ?_); rintro e w1 ⟨rfl, g1⟩; have c0 := g1.cell c0; have c1 := g1.cell c1; have G := Lib.hid (ktr G.out g1); clear g1))
        go_ret
        exact ⟨rfl, G.out⟩
    · have z2 : ¬ 0 ≤ b := by omega
      have z3 : decide (0 ≤ b) = false := decide_eq_false z2
      rcases F' with u1 | ⟨u1, u2⟩ | ⟨u1, u2, u3⟩ | ⟨u1, u2, rfl, rfl, rfl, rfl, u3, u4, u5, u6⟩
      · skip
        go_enter Tryd.func5, Tryd.ntmps5
        go_wp2_with (first
          | (go_at_call 11; (with_reducible refine (S1.out _ G.out).mono ?_); rintro e w1 ⟨rfl, g1⟩; have c0 := g1.cell c0; have c1 := g1.cell c1; have G := Lib.hid (ktr G.out g1); clear g1)
          | (go_at_call 8; (with_reducible refine (B.out _ G.out).mono ?_); rintro e w1 ⟨rfl, g1⟩; have c0 := g1.cell c0; have c1 := g1.cell c1; have G := Lib.hid (ktr G.out g1); clear g1)
          | (go_at_call 11; (with_reducible refine (S2.out _ G.out).mono ?_); rintro e w1 ⟨rfl, g1⟩; have c0 := g1.cell c0; have c1 := g1.cell c1; have G := Lib.hid (ktr G.out g1); clear g1)
          | (go_at_call 11; (with_reducible refine (S3.out _ G.out).mono ?_); rintro e w1 ⟨rfl, g1⟩; have c0 := g1.cell c0; have c1 := g1.cell c1; have G := Lib.hid (ktr G.out g1); clear g1)
          | (go_at_call 10; (with_reducible refine (C1.out _ G.out).mono ?_); rintro e w1 ⟨rfl, g1⟩; have c0 := g1.cell c0; have c1 := g1.cell c1; have G := Lib.hid (ktr G.out g1); clear g1)
          | (go_at_call 10; (with_reducible refine (C2.out _ G.out).mono ?_); rintro e w1 ⟨rfl, g1⟩; have c0 := g1.cell c0; have c1 := g1.cell c1; have G := Lib.hid (ktr G.out g1); clear g1)
          | (go_at_call 10; (with_reducible refine (C3.out _ G.out).mono ?_); rintro e w1 ⟨rfl, g1⟩; have c0 := g1.cell c0; have c1 := g1.cell c1; have G := Lib.hid (ktr G.out g1); clear g1))
        go_ret
        exact ⟨rfl, G.out⟩
      · have y1 : decide (x < n) = false := decide_eq_false (by omega)
        go_enter Tryd.func5, Tryd.ntmps5
        go_wp2_with (first
          | (go_at_call 11; (with_reducible refine (S1.out _ G.out).mono ?_); rintro e w1 ⟨rfl, g1⟩; have c0 := g1.cell c0; have c1 := g1.cell c1; have G := Lib.hid (ktr G.out g1); clear g1)
          | (go_at_call 8; (with_reducible refine (B.out _ G.out).mono ?_); rintro e w1 ⟨rfl, g1⟩; have c0 := g1.cell c0; have c1 := g1.cell c1; have G := Lib.hid (ktr G.out g1); clear g1)
          | (go_at_call 11; (with_reducible refine (S2.out _ G.out).mono ?_); rintro e w1 ⟨rfl, g1⟩; have c0 := g1.cell c0; have c1 := g1.cell c1; have G := Lib.hid (ktr G.out g1); clear g1)
          | (go_at_call 11; (with_reducible refine (S3.out _ G.out).mono ?_); rintro e w1 ⟨rfl, g1⟩; have c0 := g1.cell c0; have c1 := g1.cell c1; have G := Lib.hid (ktr G.out g1); clear g1)
          | (go_at_call 10; (with_reducible refine (C1.out _ G.out).mono ?_); rintro e w1 ⟨rfl, g1⟩; have c0 := g1.cell c0; have c1 := g1.cell c1; have G := Lib.hid (ktr G.out g1); clear g1)
          | (go_at_call 10; (with_reducible refine (C2.out _ G.out).mono ?_); rintro e w1 ⟨rfl, g1⟩; have c0 := g1.cell c0; have c1 := g1.cell c1; have G := Lib.hid (ktr G.out g1); clear g1)
          | (go_at_call 10; (with_reducible refine (C3.out _ G.out).mono ?_); rintro e w1 ⟨rfl, g1⟩; have c0 := g1.cell c0; have c1 := g1.cell c1; have G := Lib.hid (ktr G.out g1); clear g1))
        go_ret
        exact ⟨rfl, G.out⟩
      · have y1 : decide (x < n) = false := decide_eq_false (by omega)
        have y2 : (qe != 0) = true := bne_iff_ne.2 u3
        have y3 : (qe == 0) = false := beq_eq_false_iff_ne.2 u3
        clear u3
        go_enter Tryd.func5, Tryd.ntmps5
        go_wp2_with (first
          | (go_at_call 11; (with_reducible refine (S1.out _ G.out).mono ?_); rintro e w1 ⟨rfl, g1⟩; have c0 := g1.cell c0; have c1 := g1.cell c1; have G := Lib.hid (ktr G.out g1); clear g1)
          | (go_at_call 8; (with_reducible refine (B.out _ G.out).mono ?_); rintro e w1 ⟨rfl, g1⟩; have c0 := g1.cell c0; have c1 := g1.cell c1; have G := Lib.hid (ktr G.out g1); clear g1)
          | (go_at_call 11; (with_reducible refine (S2.out _ G.out).mono ?_); rintro e w1 ⟨rfl, g1⟩; have c0 := g1.cell c0; have c1 := g1.cell c1; have G := Lib.hid (ktr G.out g1); clear g1)
          | (go_at_call 11; (with_reducible refine (S3.out _ G.out).mono ?_); rintro e w1 ⟨rfl, g1⟩; have c0 := g1.cell c0; have c1 := g1.cell c1; have G := Lib.hid (ktr G.out g1); clear g1)
          | (go_at_call 10; (with_reducible refine (C1.out _ G.out).mono ?_); rintro e w1 ⟨rfl, g1⟩; have c0 := g1.cell c0; have c1 := g1.cell c1; have G := Lib.hid (ktr G.out g1); clear g1)
          | (go_at_call 10; (with_reducible refine (C2.out _ G.out).mono ?_); rintro e w1 ⟨rfl, g1⟩; have c0 := g1.cell c0; have c1 := g1.cell c1; have G := Lib.hid (ktr G.out g1); clear g1)
          | (go_at_call 10; (with_reducible refine (C3.out _ G.out).mono ?_); rintro e w1 ⟨rfl, g1⟩; have c0 := g1.cell c0; have c1 := g1.cell c1; have G := Lib.hid (ktr G.out g1); clear g1))
        go_ret
        exact ⟨rfl, G.out⟩
      · have y1 : decide (x < n) = false := decide_eq_false (by omega)
        go_enter Tryd.func5, Tryd.ntmps5
        go_wp2_with (first
          | (go_at_call 11; (with_reducible refine (S1.out _ G.out).mono ?_); rintro e w1 ⟨rfl, g1⟩; have c0 := g1.cell c0; have c1 := g1.cell c1; have G := Lib.hid (ktr G.out g1); clear g1)
          | (go_at_call 8; (with_reducible refine (B.out _ G.out).mono ?_); rintro e w1 ⟨rfl, g1⟩; have c0 := g1.cell c0; have c1 := g1.cell c1; have G := Lib.hid (ktr G.out g1); clear g1)
          | (go_at_call 11; (with_reducible refine (S2.out _ G.out).mono ?_); rintro e w1 ⟨rfl, g1⟩; have c0 := g1.cell c0; have c1 := g1.cell c1; have G := Lib.hid (ktr G.out g1); clear g1)
          | (go_at_call 11; (with_reducible refine (S3.out _ G.out).mono ?_); rintro e w1 ⟨rfl, g1⟩; have c0 := g1.cell c0; have c1 := g1.cell c1; have G := Lib.hid (ktr G.out g1); clear g1)
          | (go_at_call 10; (with_reducible refine (C1.out _ G.out).mono ?_); rintro e w1 ⟨rfl, g1⟩; have c0 := g1.cell c0; have c1 := g1.cell c1; have G := Lib.hid (ktr G.out g1); clear g1)
          | (go_at_call 10; (with_reducible refine (C2.out _ G.out).mono ?_); rintro e w1 ⟨rfl, g1⟩; have c0 := g1.cell c0; have c1 := g1.cell c1; have G := Lib.hid (ktr G.out g1); clear g1)
          | (go_at_call 10; (with_reducible refine (C3.out _ G.out).mono ?_); rintro e w1 ⟨rfl, g1⟩; have c0 := g1.cell c0; have c1 := g1.cell c1; have G := Lib.hid (ktr G.out g1); clear g1))
        go_ret
        exact ⟨rfl, G.out⟩
    · have z2 : ¬ many + b ≤ 500 := by omega
      have z3 : decide (many + b ≤ 500) = false := decide_eq_false z2
      rcases F' with u1 | ⟨u1, u2⟩ | ⟨u1, u2, u3⟩ | ⟨u1, u2, rfl, rfl, rfl, rfl, u3, u4, u5, u6⟩
      · skip
        go_enter Tryd.func5, Tryd.ntmps5
        go_wp2_with (first
          | (go_at_call 11; (with_reducible refine (S1.out _ G.out).mono ?_); rintro e w1 ⟨rfl, g1⟩; have c0 := g1.cell c0; have c1 := g1.cell c1; have G := Lib.hid (ktr G.out g1); clear g1)
          | (go_at_call 8; (with_reducible refine (B.out _ G.out).mono ?_); rintro e w1 ⟨rfl, g1⟩; have c0 := g1.cell c0; have c1 := g1.cell c1; have G := Lib.hid (ktr G.out g1); clear g1)
          | (go_at_call 11; (with_reducible refine (S2.out _ G.out).mono ?_); rintro e w1 ⟨rfl, g1⟩; have c0 := g1.cell c0; have c1 := g1.cell c1; have G := Lib.hid (ktr G.out g1); clear g1)
          | (go_at_call 11; (with_reducible refine (S3.out _ G.out).mono ?_); rintro e w1 ⟨rfl, g1⟩; have c0 := g1.cell c0; have c1 := g1.cell c1; have G := Lib.hid (ktr G.out g1); clear g1)
          | (go_at_call 10; (with_reducible refine (C1.out _ G.out).mono ?_); rintro e w1 ⟨rfl, g1⟩; have c0 := g1.cell c0; have c1 := g1.cell c1; have G := Lib.hid (ktr G.out g1); clear g1)
          | (go_at_call 10; (with_reducible refine (C2.out _ G.out).mono ?_); rintro e w1 ⟨rfl, g1⟩; have c0 := g1.cell c0; have c1 := g1.cell c1; have G := Lib.hid (ktr G.out g1); clear g1)
          | (go_at_call 10; (with_reducible refine (C3.out _ G.out).mono ?_); rintro e w1 ⟨rfl, g1⟩; have c0 := g1.cell c0; have c1 := g1.cell c1; have G := Lib.hid (ktr G.out g1); clear g1))
        go_ret
        exact ⟨rfl, G.out⟩
      · have y1 : decide (x < n) = false := decide_eq_false (by omega)
        go_enter Tryd.func5, Tryd.ntmps5
        go_wp2_with (first
          | (go_at_call 11; (with_reducible refine (S1.out _ G.out).mono ?_); rintro e w1 ⟨rfl, g1⟩; have c0 := g1.cell c0; have c1 := g1.cell c1; have G := Lib.hid (ktr G.out g1); clear g1)
          | (go_at_call 8; (with_reducible refine (B.out _ G.out).mono ?_); rintro e w1 ⟨rfl, g1⟩; have c0 := g1.cell c0; have c1 := g1.cell c1; have G := Lib.hid (ktr G.out g1); clear g1)
          | (go_at_call 11; (with_reducible refine (S2.out _ G.out).mono ?_); rintro e w1 ⟨rfl, g1⟩; have c0 := g1.cell c0; have c1 := g1.cell c1; have G := Lib.hid (ktr G.out g1); clear g1)
          | (go_at_call 11; (with_reducible refine (S3.out _ G.out).mono ?_); rintro e w1 ⟨rfl, g1⟩; have c0 := g1.cell c0; have c1 := g1.cell c1; have G := Lib.hid (ktr G.out g1); clear g1)
          | (go_at_call 10; (with_reducible refine (C1.out _ G.out).mono ?_); rintro e w1 ⟨rfl, g1⟩; have c0 := g1.cell c0; have c1 := g1.cell c1; have G := Lib.hid (ktr G.out g1); clear g1)
          | (go_at_call 10; (with_reducible refine (C2.out _ G.out).mono ?_); rintro e w1 ⟨rfl, g1⟩; have c0 := g1.cell c0; have c1 := g1.cell c1; have G := Lib.hid (ktr G.out g1); clear g1)
          | (go_at_call 10; (with_reducible refine (C3.out _ G.out).mono ?_); rintro e w1 ⟨rfl, g1⟩; have c0 := g1.cell c0; have c1 := g1.cell c1; have G := Lib.hid (ktr G.out g1); clear g1))
        go_ret
        exact ⟨rfl, G.out⟩
      · have y1 : decide (x < n) = false := decide_eq_false (by omega)
        have y2 : (qe != 0) = true := bne_iff_ne.2 u3
        have y3 : (qe == 0) = false := beq_eq_false_iff_ne.2 u3
        clear u3
        go_enter Tryd.func5, Tryd.ntmps5
        go_wp2_with (first
          | (go_at_call 11; (with_reducible refine (S1.out _ G.out).mono ?_); rintro e w1 ⟨rfl, g1⟩; have c0 := g1.cell c0; have c1 := g1.cell c1; have G := Lib.hid (ktr G.out g1); clear g1)
          | (go_at_call 8; (with_reducible refine (B.out _ G.out).mono ?_); rintro e w1 ⟨rfl, g1⟩; have c0 := g1.cell c0; have c1 := g1.cell c1; have G := Lib.hid (ktr G.out g1); clear g1)
          | (go_at_call 11; (with_reducible refine (S2.out _ G.out).mono ?_); rintro e w1 ⟨rfl, g1⟩; have c0 := g1.cell c0; have c1 := g1.cell c1; have G := Lib.hid (ktr G.out g1); clear g1)
          | (go_at_call 11; (with_reducible refine (S3.out _ G.out).mono ?_); rintro e w1 ⟨rfl, g1⟩; have c0 := g1.cell c0; have c1 := g1.cell c1; have G := Lib.hid (ktr G.out g1); clear g1)
          | (go_at_call 10; (with_reducible refine (C1.out _ G.out).mono ?_); rintro e w1 ⟨rfl, g1⟩; have c0 := g1.cell c0; have c1 := g1.cell c1; have G := Lib.hid (ktr G.out g1); clear g1)
          | (go_at_call 10; (with_reducible refine (C2.out _ G.out).mono ?_); rintro e w1 ⟨rfl, g1⟩; have c0 := g1.cell c0; have c1 := g1.cell c1; have G := Lib.hid (ktr G.out g1); clear g1)
          | (go_at_call 10; (with_reducible refine (C3.out _ G.out).mono ?_); rintro e w1 ⟨rfl, g1⟩; have c0 := g1.cell c0; have c1 := g1.cell c1; have G := Lib.hid (ktr G.out g1); clear g1))
        go_ret
        exact ⟨rfl, G.out⟩
      · have y1 : decide (x < n) = false := decide_eq_false (by omega)
        go_enter Tryd.func5, Tryd.ntmps5
        go_wp2_with (first
          | (go_at_call 11; (with_reducible refine (S1.out _ G.out).mono ?_); rintro e w1 ⟨rfl, g1⟩; have c0 := g1.cell c0; have c1 := g1.cell c1; have G := Lib.hid (ktr G.out g1); clear g1)
          | (go_at_call 8; (with_reducible refine (B.out _ G.out).mono ?_); rintro e w1 ⟨rfl, g1⟩; have c0 := g1.cell c0; have c1 := g1.cell c1; have G := Lib.hid (ktr G.out g1); clear g1)
          | (go_at_call 11; (with_reducible refine (S2.out _ G.out).mono ?_); rintro e w1 ⟨rfl, g1⟩; have c0 := g1.cell c0; have c1 := g1.cell c1; have G := Lib.hid (ktr G.out g1); clear g1)
          | (go_at_call 11; (with_reducible refine (S3.out _ G.out).mono ?_); rintro e w1 ⟨rfl, g1⟩; have c0 := g1.cell c0; have c1 := g1.cell c1; have G := Lib.hid (ktr G.out g1); clear g1)
          | (go_at_call 10; (with_reducible refine (C1.out _ G.out).mono ?_); rintro e w1 ⟨rfl, g1⟩; have c0 := g1.cell c0; have c1 := g1.cell c1; have G := Lib.hid (ktr G.out g1); clear g1)
          | (go_at_call 10; (with_reducible refine (C2.out _ G.out).mono ?_); rintro e w1 ⟨rfl, g1⟩; have c0 := g1.cell c0; have c1 := g1.cell c1; have G := Lib.hid (ktr G.out g1); clear g1)
          | (go_at_call 10; (with_reducible refine (C3.out _ G.out).mono ?_); rintro e w1 ⟨rfl, g1⟩; have c0 := g1.cell c0; have c1 := g1.cell c1; have G := Lib.hid (ktr G.out g1); clear g1))
        go_ret
        exact ⟨rfl, G.out⟩
    · skip
      rcases F' with u1 | ⟨u1, u2⟩ | ⟨u1, u2, u3⟩ | ⟨u1, u2, rfl, rfl, rfl, rfl, u3, u4, u5, u6⟩
      · skip
        go_enter Tryd.func5, Tryd.ntmps5
        go_wp2_with (first
          | (go_at_call 11; (with_reducible refine (S1.out _ G.out).mono ?_); rintro e w1 ⟨rfl, g1⟩; have c0 := g1.cell c0; have c1 := g1.cell c1; have G := Lib.hid (ktr G.out g1); clear g1)
          | (go_at_call 8; (with_reducible refine (B.out _ G.out).mono ?_); rintro e w1 ⟨rfl, g1⟩; have c0 := g1.cell c0; have c1 := g1.cell c1; have G := Lib.hid (ktr G.out g1); clear g1)
          | (go_at_call 11; (with_reducible refine (S2.out _ G.out).mono ?_); rintro e w1 ⟨rfl, g1⟩; have c0 := g1.cell c0; have c1 := g1.cell c1; have G := Lib.hid (ktr G.out g1); clear g1)
          | (go_at_call 11; (with_reducible refine (S3.out _ G.out).mono ?_); rintro e w1 ⟨rfl, g1⟩; have c0 := g1.cell c0; have c1 := g1.cell c1; have G := Lib.hid (ktr G.out g1); clear g1)
          | (go_at_call 10; (with_reducible refine (C1.out _ G.out).mono ?_); rintro e w1 ⟨rfl, g1⟩; have c0 := g1.cell c0; have c1 := g1.cell c1; have G := Lib.hid (ktr G.out g1); clear g1)
          | (go_at_call 10; (with_reducible refine (C2.out _ G.out).mono ?_); rintro e w1 ⟨rfl, g1⟩; have c0 := g1.cell c0; have c1 := g1.cell c1; have G := Lib.hid (ktr G.out g1); clear g1)
          | (go_at_call 10; (with_reducible refine (C3.out _ G.out).mono ?_); rintro e w1 ⟨rfl, g1⟩; have c0 := g1.cell c0; have c1 := g1.cell c1; have G := Lib.hid (ktr G.out g1); clear g1))
        go_ret
        exact ⟨rfl, G.out⟩
      · have y1 : decide (x < n) = false := decide_eq_false (by omega)
        go_enter Tryd.func5, Tryd.ntmps5
        go_wp2_with (first
          | (go_at_call 11; (with_reducible refine (S1.out _ G.out).mono ?_); rintro e w1 ⟨rfl, g1⟩; have c0 := g1.cell c0; have c1 := g1.cell c1; have G := Lib.hid (ktr G.out g1); clear g1)
          | (go_at_call 8; (with_reducible refine (B.out _ G.out).mono ?_); rintro e w1 ⟨rfl, g1⟩; have c0 := g1.cell c0; have c1 := g1.cell c1; have G := Lib.hid (ktr G.out g1); clear g1)
          | (go_at_call 11; (with_reducible refine (S2.out _ G.out).mono ?_); rintro e w1 ⟨rfl, g1⟩; have c0 := g1.cell c0; have c1 := g1.cell c1; have G := Lib.hid (ktr G.out g1); clear g1)
          | (go_at_call 11; (with_reducible refine (S3.out _ G.out).mono ?_); rintro e w1 ⟨rfl, g1⟩; have c0 := g1.cell c0; have c1 := g1.cell c1; have G := Lib.hid (ktr G.out g1); clear g1)
          | (go_at_call 10; (with_reducible refine (C1.out _ G.out).mono ?_); rintro e w1 ⟨rfl, g1⟩; have c0 := g1.cell c0; have c1 := g1.cell c1; have G := Lib.hid (ktr G.out g1); clear g1)
          | (go_at_call 10; (with_reducible refine (C2.out _ G.out).mono ?_); rintro e w1 ⟨rfl, g1⟩; have c0 := g1.cell c0; have c1 := g1.cell c1; have G := Lib.hid (ktr G.out g1); clear g1)
          | (go_at_call 10; (with_reducible refine (C3.out _ G.out).mono ?_); rintro e w1 ⟨rfl, g1⟩; have c0 := g1.cell c0; have c1 := g1.cell c1; have G := Lib.hid (ktr G.out g1); clear g1))
        go_ret
        exact ⟨rfl, G.out⟩
      · have y1 : decide (x < n) = false := decide_eq_false (by omega)
        have y2 : (qe != 0) = true := bne_iff_ne.2 u3
        have y3 : (qe == 0) = false := beq_eq_false_iff_ne.2 u3
        clear u3
        go_enter Tryd.func5, Tryd.ntmps5
        go_wp2_with (first
          | (go_at_call 11; (with_reducible refine (S1.out _ G.out).mono ?_); rintro e w1 ⟨rfl, g1⟩; have c0 := g1.cell c0; have c1 := g1.cell c1; have G := Lib.hid (ktr G.out g1); clear g1)
          | (go_at_call 8; (with_reducible refine (B.out _ G.out).mono ?_); rintro e w1 ⟨rfl, g1⟩; have c0 := g1.cell c0; have c1 := g1.cell c1; have G := Lib.hid (ktr G.out g1); clear g1)
          | (go_at_call 11; (with_reducible refine (S2.out _ G.out).mono ?_); rintro e w1 ⟨rfl, g1⟩; have c0 := g1.cell c0; have c1 := g1.cell c1; have G := Lib.hid (ktr G.out g1); clear g1)
          | (go_at_call 11; (with_reducible refine (S3.out _ G.out).mono ?_); rintro e w1 ⟨rfl, g1⟩; have c0 := g1.cell c0; have c1 := g1.cell c1; have G := Lib.hid (ktr G.out g1); clear g1)
          | (go_at_call 10; (with_reducible refine (C1.out _ G.out).mono ?_); rintro e w1 ⟨rfl, g1⟩; have c0 := g1.cell c0; have c1 := g1.cell c1; have G := Lib.hid (ktr G.out g1); clear g1)
          | (go_at_call 10; (with_reducible refine (C2.out _ G.out).mono ?_); rintro e w1 ⟨rfl, g1⟩; have c0 := g1.cell c0; have c1 := g1.cell c1; have G := Lib.hid (ktr G.out g1); clear g1)
          | (go_at_call 10; (with_reducible refine (C3.out _ G.out).mono ?_); rintro e w1 ⟨rfl, g1⟩; have c0 := g1.cell c0; have c1 := g1.cell c1; have G := Lib.hid (ktr G.out g1); clear g1))
        go_ret
        exact ⟨rfl, G.out⟩
      · have y1 : decide (x < n) = false := decide_eq_false (by omega)
        go_enter Tryd.func5, Tryd.ntmps5
        go_wp2_with (first
          | (go_at_call 11; (with_reducible refine (S1.out _ G.out).mono ?_); rintro e w1 ⟨rfl, g1⟩; have c0 := g1.cell c0; have c1 := g1.cell c1; have G := Lib.hid (ktr G.out g1); clear g1)
          | (go_at_call 8; (with_reducible refine (B.out _ G.out).mono ?_); rintro e w1 ⟨rfl, g1⟩; have c0 := g1.cell c0; have c1 := g1.cell c1; have G := Lib.hid (ktr G.out g1); clear g1)
          | (go_at_call 11; (with_reducible refine (S2.out _ G.out).mono ?_); rintro e w1 ⟨rfl, g1⟩; have c0 := g1.cell c0; have c1 := g1.cell c1; have G := Lib.hid (ktr G.out g1); clear g1)
          | (go_at_call 11; (with_reducible refine (S3.out _ G.out).mono ?_); rintro e w1 ⟨rfl, g1⟩; have c0 := g1.cell c0; have c1 := g1.cell c1; have G := Lib.hid (ktr G.out g1); clear g1)
          | (go_at_call 10; (with_reducible refine (C1.out _ G.out).mono ?_); rintro e w1 ⟨rfl, g1⟩; have c0 := g1.cell c0; have c1 := g1.cell c1; have G := Lib.hid (ktr G.out g1); clear g1)
          | (go_at_call 10; (with_reducible refine (C2.out _ G.out).mono ?_); rintro e w1 ⟨rfl, g1⟩; have c0 := g1.cell c0; have c1 := g1.cell c1; have G := Lib.hid (ktr G.out g1); clear g1)
          | (go_at_call 10; (with_reducible refine (C3.out _ G.out).mono ?_); rintro e w1 ⟨rfl, g1⟩; have c0 := g1.cell c0; have c1 := g1.cell c1; have G := Lib.hid (ktr G.out g1); clear g1))
        go_ret
        exact ⟨rfl, G.out⟩
  · rw [e2] at S1
    generalize steE W hs n many = E at S1 e1
    have q : (E == 0) = false := beq_eq_false_iff_ne.2 e1
    have q' : (E != 0) = true := bne_iff_ne.2 e1
    clear e1 e2
    go_enter Tryd.func5, Tryd.ntmps5
    go_wp2_with (first
      | (go_at_call 11; (with_reducible refine (S1.out _ G.out).mono ?_); rintro e w1 ⟨rfl, g1⟩; have c0 := g1.cell c0; have c1 := g1.cell c1; have G := Lib.hid (ktr G.out g1); clear g1)
      | (go_at_call 8; (with_reducible refine (B.out _ G.out).mono ?_); rintro e w1 ⟨rfl, g1⟩; have c0 := g1.cell c0; have c1 := g1.cell c1; have G := Lib.hid (ktr G.out g1); clear g1))
    go_ret
    exact ⟨rfl, G.out⟩

end Go.Proofs.YthnepfdhdfhdkaaDoor
