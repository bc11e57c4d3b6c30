/-
  CalNext: the law answers true.
-/
import Derived.Test.YthnepfdhdfhdkaaDoorCalK
namespace Go.Proofs.YthnepfdhdfhdkaaDoor
open Go.RowKit
set_option linter.unusedVariables false

set_option maxRecDepth 100000 in
set_option maxHeartbeats 2000000 in
theorem calNext_walk (W : Int) (v : Value) (hs : List Int) (n later : Int) (w : World) (ht : Tab w) (hr : Reads w v hs) (hf : Fits hs) :
    Calls Tryd.prog 3 #[calV W v, .int .i64 n, .int .i64 later] w fun r w' => r = .returned (.bool true) ∧ Kpt w w' := by
  obtain ⟨a, cap, rfl, hm, hc⟩ := id hr
  have k0 : Kpt w (w.alloc (.cells #[.int .i64 W, .slice a hs.length cap] 24)) := (Kpt.refl _).alloc _
  have G := Lib.hid k0
  have c0 : (w.alloc (.cells #[.int .i64 W, .slice a hs.length cap] 24)).cell? ⟨w.heap.size, 0, none⟩ = some (.int .i64 W) := by simp [go_sem]
  have c1 : (w.alloc (.cells #[.int .i64 W, .slice a hs.length cap] 24)).cell? ⟨w.heap.size, 1, none⟩ = some (.slice a hs.length cap) := by simp [go_sem]
  have B := Lib.hid (fun w' (g : Kpt w w') => calBegun w' (ht.kpt g))
  have HT := Lib.hid ht
  have HR := Lib.hid hr
  have HF := Lib.hid hf
  clear hr hm hc ht hf k0
  have N1 := Lib.hid (fun w' (g : Kpt w w') => next_any W n _ hs w' (HR.out.kpt g) HF.out)
  rcases nxt_cases W hs n with ⟨e1, hE, n0, nk, k1, kb, kc⟩ | ⟨e1, e2⟩
  · obtain ⟨k, hk⟩ : ∃ k, nxtR W hs n = k := ⟨_, rfl⟩
    rw [hk] at nk k1 kb kc N1
    rw [e1] at N1
    have i1 := is_ok' hE (show 0 ≤ k by omega) k1
    rw [kb] at i1
    have I1 := Lib.hid (fun w' (g : Kpt w w') => is_any W k _ hs w' (HR.out.kpt g) HF.out)
    rw [i1.1, i1.2] at I1
    have m1 := nxt_at (W := W) (hs := hs) (n := k) (k := k) hE (by omega) (Int.le_refl _) k1 kb (by rw [cnt_at _ (Int.le_refl k) kb, cnt_self])
    have N2 := Lib.hid (fun w' (g : Kpt w w') => next_any W k _ hs w' (HR.out.kpt g) HF.out)
    rw [m1.1, m1.2] at N2
    have z1 : cnt (bizB W hs) (n - 1) (k - 1) = 0 := by have := cnt_end (bizB W hs) (show n - 1 < k by omega) kb; omega
    have C1 : n < k → Hid (∀ w', Kpt w w' → Calls Tryd.prog 10 #[calV W (.slice a hs.length cap), .int .i64 n, .int .i64 (k - 1)] w' fun e w'' => e = .returned (.tuple #[.int .i64 0, .int .i64 0]) ∧ Kpt w' w'') := fun hlt w' g => by
      have c := cou_ok (W := W) (hs := hs) (f := n) (t := k - 1) hE n0 (by omega) (by omega)
      have z2 := cnt_pre (bizB W hs) (show n ≤ k - 1 by omega)
      rw [show cnt (bizB W hs) n (k - 1) = 0 by omega] at c
      have := count_any W n (k - 1) _ hs w' (HR.out.kpt g) HF.out
      rw [c.1, c.2] at this
      exact this
    have P : later < n ∨ (¬ later < n ∧ nxtE W hs later ≠ 0) ∨ (¬ later < n ∧ nxtE W hs later = 0 ∧ k ≤ nxtR W hs later) := by
      by_cases g : later < n
      · exact .inl g
      · rcases nxt_cases W hs later with ⟨f1, _, f3, f4, f5, f6, f7⟩ | ⟨f1, f2⟩
        · refine .inr (.inr ⟨g, f1, ?_⟩)
          by_cases l : k ≤ nxtR W hs later
          · exact l
          · have := cnt_none (show n - 1 ≤ k - 1 by omega) z1 (show n - 1 < nxtR W hs later by omega) (show nxtR W hs later ≤ k - 1 by omega)
            rw [this] at f6; cases f6
        · exact .inr (.inl ⟨g, f1⟩)
    have N3 := Lib.hid (fun w' (g : Kpt w w') => next_any W later _ hs w' (HR.out.kpt g) HF.out)
    generalize nxtR W hs later = Y at N3 P
    generalize nxtE W hs later = E at N3 P
    have k0 : 0 ≤ k := by omega
    clear e1 i1 m1 kb kc hk z1
    have s1 : decide (k < n) = false := decide_eq_false (by omega)
    by_cases hlt : n < k
    · have CC := C1 hlt
      clear C1
      rcases P with p | ⟨p, p2⟩ | ⟨p, p2, p3⟩
      · have q1 : decide (later < n) = true := decide_eq_true p
        go_enter Tryd.func3, Tryd.ntmps3
        go_wp2_with (first
          | (go_at_call 7; (with_reducible refine (N1.out _ G.out).mono ?_); rintro e w1 ⟨rfl, g1⟩; have c0 := g1.cell c0; have c1 := g1.cell c1; have G := Lib.hid (ktr G.out g1); clear g1)
          | (go_at_call 8; (with_reducible refine (B.out _ G.out).mono ?_); rintro e w1 ⟨rfl, g1⟩; have c0 := g1.cell c0; have c1 := g1.cell c1; have G := Lib.hid (ktr G.out g1); clear g1)
          | (go_at_call 9; (with_reducible refine (I1.out _ G.out).mono ?_); rintro e w1 ⟨rfl, g1⟩; have c0 := g1.cell c0; have c1 := g1.cell c1; have G := Lib.hid (ktr G.out g1); clear g1)
          | (go_at_call 7; (with_reducible refine (N2.out _ G.out).mono ?_); rintro e w1 ⟨rfl, g1⟩; have c0 := g1.cell c0; have c1 := g1.cell c1; have G := Lib.hid (ktr G.out g1); clear g1)
          | (go_at_call 10; (with_reducible refine (CC.out _ G.out).mono ?_); rintro e w1 ⟨rfl, g1⟩; have c0 := g1.cell c0; have c1 := g1.cell c1; have G := Lib.hid (ktr G.out g1); clear g1)
          | (go_at_call 7; (with_reducible refine (N3.out _ G.out).mono ?_); rintro e w1 ⟨rfl, g1⟩; have c0 := g1.cell c0; have c1 := g1.cell c1; have G := Lib.hid (ktr G.out g1); clear g1))
        go_ret
        exact ⟨rfl, G.out⟩
      · have q1 : decide (later < n) = false := decide_eq_false p
        have q2 : (E == 0) = false := beq_eq_false_iff_ne.2 p2
        have q4 : (E != 0) = true := bne_iff_ne.2 p2
        clear p p2
        go_enter Tryd.func3, Tryd.ntmps3
        go_wp2_with (first
          | (go_at_call 7; (with_reducible refine (N1.out _ G.out).mono ?_); rintro e w1 ⟨rfl, g1⟩; have c0 := g1.cell c0; have c1 := g1.cell c1; have G := Lib.hid (ktr G.out g1); clear g1)
          | (go_at_call 8; (with_reducible refine (B.out _ G.out).mono ?_); rintro e w1 ⟨rfl, g1⟩; have c0 := g1.cell c0; have c1 := g1.cell c1; have G := Lib.hid (ktr G.out g1); clear g1)
          | (go_at_call 9; (with_reducible refine (I1.out _ G.out).mono ?_); rintro e w1 ⟨rfl, g1⟩; have c0 := g1.cell c0; have c1 := g1.cell c1; have G := Lib.hid (ktr G.out g1); clear g1)
          | (go_at_call 7; (with_reducible refine (N2.out _ G.out).mono ?_); rintro e w1 ⟨rfl, g1⟩; have c0 := g1.cell c0; have c1 := g1.cell c1; have G := Lib.hid (ktr G.out g1); clear g1)
          | (go_at_call 10; (with_reducible refine (CC.out _ G.out).mono ?_); rintro e w1 ⟨rfl, g1⟩; have c0 := g1.cell c0; have c1 := g1.cell c1; have G := Lib.hid (ktr G.out g1); clear g1)
          | (go_at_call 7; (with_reducible refine (N3.out _ G.out).mono ?_); rintro e w1 ⟨rfl, g1⟩; have c0 := g1.cell c0; have c1 := g1.cell c1; have G := Lib.hid (ktr G.out g1); clear g1))
        go_ret
        exact ⟨rfl, G.out⟩
      · have q1 : decide (later < n) = false := decide_eq_false p
        have q3 : decide (k ≤ Y) = true := decide_eq_true p3
        subst p2
        clear p
        go_enter Tryd.func3, Tryd.ntmps3
        go_wp2_with (first
          | (go_at_call 7; (with_reducible refine (N1.out _ G.out).mono ?_); rintro e w1 ⟨rfl, g1⟩; have c0 := g1.cell c0; have c1 := g1.cell c1; have G := Lib.hid (ktr G.out g1); clear g1)
          | (go_at_call 8; (with_reducible refine (B.out _ G.out).mono ?_); rintro e w1 ⟨rfl, g1⟩; have c0 := g1.cell c0; have c1 := g1.cell c1; have G := Lib.hid (ktr G.out g1); clear g1)
          | (go_at_call 9; (with_reducible refine (I1.out _ G.out).mono ?_); rintro e w1 ⟨rfl, g1⟩; have c0 := g1.cell c0; have c1 := g1.cell c1; have G := Lib.hid (ktr G.out g1); clear g1)
          | (go_at_call 7; (with_reducible refine (N2.out _ G.out).mono ?_); rintro e w1 ⟨rfl, g1⟩; have c0 := g1.cell c0; have c1 := g1.cell c1; have G := Lib.hid (ktr G.out g1); clear g1)
          | (go_at_call 10; (with_reducible refine (CC.out _ G.out).mono ?_); rintro e w1 ⟨rfl, g1⟩; have c0 := g1.cell c0; have c1 := g1.cell c1; have G := Lib.hid (ktr G.out g1); clear g1)
          | (go_at_call 7; (with_reducible refine (N3.out _ G.out).mono ?_); rintro e w1 ⟨rfl, g1⟩; have c0 := g1.cell c0; have c1 := g1.cell c1; have G := Lib.hid (ktr G.out g1); clear g1))
        go_ret
        exact ⟨rfl, G.out⟩
    · obtain rfl : k = n := by omega
      clear C1 hlt
      rcases P with p | ⟨p, p2⟩ | ⟨p, p2, p3⟩
      · have q1 : decide (later < k) = true := decide_eq_true p
        go_enter Tryd.func3, Tryd.ntmps3
        go_wp2_with (first
          | (go_at_call 7; (with_reducible refine (N1.out _ G.out).mono ?_); rintro e w1 ⟨rfl, g1⟩; have c0 := g1.cell c0; have c1 := g1.cell c1; have G := Lib.hid (ktr G.out g1); clear g1)
          | (go_at_call 8; (with_reducible refine (B.out _ G.out).mono ?_); rintro e w1 ⟨rfl, g1⟩; have c0 := g1.cell c0; have c1 := g1.cell c1; have G := Lib.hid (ktr G.out g1); clear g1)
          | (go_at_call 9; (with_reducible refine (I1.out _ G.out).mono ?_); rintro e w1 ⟨rfl, g1⟩; have c0 := g1.cell c0; have c1 := g1.cell c1; have G := Lib.hid (ktr G.out g1); clear g1)
          | (go_at_call 7; (with_reducible refine (N2.out _ G.out).mono ?_); rintro e w1 ⟨rfl, g1⟩; have c0 := g1.cell c0; have c1 := g1.cell c1; have G := Lib.hid (ktr G.out g1); clear g1)
          | (go_at_call 7; (with_reducible refine (N3.out _ G.out).mono ?_); rintro e w1 ⟨rfl, g1⟩; have c0 := g1.cell c0; have c1 := g1.cell c1; have G := Lib.hid (ktr G.out g1); clear g1))
        go_ret
        exact ⟨rfl, G.out⟩
      · have q1 : decide (later < k) = false := decide_eq_false p
        have q2 : (E == 0) = false := beq_eq_false_iff_ne.2 p2
        have q4 : (E != 0) = true := bne_iff_ne.2 p2
        clear p p2
        go_enter Tryd.func3, Tryd.ntmps3
        go_wp2_with (first
          | (go_at_call 7; (with_reducible refine (N1.out _ G.out).mono ?_); rintro e w1 ⟨rfl, g1⟩; have c0 := g1.cell c0; have c1 := g1.cell c1; have G := Lib.hid (ktr G.out g1); clear g1)
          | (go_at_call 8; (with_reducible refine (B.out _ G.out).mono ?_); rintro e w1 ⟨rfl, g1⟩; have c0 := g1.cell c0; have c1 := g1.cell c1; have G := Lib.hid (ktr G.out g1); clear g1)
          | (go_at_call 9; (with_reducible refine (I1.out _ G.out).mono ?_); rintro e w1 ⟨rfl, g1⟩; have c0 := g1.cell c0; have c1 := g1.cell c1; have G := Lib.hid (ktr G.out g1); clear g1)
          | (go_at_call 7; (with_reducible refine (N2.out _ G.out).mono ?_); rintro e w1 ⟨rfl, g1⟩; have c0 := g1.cell c0; have c1 := g1.cell c1; have G := Lib.hid (ktr G.out g1); clear g1)
          | (go_at_call 7; (with_reducible refine (N3.out _ G.out).mono ?_); rintro e w1 ⟨rfl, g1⟩; have c0 := g1.cell c0; have c1 := g1.cell c1; have G := Lib.hid (ktr G.out g1); clear g1))
        go_ret
        exact ⟨rfl, G.out⟩
      · have q1 : decide (later < k) = false := decide_eq_false p
        have q3 : decide (k ≤ Y) = true := decide_eq_true p3
        subst p2
        clear p
        go_enter Tryd.func3, Tryd.ntmps3
        go_wp2_with (first
          | (go_at_call 7; (with_reducible refine (N1.out _ G.out).mono ?_); rintro e w1 ⟨rfl, g1⟩; have c0 := g1.cell c0; have c1 := g1.cell c1; have G := Lib.hid (ktr G.out g1); clear g1)
          | (go_at_call 8; (with_reducible refine (B.out _ G.out).mono ?_); rintro e w1 ⟨rfl, g1⟩; have c0 := g1.cell c0; have c1 := g1.cell c1; have G := Lib.hid (ktr G.out g1); clear g1)
          | (go_at_call 9; (with_reducible refine (I1.out _ G.out).mono ?_); rintro e w1 ⟨rfl, g1⟩; have c0 := g1.cell c0; have c1 := g1.cell c1; have G := Lib.hid (ktr G.out g1); clear g1)
          | (go_at_call 7; (with_reducible refine (N2.out _ G.out).mono ?_); rintro e w1 ⟨rfl, g1⟩; have c0 := g1.cell c0; have c1 := g1.cell c1; have G := Lib.hid (ktr G.out g1); clear g1)
          | (go_at_call 7; (with_reducible refine (N3.out _ G.out).mono ?_); rintro e w1 ⟨rfl, g1⟩; have c0 := g1.cell c0; have c1 := g1.cell c1; have G := Lib.hid (ktr G.out g1); clear g1))
        go_ret
        exact ⟨rfl, G.out⟩
  · rw [e2] at N1
    generalize nxtE W hs n = E at N1 e1
    have q : (E == 0) = false := beq_eq_false_iff_ne.2 e1
    clear e1 e2
    go_enter Tryd.func3, Tryd.ntmps3
    go_wp2_with (first
      | (go_at_call 7; (with_reducible refine (N1.out _ G.out).mono ?_); rintro e w1 ⟨rfl, g1⟩; have c0 := g1.cell c0; have c1 := g1.cell c1; have G := Lib.hid (ktr G.out g1); clear g1)
      | (go_at_call 8; (with_reducible refine (B.out _ G.out).mono ?_); rintro e w1 ⟨rfl, g1⟩; have c0 := g1.cell c0; have c1 := g1.cell c1; have G := Lib.hid (ktr G.out g1); clear g1))
    go_ret
    exact ⟨rfl, G.out⟩

end Go.Proofs.YthnepfdhdfhdkaaDoor
