/-
  Merged: FailC.
-/
import Derived.Test.YtgccipmeiceonaaMk5
-- FailC
namespace Go.Proofs.Ytgccipmeiceonaa
open Go.RowKit
set_option linter.unusedVariables false

set_option maxHeartbeats 4000000 in
theorem fcheck_run (i f t c p d u x b y : Int) (w : World) :
    Calls Try.prog 104 #[.agg #[.int .i64 i, .int .i64 f, .int .i64 t, .int .i64 c, .int .i64 p, .int .i64 d, .int .i64 u, .int .i64 x, .int .i64 b, .int .i64 y]] w fun e w' => e = .returned (.int .i64 (failE i f t c p d u x b y)) ∧ Kpt w w' := by
  have ID := Lib.hid (fun w' => isDue_run i f t c p d u x b y w')
  cases Y1 : fdue i f t c p d u with
  | false =>
    rw [show failE i f t c p d u x b y = 3 by unfold failE; rw [if_neg (by rw [Y1]; simp)]]
    rw [Y1] at ID
    go_enter Try.func104, Try.ntmps104
    go_wp2_with (first
      | (go_at_call 128; (with_reducible refine (ID.out _).mono ?_); rintro e w1 ⟨rfl, k1⟩; have K1 := Lib.hid (ktr ((Kpt.refl w).alloc (.cells #[.int .i64 i, .int .i64 f, .int .i64 t, .int .i64 c, .int .i64 p, .int .i64 d, .int .i64 u, .int .i64 x, .int .i64 b, .int .i64 y] 38)) k1); have B1 := Lib.hid (Blk.kpt (Blk.made w #[.int .i64 i, .int .i64 f, .int .i64 t, .int .i64 c, .int .i64 p, .int .i64 d, .int .i64 u, .int .i64 x, .int .i64 b, .int .i64 y] 38) k1); have c0 : World.cell? w1 ⟨w.heap.size, 0, none⟩ = some (.int .i64 i) := B1.out.cell 0; have c1 : World.cell? w1 ⟨w.heap.size, 1, none⟩ = some (.int .i64 f) := B1.out.cell 1; have c2 : World.cell? w1 ⟨w.heap.size, 2, none⟩ = some (.int .i64 t) := B1.out.cell 2; have c3 : World.cell? w1 ⟨w.heap.size, 3, none⟩ = some (.int .i64 c) := B1.out.cell 3; have c4 : World.cell? w1 ⟨w.heap.size, 4, none⟩ = some (.int .i64 p) := B1.out.cell 4; have c5 : World.cell? w1 ⟨w.heap.size, 5, none⟩ = some (.int .i64 d) := B1.out.cell 5; have c6 : World.cell? w1 ⟨w.heap.size, 6, none⟩ = some (.int .i64 u) := B1.out.cell 6; have c7 : World.cell? w1 ⟨w.heap.size, 7, none⟩ = some (.int .i64 x) := B1.out.cell 7; have c8 : World.cell? w1 ⟨w.heap.size, 8, none⟩ = some (.int .i64 b) := B1.out.cell 8; have c9 : World.cell? w1 ⟨w.heap.size, 9, none⟩ = some (.int .i64 y) := B1.out.cell 9; clear k1))
    go_ret
    exact ⟨rfl, K1.out⟩
  | true =>
    rw [Y1] at ID
    by_cases h2 : f = t
    · have z2 : (f == t) = true := beq_iff_eq.2 h2
      rw [show failE i f t c p d u x b y = 1 by unfold failE; rw [if_pos Y1, if_pos h2]]
      clear h2
      go_enter Try.func104, Try.ntmps104
      go_wp2_with (first
        | (go_at_call 128; (with_reducible refine (ID.out _).mono ?_); rintro e w1 ⟨rfl, k1⟩; have K1 := Lib.hid (ktr ((Kpt.refl w).alloc (.cells #[.int .i64 i, .int .i64 f, .int .i64 t, .int .i64 c, .int .i64 p, .int .i64 d, .int .i64 u, .int .i64 x, .int .i64 b, .int .i64 y] 38)) k1); have B1 := Lib.hid (Blk.kpt (Blk.made w #[.int .i64 i, .int .i64 f, .int .i64 t, .int .i64 c, .int .i64 p, .int .i64 d, .int .i64 u, .int .i64 x, .int .i64 b, .int .i64 y] 38) k1); have c0 : World.cell? w1 ⟨w.heap.size, 0, none⟩ = some (.int .i64 i) := B1.out.cell 0; have c1 : World.cell? w1 ⟨w.heap.size, 1, none⟩ = some (.int .i64 f) := B1.out.cell 1; have c2 : World.cell? w1 ⟨w.heap.size, 2, none⟩ = some (.int .i64 t) := B1.out.cell 2; have c3 : World.cell? w1 ⟨w.heap.size, 3, none⟩ = some (.int .i64 c) := B1.out.cell 3; have c4 : World.cell? w1 ⟨w.heap.size, 4, none⟩ = some (.int .i64 p) := B1.out.cell 4; have c5 : World.cell? w1 ⟨w.heap.size, 5, none⟩ = some (.int .i64 d) := B1.out.cell 5; have c6 : World.cell? w1 ⟨w.heap.size, 6, none⟩ = some (.int .i64 u) := B1.out.cell 6; have c7 : World.cell? w1 ⟨w.heap.size, 7, none⟩ = some (.int .i64 x) := B1.out.cell 7; have c8 : World.cell? w1 ⟨w.heap.size, 8, none⟩ = some (.int .i64 b) := B1.out.cell 8; have c9 : World.cell? w1 ⟨w.heap.size, 9, none⟩ = some (.int .i64 y) := B1.out.cell 9; clear k1))
      go_ret
      exact ⟨rfl, K1.out⟩
    · have z2 : (f == t) = false := beq_eq_false_iff_ne.2 h2
      cases Y3 : ftk u x b y with
      | false =>
        rw [show failE i f t c p d u x b y = 3 by unfold failE; rw [if_pos Y1, if_neg h2, if_neg (by rw [Y3]; simp)]]
        clear h2
        unfold ftk at Y3
        go_enter Try.func104, Try.ntmps104
        go_wp2_with (first
          | (go_at_call 128; (with_reducible refine (ID.out _).mono ?_); rintro e w1 ⟨rfl, k1⟩; have K1 := Lib.hid (ktr ((Kpt.refl w).alloc (.cells #[.int .i64 i, .int .i64 f, .int .i64 t, .int .i64 c, .int .i64 p, .int .i64 d, .int .i64 u, .int .i64 x, .int .i64 b, .int .i64 y] 38)) k1); have B1 := Lib.hid (Blk.kpt (Blk.made w #[.int .i64 i, .int .i64 f, .int .i64 t, .int .i64 c, .int .i64 p, .int .i64 d, .int .i64 u, .int .i64 x, .int .i64 b, .int .i64 y] 38) k1); have c0 : World.cell? w1 ⟨w.heap.size, 0, none⟩ = some (.int .i64 i) := B1.out.cell 0; have c1 : World.cell? w1 ⟨w.heap.size, 1, none⟩ = some (.int .i64 f) := B1.out.cell 1; have c2 : World.cell? w1 ⟨w.heap.size, 2, none⟩ = some (.int .i64 t) := B1.out.cell 2; have c3 : World.cell? w1 ⟨w.heap.size, 3, none⟩ = some (.int .i64 c) := B1.out.cell 3; have c4 : World.cell? w1 ⟨w.heap.size, 4, none⟩ = some (.int .i64 p) := B1.out.cell 4; have c5 : World.cell? w1 ⟨w.heap.size, 5, none⟩ = some (.int .i64 d) := B1.out.cell 5; have c6 : World.cell? w1 ⟨w.heap.size, 6, none⟩ = some (.int .i64 u) := B1.out.cell 6; have c7 : World.cell? w1 ⟨w.heap.size, 7, none⟩ = some (.int .i64 x) := B1.out.cell 7; have c8 : World.cell? w1 ⟨w.heap.size, 8, none⟩ = some (.int .i64 b) := B1.out.cell 8; have c9 : World.cell? w1 ⟨w.heap.size, 9, none⟩ = some (.int .i64 y) := B1.out.cell 9; clear k1)
          | (go_at_call 129; (with_reducible refine (within3 _ _ _ _ _ _ Y3 _ _ (by simp)).mono ?_); rintro e w2 ⟨rfl, rfl⟩; have K2 := Lib.hid (K1.out.alloc (.cells #[.int .i64 x, .int .i64 b, .int .i64 y] 3)); have B2 := Lib.hid (B1.out.alloc (.cells #[.int .i64 x, .int .i64 b, .int .i64 y] 3)); have c0 : World.cell? (w1.alloc (.cells #[.int .i64 x, .int .i64 b, .int .i64 y] 3)) ⟨w.heap.size, 0, none⟩ = some (.int .i64 i) := B2.out.cell 0; have c1 : World.cell? (w1.alloc (.cells #[.int .i64 x, .int .i64 b, .int .i64 y] 3)) ⟨w.heap.size, 1, none⟩ = some (.int .i64 f) := B2.out.cell 1; have c2 : World.cell? (w1.alloc (.cells #[.int .i64 x, .int .i64 b, .int .i64 y] 3)) ⟨w.heap.size, 2, none⟩ = some (.int .i64 t) := B2.out.cell 2; have c3 : World.cell? (w1.alloc (.cells #[.int .i64 x, .int .i64 b, .int .i64 y] 3)) ⟨w.heap.size, 3, none⟩ = some (.int .i64 c) := B2.out.cell 3; have c4 : World.cell? (w1.alloc (.cells #[.int .i64 x, .int .i64 b, .int .i64 y] 3)) ⟨w.heap.size, 4, none⟩ = some (.int .i64 p) := B2.out.cell 4; have c5 : World.cell? (w1.alloc (.cells #[.int .i64 x, .int .i64 b, .int .i64 y] 3)) ⟨w.heap.size, 5, none⟩ = some (.int .i64 d) := B2.out.cell 5; have c6 : World.cell? (w1.alloc (.cells #[.int .i64 x, .int .i64 b, .int .i64 y] 3)) ⟨w.heap.size, 6, none⟩ = some (.int .i64 u) := B2.out.cell 6; have c7 : World.cell? (w1.alloc (.cells #[.int .i64 x, .int .i64 b, .int .i64 y] 3)) ⟨w.heap.size, 7, none⟩ = some (.int .i64 x) := B2.out.cell 7; have c8 : World.cell? (w1.alloc (.cells #[.int .i64 x, .int .i64 b, .int .i64 y] 3)) ⟨w.heap.size, 8, none⟩ = some (.int .i64 b) := B2.out.cell 8; have c9 : World.cell? (w1.alloc (.cells #[.int .i64 x, .int .i64 b, .int .i64 y] 3)) ⟨w.heap.size, 9, none⟩ = some (.int .i64 y) := B2.out.cell 9))
        go_ret
        exact ⟨rfl, K2.out⟩
      | true =>
        obtain ⟨-, -, -, -, -, hu⟩ := fdue_t Y1
        obtain ⟨hx, hb, hy⟩ := ftk_t Y3
        have OP := Lib.hid (fun w' => fopen_run i f t c p d u x b y w' hu hx hb hy)
        by_cases h4 : u - x - b - y < 0
        · have z4 : decide (u - x - b - y < 0) = true := decide_eq_true h4
          rw [show failE i f t c p d u x b y = 4 by unfold failE; rw [if_pos Y1, if_neg h2, if_pos Y3, if_pos h4]]
          clear h2
          unfold ftk at Y3
          generalize u - x - b - y = O at *
          go_enter Try.func104, Try.ntmps104
          go_wp2_with (first
            | (go_at_call 128; (with_reducible refine (ID.out _).mono ?_); rintro e w1 ⟨rfl, k1⟩; have K1 := Lib.hid (ktr ((Kpt.refl w).alloc (.cells #[.int .i64 i, .int .i64 f, .int .i64 t, .int .i64 c, .int .i64 p, .int .i64 d, .int .i64 u, .int .i64 x, .int .i64 b, .int .i64 y] 38)) k1); have B1 := Lib.hid (Blk.kpt (Blk.made w #[.int .i64 i, .int .i64 f, .int .i64 t, .int .i64 c, .int .i64 p, .int .i64 d, .int .i64 u, .int .i64 x, .int .i64 b, .int .i64 y] 38) k1); have c0 : World.cell? w1 ⟨w.heap.size, 0, none⟩ = some (.int .i64 i) := B1.out.cell 0; have c1 : World.cell? w1 ⟨w.heap.size, 1, none⟩ = some (.int .i64 f) := B1.out.cell 1; have c2 : World.cell? w1 ⟨w.heap.size, 2, none⟩ = some (.int .i64 t) := B1.out.cell 2; have c3 : World.cell? w1 ⟨w.heap.size, 3, none⟩ = some (.int .i64 c) := B1.out.cell 3; have c4 : World.cell? w1 ⟨w.heap.size, 4, none⟩ = some (.int .i64 p) := B1.out.cell 4; have c5 : World.cell? w1 ⟨w.heap.size, 5, none⟩ = some (.int .i64 d) := B1.out.cell 5; have c6 : World.cell? w1 ⟨w.heap.size, 6, none⟩ = some (.int .i64 u) := B1.out.cell 6; have c7 : World.cell? w1 ⟨w.heap.size, 7, none⟩ = some (.int .i64 x) := B1.out.cell 7; have c8 : World.cell? w1 ⟨w.heap.size, 8, none⟩ = some (.int .i64 b) := B1.out.cell 8; have c9 : World.cell? w1 ⟨w.heap.size, 9, none⟩ = some (.int .i64 y) := B1.out.cell 9; clear k1)
            | (go_at_call 129; (with_reducible refine (within3 _ _ _ _ _ _ Y3 _ _ (by simp)).mono ?_); rintro e w2 ⟨rfl, rfl⟩; have K2 := Lib.hid (K1.out.alloc (.cells #[.int .i64 x, .int .i64 b, .int .i64 y] 3)); have B2 := Lib.hid (B1.out.alloc (.cells #[.int .i64 x, .int .i64 b, .int .i64 y] 3)); have c0 : World.cell? (w1.alloc (.cells #[.int .i64 x, .int .i64 b, .int .i64 y] 3)) ⟨w.heap.size, 0, none⟩ = some (.int .i64 i) := B2.out.cell 0; have c1 : World.cell? (w1.alloc (.cells #[.int .i64 x, .int .i64 b, .int .i64 y] 3)) ⟨w.heap.size, 1, none⟩ = some (.int .i64 f) := B2.out.cell 1; have c2 : World.cell? (w1.alloc (.cells #[.int .i64 x, .int .i64 b, .int .i64 y] 3)) ⟨w.heap.size, 2, none⟩ = some (.int .i64 t) := B2.out.cell 2; have c3 : World.cell? (w1.alloc (.cells #[.int .i64 x, .int .i64 b, .int .i64 y] 3)) ⟨w.heap.size, 3, none⟩ = some (.int .i64 c) := B2.out.cell 3; have c4 : World.cell? (w1.alloc (.cells #[.int .i64 x, .int .i64 b, .int .i64 y] 3)) ⟨w.heap.size, 4, none⟩ = some (.int .i64 p) := B2.out.cell 4; have c5 : World.cell? (w1.alloc (.cells #[.int .i64 x, .int .i64 b, .int .i64 y] 3)) ⟨w.heap.size, 5, none⟩ = some (.int .i64 d) := B2.out.cell 5; have c6 : World.cell? (w1.alloc (.cells #[.int .i64 x, .int .i64 b, .int .i64 y] 3)) ⟨w.heap.size, 6, none⟩ = some (.int .i64 u) := B2.out.cell 6; have c7 : World.cell? (w1.alloc (.cells #[.int .i64 x, .int .i64 b, .int .i64 y] 3)) ⟨w.heap.size, 7, none⟩ = some (.int .i64 x) := B2.out.cell 7; have c8 : World.cell? (w1.alloc (.cells #[.int .i64 x, .int .i64 b, .int .i64 y] 3)) ⟨w.heap.size, 8, none⟩ = some (.int .i64 b) := B2.out.cell 8; have c9 : World.cell? (w1.alloc (.cells #[.int .i64 x, .int .i64 b, .int .i64 y] 3)) ⟨w.heap.size, 9, none⟩ = some (.int .i64 y) := B2.out.cell 9)
            | (go_at_call 130; (with_reducible refine (OP.out _).mono ?_); rintro e w3 ⟨rfl, k3⟩; have K3 := Lib.hid (ktr K2.out k3); clear k3))
          go_ret
          exact ⟨rfl, K3.out⟩
        · have z4 : decide (u - x - b - y < 0) = false := decide_eq_false h4
          rw [show failE i f t c p d u x b y = 0 by unfold failE; rw [if_pos Y1, if_neg h2, if_pos Y3, if_neg h4]]
          clear h2
          unfold ftk at Y3
          generalize u - x - b - y = O at *
          go_enter Try.func104, Try.ntmps104
          go_wp2_with (first
            | (go_at_call 128; (with_reducible refine (ID.out _).mono ?_); rintro e w1 ⟨rfl, k1⟩; have K1 := Lib.hid (ktr ((Kpt.refl w).alloc (.cells #[.int .i64 i, .int .i64 f, .int .i64 t, .int .i64 c, .int .i64 p, .int .i64 d, .int .i64 u, .int .i64 x, .int .i64 b, .int .i64 y] 38)) k1); have B1 := Lib.hid (Blk.kpt (Blk.made w #[.int .i64 i, .int .i64 f, .int .i64 t, .int .i64 c, .int .i64 p, .int .i64 d, .int .i64 u, .int .i64 x, .int .i64 b, .int .i64 y] 38) k1); have c0 : World.cell? w1 ⟨w.heap.size, 0, none⟩ = some (.int .i64 i) := B1.out.cell 0; have c1 : World.cell? w1 ⟨w.heap.size, 1, none⟩ = some (.int .i64 f) := B1.out.cell 1; have c2 : World.cell? w1 ⟨w.heap.size, 2, none⟩ = some (.int .i64 t) := B1.out.cell 2; have c3 : World.cell? w1 ⟨w.heap.size, 3, none⟩ = some (.int .i64 c) := B1.out.cell 3; have c4 : World.cell? w1 ⟨w.heap.size, 4, none⟩ = some (.int .i64 p) := B1.out.cell 4; have c5 : World.cell? w1 ⟨w.heap.size, 5, none⟩ = some (.int .i64 d) := B1.out.cell 5; have c6 : World.cell? w1 ⟨w.heap.size, 6, none⟩ = some (.int .i64 u) := B1.out.cell 6; have c7 : World.cell? w1 ⟨w.heap.size, 7, none⟩ = some (.int .i64 x) := B1.out.cell 7; have c8 : World.cell? w1 ⟨w.heap.size, 8, none⟩ = some (.int .i64 b) := B1.out.cell 8; have c9 : World.cell? w1 ⟨w.heap.size, 9, none⟩ = some (.int .i64 y) := B1.out.cell 9; clear k1)
            | (go_at_call 129; (with_reducible refine (within3 _ _ _ _ _ _ Y3 _ _ (by simp)).mono ?_); rintro e w2 ⟨rfl, rfl⟩; have K2 := Lib.hid (K1.out.alloc (.cells #[.int .i64 x, .int .i64 b, .int .i64 y] 3)); have B2 := Lib.hid (B1.out.alloc (.cells #[.int .i64 x, .int .i64 b, .int .i64 y] 3)); have c0 : World.cell? (w1.alloc (.cells #[.int .i64 x, .int .i64 b, .int .i64 y] 3)) ⟨w.heap.size, 0, none⟩ = some (.int .i64 i) := B2.out.cell 0; have c1 : World.cell? (w1.alloc (.cells #[.int .i64 x, .int .i64 b, .int .i64 y] 3)) ⟨w.heap.size, 1, none⟩ = some (.int .i64 f) := B2.out.cell 1; have c2 : World.cell? (w1.alloc (.cells #[.int .i64 x, .int .i64 b, .int .i64 y] 3)) ⟨w.heap.size, 2, none⟩ = some (.int .i64 t) := B2.out.cell 2; have c3 : World.cell? (w1.alloc (.cells #[.int .i64 x, .int .i64 b, .int .i64 y] 3)) ⟨w.heap.size, 3, none⟩ = some (.int .i64 c) := B2.out.cell 3; have c4 : World.cell? (w1.alloc (.cells #[.int .i64 x, .int .i64 b, .int .i64 y] 3)) ⟨w.heap.size, 4, none⟩ = some (.int .i64 p) := B2.out.cell 4; have c5 : World.cell? (w1.alloc (.cells #[.int .i64 x, .int .i64 b, .int .i64 y] 3)) ⟨w.heap.size, 5, none⟩ = some (.int .i64 d) := B2.out.cell 5; have c6 : World.cell? (w1.alloc (.cells #[.int .i64 x, .int .i64 b, .int .i64 y] 3)) ⟨w.heap.size, 6, none⟩ = some (.int .i64 u) := B2.out.cell 6; have c7 : World.cell? (w1.alloc (.cells #[.int .i64 x, .int .i64 b, .int .i64 y] 3)) ⟨w.heap.size, 7, none⟩ = some (.int .i64 x) := B2.out.cell 7; have c8 : World.cell? (w1.alloc (.cells #[.int .i64 x, .int .i64 b, .int .i64 y] 3)) ⟨w.heap.size, 8, none⟩ = some (.int .i64 b) := B2.out.cell 8; have c9 : World.cell? (w1.alloc (.cells #[.int .i64 x, .int .i64 b, .int .i64 y] 3)) ⟨w.heap.size, 9, none⟩ = some (.int .i64 y) := B2.out.cell 9)
            | (go_at_call 130; (with_reducible refine (OP.out _).mono ?_); rintro e w3 ⟨rfl, k3⟩; have K3 := Lib.hid (ktr K2.out k3); clear k3))
          go_ret
          exact ⟨rfl, K3.out⟩

/-- what Open gives: how many are open, or an error -/
def openV (i f t c p d u x b y : Int) : Int := if failE i f t c p d u x b y = 0 then u - x - b - y else 0
set_option maxHeartbeats 4000000 in
theorem fopenX_run (i f t c p d u x b y : Int) (w : World) :
    Calls Try.prog 107 #[.agg #[.int .i64 i, .int .i64 f, .int .i64 t, .int .i64 c, .int .i64 p, .int .i64 d, .int .i64 u, .int .i64 x, .int .i64 b, .int .i64 y]] w fun e w' => e = .returned (.tuple #[.int .i64 (openV i f t c p d u x b y), .int .i64 (failE i f t c p d u x b y)]) ∧ Kpt w w' := by
  have CK := Lib.hid (fun w' => fcheck_run i f t c p d u x b y w')
  by_cases h0 : failE i f t c p d u x b y = 0
  · have hv : openV i f t c p d u x b y = u - x - b - y := by unfold openV; rw [if_pos h0]
    rw [hv, h0]
    rw [h0] at CK
    obtain ⟨hd, -, hk, -⟩ := fail_0 h0
    obtain ⟨-, -, -, -, -, hu⟩ := fdue_t hd
    obtain ⟨hx, hb, hy⟩ := ftk_t hk
    have OP := Lib.hid (fun w' => fopen_run i f t c p d u x b y w' hu hx hb hy)
    clear h0 hv hd hk hu hx hb hy
    generalize u - x - b - y = O at *
    go_enter Try.func107, Try.ntmps107
    go_wp2_with (first
      | (go_at_call 104; (with_reducible refine (CK.out _).mono ?_); rintro e w1 ⟨rfl, k1⟩; have K1 := Lib.hid (ktr ((Kpt.refl w).alloc (.cells #[.int .i64 i, .int .i64 f, .int .i64 t, .int .i64 c, .int .i64 p, .int .i64 d, .int .i64 u, .int .i64 x, .int .i64 b, .int .i64 y] 38)) k1); have B1 := Lib.hid (Blk.kpt (Blk.made w #[.int .i64 i, .int .i64 f, .int .i64 t, .int .i64 c, .int .i64 p, .int .i64 d, .int .i64 u, .int .i64 x, .int .i64 b, .int .i64 y] 38) k1); have c0 : World.cell? w1 ⟨w.heap.size, 0, none⟩ = some (.int .i64 i) := B1.out.cell 0; have c1 : World.cell? w1 ⟨w.heap.size, 1, none⟩ = some (.int .i64 f) := B1.out.cell 1; have c2 : World.cell? w1 ⟨w.heap.size, 2, none⟩ = some (.int .i64 t) := B1.out.cell 2; have c3 : World.cell? w1 ⟨w.heap.size, 3, none⟩ = some (.int .i64 c) := B1.out.cell 3; have c4 : World.cell? w1 ⟨w.heap.size, 4, none⟩ = some (.int .i64 p) := B1.out.cell 4; have c5 : World.cell? w1 ⟨w.heap.size, 5, none⟩ = some (.int .i64 d) := B1.out.cell 5; have c6 : World.cell? w1 ⟨w.heap.size, 6, none⟩ = some (.int .i64 u) := B1.out.cell 6; have c7 : World.cell? w1 ⟨w.heap.size, 7, none⟩ = some (.int .i64 x) := B1.out.cell 7; have c8 : World.cell? w1 ⟨w.heap.size, 8, none⟩ = some (.int .i64 b) := B1.out.cell 8; have c9 : World.cell? w1 ⟨w.heap.size, 9, none⟩ = some (.int .i64 y) := B1.out.cell 9; clear k1)
      | (go_at_call 130; (with_reducible refine (OP.out _).mono ?_); rintro e w3 ⟨rfl, k3⟩; have K3 := Lib.hid (ktr K1.out k3); clear k3))
    go_ret2
    exact ⟨rfl, K3.out⟩
  · have hv : openV i f t c p d u x b y = 0 := by unfold openV; rw [if_neg h0]
    rw [hv]
    have z0 : (failE i f t c p d u x b y != 0) = true := bne_iff_ne.2 h0
    clear hv h0
    generalize failE i f t c p d u x b y = E at *
    go_enter Try.func107, Try.ntmps107
    go_wp2_with (first
      | (go_at_call 104; (with_reducible refine (CK.out _).mono ?_); rintro e w1 ⟨rfl, k1⟩; have K1 := Lib.hid (ktr ((Kpt.refl w).alloc (.cells #[.int .i64 i, .int .i64 f, .int .i64 t, .int .i64 c, .int .i64 p, .int .i64 d, .int .i64 u, .int .i64 x, .int .i64 b, .int .i64 y] 38)) k1); have B1 := Lib.hid (Blk.kpt (Blk.made w #[.int .i64 i, .int .i64 f, .int .i64 t, .int .i64 c, .int .i64 p, .int .i64 d, .int .i64 u, .int .i64 x, .int .i64 b, .int .i64 y] 38) k1); have c0 : World.cell? w1 ⟨w.heap.size, 0, none⟩ = some (.int .i64 i) := B1.out.cell 0; have c1 : World.cell? w1 ⟨w.heap.size, 1, none⟩ = some (.int .i64 f) := B1.out.cell 1; have c2 : World.cell? w1 ⟨w.heap.size, 2, none⟩ = some (.int .i64 t) := B1.out.cell 2; have c3 : World.cell? w1 ⟨w.heap.size, 3, none⟩ = some (.int .i64 c) := B1.out.cell 3; have c4 : World.cell? w1 ⟨w.heap.size, 4, none⟩ = some (.int .i64 p) := B1.out.cell 4; have c5 : World.cell? w1 ⟨w.heap.size, 5, none⟩ = some (.int .i64 d) := B1.out.cell 5; have c6 : World.cell? w1 ⟨w.heap.size, 6, none⟩ = some (.int .i64 u) := B1.out.cell 6; have c7 : World.cell? w1 ⟨w.heap.size, 7, none⟩ = some (.int .i64 x) := B1.out.cell 7; have c8 : World.cell? w1 ⟨w.heap.size, 8, none⟩ = some (.int .i64 b) := B1.out.cell 8; have c9 : World.cell? w1 ⟨w.heap.size, 9, none⟩ = some (.int .i64 y) := B1.out.cell 9; clear k1))
    go_ret2
    exact ⟨rfl, K1.out⟩

/-- the error of what is taken from a fail of which l are open -/
def takeE (E l n : Int) : Int := if E = 0 then (if n < 1 ∨ 1073741824 < n then 3 else if l = 0 then 5 else if l < n then 8 else 0) else E
end Go.Proofs.Ytgccipmeiceonaa
