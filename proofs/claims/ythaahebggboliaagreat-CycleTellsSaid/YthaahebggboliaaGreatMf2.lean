/-
  Merged: FailD, MapIds, FailE, IdsOk, FailF.
-/
import Derived.Test.YthaahebggboliaaGreatMf1
import Derived.Test.YthaahebggboliaaGreatBools
import Derived.Maps.OwnOps
import Derived.Maps.OwnSet
-- FailD
namespace Go.Proofs.YthaahebggboliaaGreat
open Go.RowKit
set_option linter.unusedVariables false


set_option maxHeartbeats 2000000 in
theorem deliver_bad (i f t c p d u x b y n E : Int) (w : World) (hE : takeE (failE i f t c p d u x b y) (openV i f t c p d u x b y) n = E) (h : E ≠ 0) :
    Calls Tryz.prog 76 #[.agg #[.int .i64 i, .int .i64 f, .int .i64 t, .int .i64 c, .int .i64 p, .int .i64 d, .int .i64 u, .int .i64 x, .int .i64 b, .int .i64 y], .int .i64 n] w fun e w' => e = .returned (.tuple #[.agg #[.int .i64 0, .int .i64 0, .int .i64 0, .int .i64 0, .int .i64 0, .int .i64 0, .int .i64 0, .int .i64 0, .int .i64 0, .int .i64 0], .int .i64 E]) ∧ Kpt w w' := by
  have TK := Lib.hid (fun w' => take_run i f t c p d u x b y n w')
  rw [hE] at TK
  have z0 : (E != 0) = true := bne_iff_ne.2 h
  clear hE h
  go_enter Tryz.func76, Tryz.ntmps76
  go_wp2_with (first
    | (go_at_call 119; (with_reducible refine (TK.out _).mono ?_); rintro e w1 ⟨rfl, k1⟩; have K1 := Lib.hid (ktr (((Kpt.refl w).alloc (.cells #[.int .i64 i, .int .i64 f, .int .i64 t, .int .i64 c, .int .i64 p, .int .i64 d, .int .i64 u, .int .i64 x, .int .i64 b, .int .i64 y] 42)).alloc (.cells #[.int .i64 0, .int .i64 0, .int .i64 0, .int .i64 0, .int .i64 0, .int .i64 0, .int .i64 0, .int .i64 0, .int .i64 0, .int .i64 0] 42)) k1); have B1 : Hid (Blk w1 w.heap.size #[.int .i64 i, .int .i64 f, .int .i64 t, .int .i64 c, .int .i64 p, .int .i64 d, .int .i64 u, .int .i64 x, .int .i64 b, .int .i64 y] 42) := Blk.kpt ((Blk.made w #[.int .i64 i, .int .i64 f, .int .i64 t, .int .i64 c, .int .i64 p, .int .i64 d, .int .i64 u, .int .i64 x, .int .i64 b, .int .i64 y] 42).alloc _) k1; have R1 : Hid (Blk w1 (w.heap.size + 1) #[.int .i64 0, .int .i64 0, .int .i64 0, .int .i64 0, .int .i64 0, .int .i64 0, .int .i64 0, .int .i64 0, .int .i64 0, .int .i64 0] 42) := Blk.kpt (by have := Blk.made (w.alloc (.cells #[.int .i64 i, .int .i64 f, .int .i64 t, .int .i64 c, .int .i64 p, .int .i64 d, .int .i64 u, .int .i64 x, .int .i64 b, .int .i64 y] 42)) #[.int .i64 0, .int .i64 0, .int .i64 0, .int .i64 0, .int .i64 0, .int .i64 0, .int .i64 0, .int .i64 0, .int .i64 0, .int .i64 0] 42; simpa using this) k1; have ck : World.cell? w1 ⟨w.heap.size, 7, none⟩ = some (.int .i64 x) := B1.out.cell 7; have fk := B1.out.frozen 7; clear k1)
    | (refine wp_storeF rfl (.tmp 4) (.tmp 12) rfl (w.heap.size + 1) _ _ rfl rfl R1.out rfl rfl (by simp [Value.oneCell']) ?_; intro w9 r9 k9 _; have R9 := Lib.hid r9; have K9 := Lib.hid (k9 _ _ K1.out (by omega)); clear r9 k9))
  exact bodyPost_ret (v := .tuple #[.agg #[.int .i64 0, .int .i64 0, .int .i64 0, .int .i64 0, .int .i64 0, .int .i64 0, .int .i64 0, .int .i64 0, .int .i64 0, .int .i64 0], .int .i64 E]) (results_F2 Tryz.results76 _ _ _ _ _ rfl rfl R9.out rfl) rfl ⟨rfl, K9.out⟩
set_option maxHeartbeats 2000000 in
theorem deliver_ok (i f t c p d u x b y n : Int) (w : World) (hE : takeE (failE i f t c p d u x b y) (openV i f t c p d u x b y) n = 0) (h0 : 0 ≤ x) (h1 : x ≤ 1073741824) (h2 : 1 ≤ n) (h3 : n ≤ 1073741824) :
    Calls Tryz.prog 76 #[.agg #[.int .i64 i, .int .i64 f, .int .i64 t, .int .i64 c, .int .i64 p, .int .i64 d, .int .i64 u, .int .i64 x, .int .i64 b, .int .i64 y], .int .i64 n] w fun e w' => e = .returned (.tuple #[.agg #[.int .i64 i, .int .i64 f, .int .i64 t, .int .i64 c, .int .i64 p, .int .i64 d, .int .i64 u, .int .i64 (x + n), .int .i64 b, .int .i64 y], .int .i64 0]) ∧ Kpt w w' := by
  have TK := Lib.hid (fun w' => take_run i f t c p d u x b y n w')
  rw [hE] at TK
  have e1 : IntKind.i64.wrap (x + n) = x + n := by unfold IntKind.wrap; simp [IntKind.bits, IntKind.signed]; omega
  clear hE
  go_enter Tryz.func76, Tryz.ntmps76
  go_wp2_with (first
    | (go_at_call 119; (with_reducible refine (TK.out _).mono ?_); rintro e w1 ⟨rfl, k1⟩; have K1 := Lib.hid (ktr (((Kpt.refl w).alloc (.cells #[.int .i64 i, .int .i64 f, .int .i64 t, .int .i64 c, .int .i64 p, .int .i64 d, .int .i64 u, .int .i64 x, .int .i64 b, .int .i64 y] 42)).alloc (.cells #[.int .i64 0, .int .i64 0, .int .i64 0, .int .i64 0, .int .i64 0, .int .i64 0, .int .i64 0, .int .i64 0, .int .i64 0, .int .i64 0] 42)) k1); have B1 : Hid (Blk w1 w.heap.size #[.int .i64 i, .int .i64 f, .int .i64 t, .int .i64 c, .int .i64 p, .int .i64 d, .int .i64 u, .int .i64 x, .int .i64 b, .int .i64 y] 42) := Blk.kpt ((Blk.made w #[.int .i64 i, .int .i64 f, .int .i64 t, .int .i64 c, .int .i64 p, .int .i64 d, .int .i64 u, .int .i64 x, .int .i64 b, .int .i64 y] 42).alloc _) k1; have R1 : Hid (Blk w1 (w.heap.size + 1) #[.int .i64 0, .int .i64 0, .int .i64 0, .int .i64 0, .int .i64 0, .int .i64 0, .int .i64 0, .int .i64 0, .int .i64 0, .int .i64 0] 42) := Blk.kpt (by have := Blk.made (w.alloc (.cells #[.int .i64 i, .int .i64 f, .int .i64 t, .int .i64 c, .int .i64 p, .int .i64 d, .int .i64 u, .int .i64 x, .int .i64 b, .int .i64 y] 42)) #[.int .i64 0, .int .i64 0, .int .i64 0, .int .i64 0, .int .i64 0, .int .i64 0, .int .i64 0, .int .i64 0, .int .i64 0, .int .i64 0] 42; simpa using this) k1; have ck : World.cell? w1 ⟨w.heap.size, 7, none⟩ = some (.int .i64 x) := B1.out.cell 7; have fk := B1.out.frozen 7; clear k1; have B2 : Hid (Blk (w1.setCell ⟨w.heap.size, 7, none⟩ (.int .i64 (x + n))) w.heap.size #[.int .i64 i, .int .i64 f, .int .i64 t, .int .i64 c, .int .i64 p, .int .i64 d, .int .i64 u, .int .i64 (x + n), .int .i64 b, .int .i64 y] 42) := B1.out.put 7 _; have R2 := Lib.hid (R1.out.away (p := ⟨w.heap.size, 7, none⟩) (by simp) (.int .i64 (x + n))); have K2 := Lib.hid (Kpt.setCell K1.out (p := ⟨w.heap.size, 7, none⟩) (Nat.le_refl _) (.int .i64 (x + n))))
    | (refine wp_loadF rfl (.tmp 2) rfl w.heap.size _ rfl B2.out rfl ?_)
    | (refine wp_storeF rfl (.tmp 4) (.tmp 19) rfl (w.heap.size + 1) _ _ rfl rfl R2.out rfl rfl (by simp [Value.oneCell']) ?_; intro w9 r9 k9 _; have R9 := Lib.hid r9; have K9 := Lib.hid (k9 _ _ K2.out (by omega)); clear r9 k9))
  exact bodyPost_ret (v := .tuple #[.agg #[.int .i64 i, .int .i64 f, .int .i64 t, .int .i64 c, .int .i64 p, .int .i64 d, .int .i64 u, .int .i64 (x + n), .int .i64 b, .int .i64 y], .int .i64 0]) (results_F2 Tryz.results76 _ _ _ _ _ rfl rfl R9.out rfl) rfl ⟨rfl, K9.out⟩

set_option maxHeartbeats 2000000 in
theorem buy_bad (i f t c p d u x b y n E : Int) (w : World) (hE : takeE (failE i f t c p d u x b y) (openV i f t c p d u x b y) n = E) (h : E ≠ 0) :
    Calls Tryz.prog 77 #[.agg #[.int .i64 i, .int .i64 f, .int .i64 t, .int .i64 c, .int .i64 p, .int .i64 d, .int .i64 u, .int .i64 x, .int .i64 b, .int .i64 y], .int .i64 n] w fun e w' => e = .returned (.tuple #[.agg #[.int .i64 0, .int .i64 0, .int .i64 0, .int .i64 0, .int .i64 0, .int .i64 0, .int .i64 0, .int .i64 0, .int .i64 0, .int .i64 0], .int .i64 E]) ∧ Kpt w w' := by
  have TK := Lib.hid (fun w' => take_run i f t c p d u x b y n w')
  rw [hE] at TK
  have z0 : (E != 0) = true := bne_iff_ne.2 h
  clear hE h
  go_enter Tryz.func77, Tryz.ntmps77
  go_wp2_with (first
    | (go_at_call 119; (with_reducible refine (TK.out _).mono ?_); rintro e w1 ⟨rfl, k1⟩; have K1 := Lib.hid (ktr (((Kpt.refl w).alloc (.cells #[.int .i64 i, .int .i64 f, .int .i64 t, .int .i64 c, .int .i64 p, .int .i64 d, .int .i64 u, .int .i64 x, .int .i64 b, .int .i64 y] 42)).alloc (.cells #[.int .i64 0, .int .i64 0, .int .i64 0, .int .i64 0, .int .i64 0, .int .i64 0, .int .i64 0, .int .i64 0, .int .i64 0, .int .i64 0] 42)) k1); have B1 : Hid (Blk w1 w.heap.size #[.int .i64 i, .int .i64 f, .int .i64 t, .int .i64 c, .int .i64 p, .int .i64 d, .int .i64 u, .int .i64 x, .int .i64 b, .int .i64 y] 42) := Blk.kpt ((Blk.made w #[.int .i64 i, .int .i64 f, .int .i64 t, .int .i64 c, .int .i64 p, .int .i64 d, .int .i64 u, .int .i64 x, .int .i64 b, .int .i64 y] 42).alloc _) k1; have R1 : Hid (Blk w1 (w.heap.size + 1) #[.int .i64 0, .int .i64 0, .int .i64 0, .int .i64 0, .int .i64 0, .int .i64 0, .int .i64 0, .int .i64 0, .int .i64 0, .int .i64 0] 42) := Blk.kpt (by have := Blk.made (w.alloc (.cells #[.int .i64 i, .int .i64 f, .int .i64 t, .int .i64 c, .int .i64 p, .int .i64 d, .int .i64 u, .int .i64 x, .int .i64 b, .int .i64 y] 42)) #[.int .i64 0, .int .i64 0, .int .i64 0, .int .i64 0, .int .i64 0, .int .i64 0, .int .i64 0, .int .i64 0, .int .i64 0, .int .i64 0] 42; simpa using this) k1; have ck : World.cell? w1 ⟨w.heap.size, 8, none⟩ = some (.int .i64 b) := B1.out.cell 8; have fk := B1.out.frozen 8; clear k1)
    | (refine wp_storeF rfl (.tmp 4) (.tmp 12) rfl (w.heap.size + 1) _ _ rfl rfl R1.out rfl rfl (by simp [Value.oneCell']) ?_; intro w9 r9 k9 _; have R9 := Lib.hid r9; have K9 := Lib.hid (k9 _ _ K1.out (by omega)); clear r9 k9))
  exact bodyPost_ret (v := .tuple #[.agg #[.int .i64 0, .int .i64 0, .int .i64 0, .int .i64 0, .int .i64 0, .int .i64 0, .int .i64 0, .int .i64 0, .int .i64 0, .int .i64 0], .int .i64 E]) (results_F2 Tryz.results77 _ _ _ _ _ rfl rfl R9.out rfl) rfl ⟨rfl, K9.out⟩
set_option maxHeartbeats 2000000 in
theorem buy_ok (i f t c p d u x b y n : Int) (w : World) (hE : takeE (failE i f t c p d u x b y) (openV i f t c p d u x b y) n = 0) (h0 : 0 ≤ b) (h1 : b ≤ 1073741824) (h2 : 1 ≤ n) (h3 : n ≤ 1073741824) :
    Calls Tryz.prog 77 #[.agg #[.int .i64 i, .int .i64 f, .int .i64 t, .int .i64 c, .int .i64 p, .int .i64 d, .int .i64 u, .int .i64 x, .int .i64 b, .int .i64 y], .int .i64 n] w fun e w' => e = .returned (.tuple #[.agg #[.int .i64 i, .int .i64 f, .int .i64 t, .int .i64 c, .int .i64 p, .int .i64 d, .int .i64 u, .int .i64 x, .int .i64 (b + n), .int .i64 y], .int .i64 0]) ∧ Kpt w w' := by
  have TK := Lib.hid (fun w' => take_run i f t c p d u x b y n w')
  rw [hE] at TK
  have e1 : IntKind.i64.wrap (b + n) = b + n := by unfold IntKind.wrap; simp [IntKind.bits, IntKind.signed]; omega
  clear hE
  go_enter Tryz.func77, Tryz.ntmps77
  go_wp2_with (first
    | (go_at_call 119; (with_reducible refine (TK.out _).mono ?_); rintro e w1 ⟨rfl, k1⟩; have K1 := Lib.hid (ktr (((Kpt.refl w).alloc (.cells #[.int .i64 i, .int .i64 f, .int .i64 t, .int .i64 c, .int .i64 p, .int .i64 d, .int .i64 u, .int .i64 x, .int .i64 b, .int .i64 y] 42)).alloc (.cells #[.int .i64 0, .int .i64 0, .int .i64 0, .int .i64 0, .int .i64 0, .int .i64 0, .int .i64 0, .int .i64 0, .int .i64 0, .int .i64 0] 42)) k1); have B1 : Hid (Blk w1 w.heap.size #[.int .i64 i, .int .i64 f, .int .i64 t, .int .i64 c, .int .i64 p, .int .i64 d, .int .i64 u, .int .i64 x, .int .i64 b, .int .i64 y] 42) := Blk.kpt ((Blk.made w #[.int .i64 i, .int .i64 f, .int .i64 t, .int .i64 c, .int .i64 p, .int .i64 d, .int .i64 u, .int .i64 x, .int .i64 b, .int .i64 y] 42).alloc _) k1; have R1 : Hid (Blk w1 (w.heap.size + 1) #[.int .i64 0, .int .i64 0, .int .i64 0, .int .i64 0, .int .i64 0, .int .i64 0, .int .i64 0, .int .i64 0, .int .i64 0, .int .i64 0] 42) := Blk.kpt (by have := Blk.made (w.alloc (.cells #[.int .i64 i, .int .i64 f, .int .i64 t, .int .i64 c, .int .i64 p, .int .i64 d, .int .i64 u, .int .i64 x, .int .i64 b, .int .i64 y] 42)) #[.int .i64 0, .int .i64 0, .int .i64 0, .int .i64 0, .int .i64 0, .int .i64 0, .int .i64 0, .int .i64 0, .int .i64 0, .int .i64 0] 42; simpa using this) k1; have ck : World.cell? w1 ⟨w.heap.size, 8, none⟩ = some (.int .i64 b) := B1.out.cell 8; have fk := B1.out.frozen 8; clear k1; have B2 : Hid (Blk (w1.setCell ⟨w.heap.size, 8, none⟩ (.int .i64 (b + n))) w.heap.size #[.int .i64 i, .int .i64 f, .int .i64 t, .int .i64 c, .int .i64 p, .int .i64 d, .int .i64 u, .int .i64 x, .int .i64 (b + n), .int .i64 y] 42) := B1.out.put 8 _; have R2 := Lib.hid (R1.out.away (p := ⟨w.heap.size, 8, none⟩) (by simp) (.int .i64 (b + n))); have K2 := Lib.hid (Kpt.setCell K1.out (p := ⟨w.heap.size, 8, none⟩) (Nat.le_refl _) (.int .i64 (b + n))))
    | (refine wp_loadF rfl (.tmp 2) rfl w.heap.size _ rfl B2.out rfl ?_)
    | (refine wp_storeF rfl (.tmp 4) (.tmp 19) rfl (w.heap.size + 1) _ _ rfl rfl R2.out rfl rfl (by simp [Value.oneCell']) ?_; intro w9 r9 k9 _; have R9 := Lib.hid r9; have K9 := Lib.hid (k9 _ _ K2.out (by omega)); clear r9 k9))
  exact bodyPost_ret (v := .tuple #[.agg #[.int .i64 i, .int .i64 f, .int .i64 t, .int .i64 c, .int .i64 p, .int .i64 d, .int .i64 u, .int .i64 x, .int .i64 (b + n), .int .i64 y], .int .i64 0]) (results_F2 Tryz.results77 _ _ _ _ _ rfl rfl R9.out rfl) rfl ⟨rfl, K9.out⟩

set_option maxHeartbeats 2000000 in
theorem pay_bad (i f t c p d u x b y : Int) (w : World) (E l : Int) (hE : failE i f t c p d u x b y = E) (hl : openV i f t c p d u x b y = l) (h : E ≠ 0) :
    Calls Tryz.prog 78 #[.agg #[.int .i64 i, .int .i64 f, .int .i64 t, .int .i64 c, .int .i64 p, .int .i64 d, .int .i64 u, .int .i64 x, .int .i64 b, .int .i64 y]] w fun e w' => e = .returned (.tuple #[.agg #[.int .i64 0, .int .i64 0, .int .i64 0, .int .i64 0, .int .i64 0, .int .i64 0, .int .i64 0, .int .i64 0, .int .i64 0, .int .i64 0], .int .i64 0, .int .i64 E]) ∧ Kpt w w' := by
  have OX := Lib.hid (fun w' => fopenX_run i f t c p d u x b y w')
  rw [hE, hl] at OX
  have z0 : (E != 0) = true := bne_iff_ne.2 h
  clear h
  clear hE hl
  go_enter Tryz.func78, Tryz.ntmps78
  go_wp2_with (first
    | (go_at_call 34; (with_reducible refine (OX.out _).mono ?_); rintro e w1 ⟨rfl, k1⟩; have K1 := Lib.hid (ktr (((Kpt.refl w).alloc (.cells #[.int .i64 i, .int .i64 f, .int .i64 t, .int .i64 c, .int .i64 p, .int .i64 d, .int .i64 u, .int .i64 x, .int .i64 b, .int .i64 y] 42)).alloc (.cells #[.int .i64 0, .int .i64 0, .int .i64 0, .int .i64 0, .int .i64 0, .int .i64 0, .int .i64 0, .int .i64 0, .int .i64 0, .int .i64 0] 42)) k1); have B1 : Hid (Blk w1 w.heap.size #[.int .i64 i, .int .i64 f, .int .i64 t, .int .i64 c, .int .i64 p, .int .i64 d, .int .i64 u, .int .i64 x, .int .i64 b, .int .i64 y] 42) := Blk.kpt ((Blk.made w #[.int .i64 i, .int .i64 f, .int .i64 t, .int .i64 c, .int .i64 p, .int .i64 d, .int .i64 u, .int .i64 x, .int .i64 b, .int .i64 y] 42).alloc _) k1; have R1 : Hid (Blk w1 (w.heap.size + 1) #[.int .i64 0, .int .i64 0, .int .i64 0, .int .i64 0, .int .i64 0, .int .i64 0, .int .i64 0, .int .i64 0, .int .i64 0, .int .i64 0] 42) := Blk.kpt (by have := Blk.made (w.alloc (.cells #[.int .i64 i, .int .i64 f, .int .i64 t, .int .i64 c, .int .i64 p, .int .i64 d, .int .i64 u, .int .i64 x, .int .i64 b, .int .i64 y] 42)) #[.int .i64 0, .int .i64 0, .int .i64 0, .int .i64 0, .int .i64 0, .int .i64 0, .int .i64 0, .int .i64 0, .int .i64 0, .int .i64 0] 42; simpa using this) k1; have ck : World.cell? w1 ⟨w.heap.size, 9, none⟩ = some (.int .i64 y) := B1.out.cell 9; have fk := B1.out.frozen 9; clear k1)
    | (refine wp_storeF rfl (.tmp 2) (.tmp 14) rfl (w.heap.size + 1) _ _ rfl rfl R1.out rfl rfl (by simp [Value.oneCell']) ?_; intro w9 r9 k9 _; have R9 := Lib.hid r9; have K9 := Lib.hid (k9 _ _ K1.out (by omega)); clear r9 k9))
  exact bodyPost_ret (v := .tuple #[.agg #[.int .i64 0, .int .i64 0, .int .i64 0, .int .i64 0, .int .i64 0, .int .i64 0, .int .i64 0, .int .i64 0, .int .i64 0, .int .i64 0], .int .i64 0, .int .i64 E]) (results_F3 Tryz.results78 _ _ _ _ _ _ rfl rfl rfl R9.out rfl) rfl ⟨rfl, K9.out⟩

set_option maxHeartbeats 2000000 in
theorem pay_none (i f t c p d u x b y : Int) (w : World) (hE : failE i f t c p d u x b y = 0) (hl : openV i f t c p d u x b y = 0) :
    Calls Tryz.prog 78 #[.agg #[.int .i64 i, .int .i64 f, .int .i64 t, .int .i64 c, .int .i64 p, .int .i64 d, .int .i64 u, .int .i64 x, .int .i64 b, .int .i64 y]] w fun e w' => e = .returned (.tuple #[.agg #[.int .i64 0, .int .i64 0, .int .i64 0, .int .i64 0, .int .i64 0, .int .i64 0, .int .i64 0, .int .i64 0, .int .i64 0, .int .i64 0], .int .i64 0, .int .i64 5]) ∧ Kpt w w' := by
  have OX := Lib.hid (fun w' => fopenX_run i f t c p d u x b y w')
  rw [hE, hl] at OX

  clear hE hl
  go_enter Tryz.func78, Tryz.ntmps78
  go_wp2_with (first
    | (go_at_call 34; (with_reducible refine (OX.out _).mono ?_); rintro e w1 ⟨rfl, k1⟩; have K1 := Lib.hid (ktr (((Kpt.refl w).alloc (.cells #[.int .i64 i, .int .i64 f, .int .i64 t, .int .i64 c, .int .i64 p, .int .i64 d, .int .i64 u, .int .i64 x, .int .i64 b, .int .i64 y] 42)).alloc (.cells #[.int .i64 0, .int .i64 0, .int .i64 0, .int .i64 0, .int .i64 0, .int .i64 0, .int .i64 0, .int .i64 0, .int .i64 0, .int .i64 0] 42)) k1); have B1 : Hid (Blk w1 w.heap.size #[.int .i64 i, .int .i64 f, .int .i64 t, .int .i64 c, .int .i64 p, .int .i64 d, .int .i64 u, .int .i64 x, .int .i64 b, .int .i64 y] 42) := Blk.kpt ((Blk.made w #[.int .i64 i, .int .i64 f, .int .i64 t, .int .i64 c, .int .i64 p, .int .i64 d, .int .i64 u, .int .i64 x, .int .i64 b, .int .i64 y] 42).alloc _) k1; have R1 : Hid (Blk w1 (w.heap.size + 1) #[.int .i64 0, .int .i64 0, .int .i64 0, .int .i64 0, .int .i64 0, .int .i64 0, .int .i64 0, .int .i64 0, .int .i64 0, .int .i64 0] 42) := Blk.kpt (by have := Blk.made (w.alloc (.cells #[.int .i64 i, .int .i64 f, .int .i64 t, .int .i64 c, .int .i64 p, .int .i64 d, .int .i64 u, .int .i64 x, .int .i64 b, .int .i64 y] 42)) #[.int .i64 0, .int .i64 0, .int .i64 0, .int .i64 0, .int .i64 0, .int .i64 0, .int .i64 0, .int .i64 0, .int .i64 0, .int .i64 0] 42; simpa using this) k1; have ck : World.cell? w1 ⟨w.heap.size, 9, none⟩ = some (.int .i64 y) := B1.out.cell 9; have fk := B1.out.frozen 9; clear k1)
    | (refine wp_storeF rfl (.tmp 2) (.tmp 18) rfl (w.heap.size + 1) _ _ rfl rfl R1.out rfl rfl (by simp [Value.oneCell']) ?_; intro w9 r9 k9 _; have R9 := Lib.hid r9; have K9 := Lib.hid (k9 _ _ K1.out (by omega)); clear r9 k9))
  exact bodyPost_ret (v := .tuple #[.agg #[.int .i64 0, .int .i64 0, .int .i64 0, .int .i64 0, .int .i64 0, .int .i64 0, .int .i64 0, .int .i64 0, .int .i64 0, .int .i64 0], .int .i64 0, .int .i64 5]) (results_F3 Tryz.results78 _ _ _ _ _ _ rfl rfl rfl R9.out rfl) rfl ⟨rfl, K9.out⟩

set_option maxHeartbeats 2000000 in
theorem pay_ok (i f t c p d u x b y : Int) (w : World) (l : Int) (hE : failE i f t c p d u x b y = 0) (hl : openV i f t c p d u x b y = l) (h : l ≠ 0) (h0 : 0 ≤ y) (h1 : y ≤ 1073741824) (h2 : 0 ≤ l) (h3 : l ≤ 1073741824) :
    Calls Tryz.prog 78 #[.agg #[.int .i64 i, .int .i64 f, .int .i64 t, .int .i64 c, .int .i64 p, .int .i64 d, .int .i64 u, .int .i64 x, .int .i64 b, .int .i64 y]] w fun e w' => e = .returned (.tuple #[.agg #[.int .i64 i, .int .i64 f, .int .i64 t, .int .i64 c, .int .i64 p, .int .i64 d, .int .i64 u, .int .i64 x, .int .i64 b, .int .i64 (y + l)], .int .i64 l, .int .i64 0]) ∧ Kpt w w' := by
  have OX := Lib.hid (fun w' => fopenX_run i f t c p d u x b y w')
  rw [hE, hl] at OX
  have z0 : (l == 0) = false := beq_eq_false_iff_ne.2 h
  have e1 : IntKind.i64.wrap (y + l) = y + l := by unfold IntKind.wrap; simp [IntKind.bits, IntKind.signed]; omega
  clear h
  clear hE hl
  go_enter Tryz.func78, Tryz.ntmps78
  go_wp2_with (first
    | (go_at_call 34; (with_reducible refine (OX.out _).mono ?_); rintro e w1 ⟨rfl, k1⟩; have K1 := Lib.hid (ktr (((Kpt.refl w).alloc (.cells #[.int .i64 i, .int .i64 f, .int .i64 t, .int .i64 c, .int .i64 p, .int .i64 d, .int .i64 u, .int .i64 x, .int .i64 b, .int .i64 y] 42)).alloc (.cells #[.int .i64 0, .int .i64 0, .int .i64 0, .int .i64 0, .int .i64 0, .int .i64 0, .int .i64 0, .int .i64 0, .int .i64 0, .int .i64 0] 42)) k1); have B1 : Hid (Blk w1 w.heap.size #[.int .i64 i, .int .i64 f, .int .i64 t, .int .i64 c, .int .i64 p, .int .i64 d, .int .i64 u, .int .i64 x, .int .i64 b, .int .i64 y] 42) := Blk.kpt ((Blk.made w #[.int .i64 i, .int .i64 f, .int .i64 t, .int .i64 c, .int .i64 p, .int .i64 d, .int .i64 u, .int .i64 x, .int .i64 b, .int .i64 y] 42).alloc _) k1; have R1 : Hid (Blk w1 (w.heap.size + 1) #[.int .i64 0, .int .i64 0, .int .i64 0, .int .i64 0, .int .i64 0, .int .i64 0, .int .i64 0, .int .i64 0, .int .i64 0, .int .i64 0] 42) := Blk.kpt (by have := Blk.made (w.alloc (.cells #[.int .i64 i, .int .i64 f, .int .i64 t, .int .i64 c, .int .i64 p, .int .i64 d, .int .i64 u, .int .i64 x, .int .i64 b, .int .i64 y] 42)) #[.int .i64 0, .int .i64 0, .int .i64 0, .int .i64 0, .int .i64 0, .int .i64 0, .int .i64 0, .int .i64 0, .int .i64 0, .int .i64 0] 42; simpa using this) k1; have ck : World.cell? w1 ⟨w.heap.size, 9, none⟩ = some (.int .i64 y) := B1.out.cell 9; have fk := B1.out.frozen 9; clear k1; have B2 : Hid (Blk (w1.setCell ⟨w.heap.size, 9, none⟩ (.int .i64 (y + l))) w.heap.size #[.int .i64 i, .int .i64 f, .int .i64 t, .int .i64 c, .int .i64 p, .int .i64 d, .int .i64 u, .int .i64 x, .int .i64 b, .int .i64 (y + l)] 42) := B1.out.put 9 _; have R2 := Lib.hid (R1.out.away (p := ⟨w.heap.size, 9, none⟩) (by simp) (.int .i64 (y + l))); have K2 := Lib.hid (Kpt.setCell K1.out (p := ⟨w.heap.size, 9, none⟩) (Nat.le_refl _) (.int .i64 (y + l))))
    | (refine wp_loadF rfl (.tmp 1) rfl w.heap.size _ rfl B2.out rfl ?_)
    | (refine wp_storeF rfl (.tmp 2) (.tmp 24) rfl (w.heap.size + 1) _ _ rfl rfl R2.out rfl rfl (by simp [Value.oneCell']) ?_; intro w9 r9 k9 _; have R9 := Lib.hid r9; have K9 := Lib.hid (k9 _ _ K2.out (by omega)); clear r9 k9))
  exact bodyPost_ret (v := .tuple #[.agg #[.int .i64 i, .int .i64 f, .int .i64 t, .int .i64 c, .int .i64 p, .int .i64 d, .int .i64 u, .int .i64 x, .int .i64 b, .int .i64 (y + l)], .int .i64 l, .int .i64 0]) (results_F3 Tryz.results78 _ _ _ _ _ _ rfl rfl rfl R9.out rfl) rfl ⟨rfl, K9.out⟩

end Go.Proofs.YthaahebggboliaaGreat

-- MapIds
namespace Go.Proofs.YthaahebggboliaaGreat
open Go.RowKit Go.Maps
set_option linter.unusedVariables false

def idsD (ids : List Int) : DataW Unit := setOf (.lit (.bool true)) (ids.map fun i => Lit.int .i64 i)
def OwnsIds (w : World) (b n : Nat) (ids : List Int) : Prop := w.ownsMap Tryz.prog 3 (plainElem Tryz.prog 4) b n (idsD ids)
theorem OwnsIds.nil (w : World) : OwnsIds (w.alloc (.map #[] 0)) w.heap.size 0 [] := World.ownsMap_made w _ _ _
theorem OwnsIds.block {w w' : World} {b n : Nat} {ids : List Int} (h : OwnsIds w b n ids) (e : w'.heap[b]? = w.heap[b]?) : OwnsIds w' b n ids := by
  obtain ⟨es, clock, hb, r⟩ := h
  exact ⟨es, clock, e.trans hb, r⟩
theorem OwnsIds.lt {w : World} {b n : Nat} {ids : List Int} (h : OwnsIds w b n ids) : b < w.heap.size := World.ownsMap.lt h
theorem OwnsIds.kpt {w w' : World} {b n : Nat} {ids : List Int} (h : OwnsIds w b n ids) (k : Kpt w w') : OwnsIds w' b n ids := h.block (k.block b h.lt)
theorem ids_snoc (ids : List Int) (i : Int) : (idsD ids).put (.int .i64 i) (.lit (.bool true)) = idsD (ids ++ [i]) := by
  unfold idsD; rw [List.map_append, List.map_singleton, setOf_snoc]
theorem atKey_in (u z : DataW Unit) (k : Lit) (hk : WideAt.IsKeyLit k) : ∀ (acc : List Lit) (m : DataW Unit), IsMap m → k ∈ acc ∨ m.atKey k z = u → (acc.foldl (fun m x => m.put x u) m).atKey k z = u
  | [], m, _, h => by
    rcases h with h | h
    · cases h
    · exact h
  | x :: r, m, hm, h => by
    rw [List.foldl_cons]
    refine atKey_in u z k hk r (m.put x u) (hm.put x u) ?_
    by_cases e : k = x
    · subst e
      exact .inr (atKey_put_same hm hk u z)
    · rcases h with h | h
      · rcases List.mem_cons.1 h with h | h
        · exact absurd h e
        · exact .inl h
      · exact .inr (by rw [atKey_put_other e]; exact h)
theorem atKey_out (u z : DataW Unit) (k : Lit) : ∀ (acc : List Lit) (m : DataW Unit), k ∉ acc → (acc.foldl (fun m x => m.put x u) m).atKey k z = m.atKey k z
  | [], m, _ => rfl
  | x :: r, m, h => by
    rw [List.foldl_cons, atKey_out u z k r _ (fun e => h (List.mem_cons_of_mem _ e)), atKey_put_other (fun e => h (by rw [e]; exact List.mem_cons_self))]
theorem ids_at (ids : List Int) (i : Int) (hk : WideAt.IsKeyLit (Lit.int .i64 i)) : (idsD ids).atKey (.int .i64 i) (.lit (.bool false)) = .lit (.bool (decide (i ∈ ids))) := by
  unfold idsD setOf
  by_cases h : i ∈ ids
  · rw [decide_eq_true h]
    exact atKey_in _ _ _ hk _ _ isMap_empty (.inl (List.mem_map.2 ⟨i, h, rfl⟩))
  · rw [decide_eq_false h, atKey_out _ _ _ _ _ (fun hm => h (by
      obtain ⟨j, hj, e⟩ := List.mem_map.1 hm
      injection e with _ e
      rwa [e] at hj))]
    rfl
theorem Tryz.zeroBool (w : World) : (zeroValue 4).run Tryz.prog w = .ok (.bool false) w := by kernel_rfl
theorem plainElem_bool_inv {P : Program} {e : TypeId} (he : P.underlying e = some .bool) {v : Value} {z : DataW Unit × List MemPlace} (h : plainElem P e v = some z) : ∃ x, v = .bool x ∧ z = (.lit (.bool x), []) := by
  unfold plainElem at h
  rw [he] at h
  cases v <;> simp at h
  exact ⟨_, rfl, h.symm⟩
theorem i64_wf {i : Int} (h : -9223372036854775808 ≤ i ∧ i ≤ 9223372036854775807) : (Lit.int .i64 i).wf = true := WalkArith.wf_i64 h
/-- the look-up, for the walk -/
theorem wp_lookup_ids (w : World) {ops : Array Oper} {rest : List Oper} {o : Oper} {a : Act} {Q : Exit → Act → World → Prop} (hg : o.guard = none) (m x : Operand) (hop : o.op = Op.lookup 137 m x false)
    (b n : Nat) (ids : List Int) (hm : a.eval m = .map (some b)) (hown : OwnsIds w b n ids) (i : Int) (hi : -9223372036854775808 ≤ i ∧ i ≤ 9223372036854775807) (hx : a.eval x = .int .i64 i) (B : Bool) (hB : decide (i ∈ ids) = B)
    (hK : wpList Tryz.prog ops Q rest (a.put o.dst (.bool B)) w) : wpList Tryz.prog ops Q (o :: rest) a w := by
  refine wpList_plain hg fun K' hK' => ?_
  have hkey : keyOf Tryz.prog 3 (.int .i64 i) = some (.int .i64 i) := keyOf_int_mk Tryz.underlying3 (i64_wf hi)
  obtain ⟨v, ps, hrun, hv⟩ := World.ownsMap.lookup hown (int_keyed Tryz.underlying3) Tryz.underlying137 (Tryz.zeroBool w) (plainElem_bool Tryz.underlying4 false) hkey
  obtain ⟨y, rfl, e⟩ := plainElem_bool_inv Tryz.underlying4 hv
  have hk := (int_keyed (P := Tryz.prog) Tryz.underlying3).key hkey
  have e1 := congrArg Prod.fst e
  simp only at e1
  rw [ids_at ids i hk, hB] at e1
  injection e1 with e1
  injection e1 with e1
  subst e1
  unfold Oper.wp
  simp [execOp, hop, hm, hx, hrun, Result.andThen]
  exact hK' _ _ hK
/-- the store, for the walk -/
theorem wp_store_ids (w : World) {ops : Array Oper} {rest : List Oper} {o : Oper} {a : Act} {Q : Exit → Act → World → Prop} (hg : o.guard = none) (m x v : Operand) (hop : o.op = Op.mapUpdate 137 m x v)
    (b n : Nat) (ids : List Int) (hm : a.eval m = .map (some b)) (hown : OwnsIds w b n ids) (hn : n ≤ 1000000) (i : Int) (hi : -9223372036854775808 ≤ i ∧ i ≤ 9223372036854775807) (hx : a.eval x = .int .i64 i) (hv : a.eval v = .bool true)
    (hK : ∀ w', OwnsIds w' b (n + 1) (ids ++ [i]) → (∀ B, B ≤ b → Below B w w') → (∀ k, k < w.heap.size → k ≠ b → w'.heap[k]? = w.heap[k]?) → wpList Tryz.prog ops Q rest (a.put o.dst undef) w') : wpList Tryz.prog ops Q (o :: rest) a w := by
  refine wpList_mapUpdate_own w hg m x v 137 hop 3 4 (int_keyed Tryz.underlying3) Tryz.underlying137 (plainElem Tryz.prog 4) b n (idsD ids) hm hown (by unfold maxLen; omega) (.int .i64 i) (.bool true) (.int .i64 i) hx hv (keyOf_int_mk Tryz.underlying3 (i64_wf hi)) (.lit (.bool true)) [] (plainElem_bool Tryz.underlying4 true) ?_
  intro w' h1 h2
  rw [ids_snoc] at h1
  have hlt := OwnsIds.lt hown
  exact hK w' h1 (fun B hB => (Below.refl B w).grown h2 (by omega) (fun k e => by cases e; exact hB)) (fun k hk hne => h2.block k hk (fun e => hne (Option.some.inj e)))

end Go.Proofs.YthaahebggboliaaGreat

-- FailE
namespace Go.Proofs.YthaahebggboliaaGreat
open Go.RowKit Go.Maps
set_option linter.unusedVariables false

/-- a fail lies at this address: ten ints -/
def FlAt (w : World) (g off : Nat) (l : List Int) : Prop := ∀ j, j < 10 → w.cell? ⟨g, off + j, none⟩ = some (.int .i64 (l.getD j 0))
theorem FlAt.kpt {w w' : World} {g off : Nat} {l : List Int} (h : FlAt w g off l) (k : Kpt w w') : FlAt w' g off l := fun j hj => k.cell (h j hj)
def FlB (l : List Int) : Prop := ∀ j, j < 10 → -9223372036854775808 ≤ l.getD j 0 ∧ l.getD j 0 ≤ 9223372036854775807
/-- the slice value v reads as these fails -/
def ReadsF (w : World) (v : Value) (fs : List (List Int)) : Prop :=
  ∃ (a : Option Addr) (cap : Nat), v = .slice a fs.length cap ∧ fs.length ≤ maxLen ∧ (∀ l ∈ fs, FlB l) ∧ ∀ k, k < fs.length → ∃ g off, a = some ⟨g, off, none⟩ ∧ FlAt w g (off + k * 10) (fs.getD k [])
theorem ReadsF.kpt {w w' : World} {v : Value} {fs : List (List Int)} (h : ReadsF w v fs) (k : Kpt w w') : ReadsF w' v fs := by
  obtain ⟨a, cap, rfl, hm, hb, hc⟩ := h
  refine ⟨a, cap, rfl, hm, hb, fun j hj => ?_⟩
  obtain ⟨g, off, rfl, h'⟩ := hc j hj
  exact ⟨g, off, rfl, h'.kpt k⟩
theorem getF_mem {fs : List (List Int)} {k : Nat} (hk : k < fs.length) : fs.getD k [] ∈ fs := by
  rw [List.getD_eq_getElem?_getD, List.getElem?_eq_getElem hk]; simp
/-- the error of a fail, told as a list -/
def failEL (l : List Int) : Int := failE (l.getD 0 0) (l.getD 1 0) (l.getD 2 0) (l.getD 3 0) (l.getD 4 0) (l.getD 5 0) (l.getD 6 0) (l.getD 7 0) (l.getD 8 0) (l.getD 9 0)
/-- the error of the first fail that stands wrong, or whose number was there before -/
def idsE (ids : List Int) : List (List Int) → Int
  | [] => 0
  | l :: fs => if failEL l ≠ 0 then failEL l else if l.getD 0 0 ∈ ids then 6 else idsE (ids ++ [l.getD 0 0]) fs
def checksE (fs : List (List Int)) : Int := if 60 < fs.length then 2 else idsE [] fs
def idsOf (fs : List (List Int)) : List Int := fs.map fun l => l.getD 0 0
theorem drop_at {fs : List (List Int)} {k : Nat} (h : k < fs.length) : fs.drop k = fs.getD k [] :: fs.drop (k + 1) := by
  rw [List.drop_eq_getElem_cons h, List.getD_eq_getElem?_getD, List.getElem?_eq_getElem h]; rfl
theorem idsOf_s {fs : List (List Int)} {k : Nat} (h : k < fs.length) : idsOf (fs.take (k + 1)) = idsOf (fs.take k) ++ [(fs.getD k []).getD 0 0] := by
  unfold idsOf
  rw [List.take_add_one, List.getElem?_eq_getElem h, List.map_append]
  simp only [Option.toList_some, List.map_cons, List.map_nil]
  rw [List.getD_eq_getElem?_getD (l := fs), List.getElem?_eq_getElem h]; rfl
theorem id_wf {i f t c p d u x b y : Int} (h : failE i f t c p d u x b y = 0) : -9223372036854775808 ≤ i ∧ i ≤ 9223372036854775807 := by
  have := (fdue_t (fail_0 h).1).2.1; omega

set_option maxHeartbeats 4000000 in
theorem checks_run (v : Value) (fs : List (List Int)) (w : World) (hr : ReadsF w v fs) :
    Calls Tryz.prog 56 #[v] w fun e w' => e = .returned (.int .i64 (checksE fs)) ∧ Kpt w w' := by
  obtain ⟨a, cap, rfl, hm, -, hc⟩ := hr
  unfold maxLen at hm
  have HC := Lib.hid hc
  obtain ⟨n, hn⟩ : ∃ n, n = fs.length := ⟨_, rfl⟩
  by_cases h60 : 60 < fs.length
  · have HX : Hid (checksE fs = 2) := by unfold Hid checksE; rw [if_pos h60]
    rw [← hn] at h60 HC hm ⊢
    have y1 : decide ((60 : Int) < (n : Int)) = true := decide_eq_true (by omega)
    have y2 : (60 : Int) < (n : Int) := by omega
    clear hc hn
    go_enter Tryz.func56, Tryz.ntmps56
    go_wp2
    go_ret
    exact ⟨ret_int HX.out.symm, Kpt.refl _⟩
  · have HX : Hid (checksE fs = idsE (idsOf (fs.take 0)) (fs.drop 0)) := by unfold Hid checksE; rw [if_neg h60]; rfl
    have DR := Lib.hid (fun k (h : k < fs.length) => drop_at h)
    have IS := Lib.hid (fun k (h : k < fs.length) => idsOf_s h)
    have DA : Hid (fs.drop n = []) := by unfold Hid; rw [hn, List.drop_length]
    rw [← hn] at h60 HC hm DR IS ⊢
    have y1 : decide ((60 : Int) < (n : Int)) = false := decide_eq_false (by omega)
    have y2 : ¬ (60 : Int) < (n : Int) := by omega
    clear hc hn
    have hmm := @run_makeMap Tryz.prog
    have HO0 := Lib.hid (OwnsIds.nil w)
    have K0 : Hid (Kpt w (w.alloc (.map #[] 0))) := (Kpt.refl w).alloc _
    go_enter Tryz.func56, Tryz.ntmps56
    go_wp2
    clear hmm
    go_loopw [13] (fun ii wr => ∃ k : Nat, k ≤ n ∧ ii = .int .i64 (k : Int) ∧ Hid (checksE fs = idsE (idsOf (fs.take k)) (fs.drop k)) ∧ Hid (OwnsIds wr w.heap.size k (idsOf (fs.take k))) ∧ Hid (Kpt w wr)) (fun ii _ => n - (intOf ii).toNat)
    case atStart => exact ⟨0, Nat.zero_le _, rfl, HX.out, HO0.out, K0.out⟩
    case round =>
      obtain ⟨k, hk, rfl, HE, HO, HK⟩ := hrel
      by_cases hlt : k < n
      · obtain ⟨g, off, rfl, hfl⟩ := HC.out k hlt
        have hf := hfl.kpt HK.out
        have dr := DR.out k hlt
        have is' := IS.out k hlt
        have he := HE.out
        rw [dr] at he
        unfold idsE failEL at he
        have c0 : wr.cell? ⟨g, off + k * 10, none⟩ = _ := hf 0 (by omega)
        have c1 : wr.cell? ⟨g, off + k * 10 + 1, none⟩ = _ := hf 1 (by omega)
        have c2 : wr.cell? ⟨g, off + k * 10 + 2, none⟩ = _ := hf 2 (by omega)
        have c3 : wr.cell? ⟨g, off + k * 10 + 3, none⟩ = _ := hf 3 (by omega)
        have c4 : wr.cell? ⟨g, off + k * 10 + 4, none⟩ = _ := hf 4 (by omega)
        have c5 : wr.cell? ⟨g, off + k * 10 + 5, none⟩ = _ := hf 5 (by omega)
        have c6 : wr.cell? ⟨g, off + k * 10 + 6, none⟩ = _ := hf 6 (by omega)
        have c7 : wr.cell? ⟨g, off + k * 10 + 7, none⟩ = _ := hf 7 (by omega)
        have c8 : wr.cell? ⟨g, off + k * 10 + 8, none⟩ = _ := hf 8 (by omega)
        have c9 : wr.cell? ⟨g, off + k * 10 + 9, none⟩ = _ := hf 9 (by omega)
        generalize fs.getD k [] = l at *
        generalize l.getD 0 0 = i at *
        generalize l.getD 1 0 = f at *
        generalize l.getD 2 0 = t at *
        generalize l.getD 3 0 = c at *
        generalize l.getD 4 0 = p at *
        generalize l.getD 5 0 = d at *
        generalize l.getD 6 0 = u at *
        generalize l.getD 7 0 = x at *
        generalize l.getD 8 0 = b at *
        generalize l.getD 9 0 = y at *
        have hE0 : w.heap.size < wr.heap.size := HO.out.lt
        have CK := Lib.hid (fun w' => fcheck_run i f t c p d u x b y w')
        have ZB : Hid (Blk (wr.alloc (.cells #[.int .i64 0, .int .i64 0, .int .i64 0, .int .i64 0, .int .i64 0, .int .i64 0, .int .i64 0, .int .i64 0, .int .i64 0, .int .i64 0] 42)) wr.heap.size #[.int .i64 0, .int .i64 0, .int .i64 0, .int .i64 0, .int .i64 0, .int .i64 0, .int .i64 0, .int .i64 0, .int .i64 0, .int .i64 0] 42) := Blk.made _ _ _
        have KZ : Hid (Kpt w (wr.alloc (.cells #[.int .i64 0, .int .i64 0, .int .i64 0, .int .i64 0, .int .i64 0, .int .i64 0, .int .i64 0, .int .i64 0, .int .i64 0, .int .i64 0] 42))) := HK.out.alloc _
        have OZ : Hid (OwnsIds (wr.alloc (.cells #[.int .i64 0, .int .i64 0, .int .i64 0, .int .i64 0, .int .i64 0, .int .i64 0, .int .i64 0, .int .i64 0, .int .i64 0, .int .i64 0] 42)) w.heap.size k (idsOf (fs.take k))) := HO.out.kpt ((Kpt.refl _).alloc _)
        by_cases hE : failE i f t c p d u x b y = 0
        · rw [hE] at CK he
          rw [if_neg (by simp)] at he
          have hi := id_wf hE
          by_cases hin : i ∈ idsOf (fs.take k)
          · rw [if_pos hin] at he
            have HE2 := Lib.hid he
            have yb : decide (i ∈ idsOf (fs.take k)) = true := decide_eq_true hin
            clear he hE hin dr is' hf hfl HE
            go_wp2_with (first
              | (refine wp_storeF rfl (.tmp 5) (.tmp 16) rfl wr.heap.size _ _ rfl rfl ZB.out rfl rfl (by simp [Value.oneCell']) ?_; intro w9 r9 k9 o9; have R9 := Lib.hid r9; have K9 := Lib.hid (k9 _ _ KZ.out HK.out.size); have O9 := Lib.hid (OZ.out.block (o9 _ (by omega))); clear r9 k9 o9)
              | (refine wp_loadF rfl (.tmp 5) rfl wr.heap.size _ rfl R9.out rfl ?_)
              | (go_at_call 79; (with_reducible refine (CK.out _).mono ?_); rintro e w10 ⟨rfl, k10⟩; have K10 := Lib.hid (ktr K9.out k10); have O10 := Lib.hid (O9.out.kpt k10); have R10 : Hid (Blk w10 wr.heap.size #[.int .i64 i, .int .i64 f, .int .i64 t, .int .i64 c, .int .i64 p, .int .i64 d, .int .i64 u, .int .i64 x, .int .i64 b, .int .i64 y] 42) := R9.out.kpt k10; have ci : World.cell? w10 ⟨wr.heap.size, 0, none⟩ = some (.int .i64 i) := R10.out.cell 0; clear k10)
              | (at_lookup; refine wp_lookup_ids _ rfl _ _ rfl w.heap.size k _ rfl O10.out i hi rfl true yb ?_))
            go_ret
            exact ⟨ret_int HE2.out.symm, K10.out⟩
          · rw [if_neg hin] at he
            have yb : decide (i ∈ idsOf (fs.take k)) = false := decide_eq_false hin
            rw [← is'] at he
            have HE2 := Lib.hid he
            have IS2 := Lib.hid is'
            clear he hE hin dr is' hf hfl HE
            go_wp2_with (first
              | (refine wp_storeF rfl (.tmp 5) (.tmp 16) rfl wr.heap.size _ _ rfl rfl ZB.out rfl rfl (by simp [Value.oneCell']) ?_; intro w9 r9 k9 o9; have R9 := Lib.hid r9; have K9 := Lib.hid (k9 _ _ KZ.out HK.out.size); have O9 := Lib.hid (OZ.out.block (o9 _ (by omega))); clear r9 k9 o9)
              | (refine wp_loadF rfl (.tmp 5) rfl wr.heap.size _ rfl R9.out rfl ?_)
              | (go_at_call 79; (with_reducible refine (CK.out _).mono ?_); rintro e w10 ⟨rfl, k10⟩; have K10 := Lib.hid (ktr K9.out k10); have O10 := Lib.hid (O9.out.kpt k10); have R10 : Hid (Blk w10 wr.heap.size #[.int .i64 i, .int .i64 f, .int .i64 t, .int .i64 c, .int .i64 p, .int .i64 d, .int .i64 u, .int .i64 x, .int .i64 b, .int .i64 y] 42) := R9.out.kpt k10; have ci : World.cell? w10 ⟨wr.heap.size, 0, none⟩ = some (.int .i64 i) := R10.out.cell 0; clear k10)
              | (at_lookup; refine wp_lookup_ids _ rfl _ _ rfl w.heap.size k _ rfl O10.out i hi rfl false yb ?_)
              | (at_mapUpdate; refine wp_store_ids _ rfl _ _ _ rfl w.heap.size k _ rfl O10.out (by omega) i hi rfl rfl ?_; intro w11 h1 h2 _; rw [← IS2.out] at h1; have O11 := Lib.hid h1; have K11 : Hid (Kpt w w11) := Below.trans K10.out (h2 _ (Nat.le_refl _)); clear h1 h2))
            go_roundw
            case rel => exact ⟨k + 1, by omega, by go_num, HE2.out, O11.out, K11.out⟩
            case measure => simp [intOf]; omega
        · rw [if_pos hE] at he
          have z0 : (failE i f t c p d u x b y != 0) = true := bne_iff_ne.2 hE
          have HE2 := Lib.hid he
          clear he hE dr is' hf hfl HE
          generalize failE i f t c p d u x b y = E at *
          go_wp2_with (first
            | (refine wp_storeF rfl (.tmp 5) (.tmp 16) rfl wr.heap.size _ _ rfl rfl ZB.out rfl rfl (by simp [Value.oneCell']) ?_; intro w9 r9 k9 o9; have R9 := Lib.hid r9; have K9 := Lib.hid (k9 _ _ KZ.out HK.out.size); have O9 := Lib.hid (OZ.out.block (o9 _ (by omega))); clear r9 k9 o9)
            | (refine wp_loadF rfl (.tmp 5) rfl wr.heap.size _ rfl R9.out rfl ?_)
            | (go_at_call 79; (with_reducible refine (CK.out _).mono ?_); rintro e w10 ⟨rfl, k10⟩; have K10 := Lib.hid (ktr K9.out k10); have O10 := Lib.hid (O9.out.kpt k10); have R10 : Hid (Blk w10 wr.heap.size #[.int .i64 i, .int .i64 f, .int .i64 t, .int .i64 c, .int .i64 p, .int .i64 d, .int .i64 u, .int .i64 x, .int .i64 b, .int .i64 y] 42) := R9.out.kpt k10; have ci : World.cell? w10 ⟨wr.heap.size, 0, none⟩ = some (.int .i64 i) := R10.out.cell 0; clear k10))
          go_ret
          exact ⟨ret_int HE2.out.symm, K10.out⟩
      · obtain rfl : k = n := by omega
        rw [DA.out] at HE
        go_wp2
        go_ret
        exact ⟨ret_int HE.out.symm, HK.out⟩

end Go.Proofs.YthaahebggboliaaGreat

-- IdsOk
namespace Go.Proofs.YthaahebggboliaaGreat
open Go.RowKit
set_option linter.unusedVariables false

theorem ids_ok {ids : List Int} {fs : List (List Int)} : idsE ids fs = 0 ↔ (∀ l ∈ fs, failEL l = 0) ∧ (idsOf fs).Nodup ∧ ∀ l ∈ fs, l.getD 0 0 ∉ ids := by
  induction fs generalizing ids with
  | nil => simp [idsE, idsOf]
  | cons l fs ih =>
    unfold idsE
    have e : idsOf (l :: fs) = l.getD 0 0 :: idsOf fs := rfl
    rw [e, List.nodup_cons]
    by_cases h1 : failEL l ≠ 0
    · rw [if_pos h1]
      constructor
      · exact fun h => absurd h h1
      · exact fun h => absurd (h.1 l (by simp)) h1
    · rw [if_neg h1]
      have h1 : failEL l = 0 := by omega
      by_cases h2 : l.getD 0 0 ∈ ids
      · rw [if_pos h2]
        constructor
        · intro h; omega
        · exact fun h => absurd h2 (h.2.2 l (by simp))
      · rw [if_neg h2, ih]
        constructor
        · rintro ⟨a, b, c⟩
          refine ⟨fun m hm => ?_, ⟨fun hm => ?_, b⟩, fun m hm => ?_⟩
          · rcases List.mem_cons.1 hm with rfl | hm
            · exact h1
            · exact a m hm
          · obtain ⟨m, hm, e⟩ := List.mem_map.1 hm
            exact c m hm (by rw [e]; simp)
          · rcases List.mem_cons.1 hm with rfl | hm
            · exact h2
            · exact fun h => c m hm (List.mem_append_left _ h)
        · rintro ⟨a, ⟨b1, b2⟩, c⟩
          refine ⟨fun m hm => a m (by simp [hm]), b2, fun m hm h => ?_⟩
          rcases List.mem_append.1 h with h | h
          · exact c m (by simp [hm]) h
          · exact b1 (List.mem_map.2 ⟨m, hm, by simpa using h⟩)
theorem checks_sub {fs gs : List (List Int)} (s : gs.Sublist fs) (h : checksE fs = 0) : checksE gs = 0 := by
  have hl := s.length_le
  unfold checksE at h ⊢
  split at h
  · cases h
  · rename_i h6
    rw [if_neg (by omega)]
    obtain ⟨h1, h2, h3⟩ := ids_ok.1 h
    exact ids_ok.2 ⟨fun l hl => h1 l (s.subset hl), (s.map fun l : List Int => l.getD 0 0).nodup (show (fs.map fun l => l.getD 0 0).Nodup from h2), fun l hl => h3 l (s.subset hl)⟩
theorem checks_one {l : List Int} (h : failEL l = 0) : checksE [l] = 0 := by
  unfold checksE
  rw [if_neg (by simp)]
  exact ids_ok.2 ⟨fun m hm => by simp at hm; subst hm; exact h, by simp [idsOf], fun m hm => by simp⟩
/-- those ahead of a place, and those from it on -/
theorem ReadsF.take {w : World} {a : Option Addr} {n cap : Nat} {fs : List (List Int)} (h : ReadsF w (.slice a n cap) fs) (k : Nat) (hk : k ≤ fs.length) : ReadsF w (.slice a k cap) (fs.take k) := by
  obtain ⟨a', cap', e, hm, hb, hc⟩ := h
  injection e with e1 e2 e3
  subst e1; subst e3
  have hl : (fs.take k).length = k := by rw [List.length_take]; omega
  refine ⟨_, cap, by rw [hl], by omega, fun p hp => hb p (List.mem_of_mem_take hp), fun j hj => ?_⟩
  obtain ⟨b, off, e, h⟩ := hc j (by omega)
  refine ⟨b, off, e, ?_⟩
  have : (fs.take k).getD j [] = fs.getD j [] := by
    rw [List.getD_eq_getElem?_getD, List.getD_eq_getElem?_getD, List.getElem?_take_of_lt (by omega)]
  rw [this]
  exact h
theorem ReadsF.drop {w : World} {b off n cap : Nat} {fs : List (List Int)} (h : ReadsF w (.slice (some ⟨b, off, none⟩) n cap) fs) (k : Nat) (hk : k ≤ fs.length) : ReadsF w (.slice (some ⟨b, off + k * 10, none⟩) (n - k) (cap - k)) (fs.drop k) := by
  obtain ⟨a', cap', e, hm, hb, hc⟩ := h
  injection e with e1 e2 e3
  subst e1; subst e3; subst e2
  have hl : (fs.drop k).length = fs.length - k := List.length_drop
  refine ⟨_, cap - k, by rw [hl], by omega, fun p hp => hb p (List.mem_of_mem_drop hp), fun j hj => ?_⟩
  obtain ⟨b', off', e, h⟩ := hc (k + j) (by omega)
  simp only [Option.some.injEq, Addr.mk.injEq] at e
  obtain ⟨rfl, rfl, -⟩ := e
  refine ⟨b, off + k * 10, rfl, ?_⟩
  have : (fs.drop k).getD j [] = fs.getD (k + j) [] := by
    rw [List.getD_eq_getElem?_getD, List.getD_eq_getElem?_getD, List.getElem?_drop]
  rw [this, show off + k * 10 + j * 10 = off + (k + j) * 10 by omega]
  exact h
theorem readsF_nil (w : World) (a : Option Addr) (cap : Nat) : ReadsF w (.slice a 0 cap) [] := ⟨a, cap, rfl, Nat.zero_le _, fun l hl => absurd hl (by simp), fun k hk => absurd hk (Nat.not_lt_zero k)⟩

end Go.Proofs.YthaahebggboliaaGreat

-- FailF
namespace Go.Proofs.YthaahebggboliaaGreat
open Go.RowKit Go.Maps
set_option linter.unusedVariables false

theorem find1_run (i f t c p d u x b y : Int) (B : Nat) (id : Int) (w : World) (hc : w.cell? ⟨B, 0, none⟩ = some (.int .i64 id)) :
    Calls Tryz.prog 84 #[.agg #[.int .i64 i, .int .i64 f, .int .i64 t, .int .i64 c, .int .i64 p, .int .i64 d, .int .i64 u, .int .i64 x, .int .i64 b, .int .i64 y], .pointer (some ⟨B, 0, none⟩)] w fun e w' => e = .returned (.bool (i == id)) ∧ Kpt w w' := by
  have c' := ((Kpt.refl w).alloc (.cells #[.int .i64 i, .int .i64 f, .int .i64 t, .int .i64 c, .int .i64 p, .int .i64 d, .int .i64 u, .int .i64 x, .int .i64 b, .int .i64 y] 42)).cell hc
  clear hc
  go_enter Tryz.func84, Tryz.ntmps84
  go_wp2
  go_ret
  exact ⟨rfl, by repeat (first | exact Kpt.refl _ | refine Kpt.alloc ?_ _)⟩
/-- the place of the first fail of this number, or -1 -/
def idxF (id : Int) : List (List Int) → Nat → Int
  | [], _ => -1
  | l :: fs, k => if l.getD 0 0 = id then (k : Int) else idxF id fs (k + 1)
set_option maxHeartbeats 2000000 in
theorem idxF_run (v : Value) (fs : List (List Int)) (B : Nat) (id : Int) (w : World) (hr : ReadsF w v fs) (hid : w.cell? ⟨B, 0, none⟩ = some (.int .i64 id)) :
    Calls Tryz.prog 83 #[v, .func (.func 84) #[] #[.pointer (some ⟨B, 0, none⟩)]] w fun e w' => e = .returned (.int .i64 (idxF id fs 0)) ∧ Kpt w w' := by
  obtain ⟨a, cap, rfl, hm, -, hc⟩ := hr
  unfold maxLen at hm
  have HC := Lib.hid hc
  have HI := Lib.hid hid
  have DR := Lib.hid (fun k (h : k < fs.length) => drop_at h)
  have HX : Hid (idxF id fs 0 = idxF id (fs.drop 0) 0) := rfl
  have DA : Hid (fs.drop fs.length = []) := List.drop_length
  obtain ⟨n, hn⟩ : ∃ n, n = fs.length := ⟨_, rfl⟩
  rw [← hn] at HC hm DR DA ⊢
  clear hc hn hid
  go_enter Tryz.func83, Tryz.ntmps83
  go_wp2
  go_loopw [8] (fun ii wr => ∃ k : Nat, k ≤ n ∧ ii = .int .i64 (k : Int) ∧ Hid (idxF id fs 0 = idxF id (fs.drop k) k) ∧ Hid (Kpt w wr)) (fun ii _ => n - (intOf ii).toNat)
  case atStart => exact ⟨0, Nat.zero_le _, rfl, HX.out, Kpt.refl _⟩
  case round =>
    obtain ⟨k, hk, rfl, HE, HK⟩ := hrel
    by_cases hlt : k < n
    · obtain ⟨g, off, rfl, hfl⟩ := HC.out k hlt
      have hf := hfl.kpt HK.out
      have dr := DR.out k hlt
      have he : idxF id fs 0 = (if (fs.getD k []).getD 0 0 = id then (k : Int) else idxF id (fs.drop (k + 1)) (k + 1)) := HE.out.trans (by rw [dr]; rfl)
      have c0 : wr.cell? ⟨g, off + k * 10, none⟩ = _ := hf 0 (by omega)
      have c1 : wr.cell? ⟨g, off + k * 10 + 1, none⟩ = _ := hf 1 (by omega)
      have c2 : wr.cell? ⟨g, off + k * 10 + 2, none⟩ = _ := hf 2 (by omega)
      have c3 : wr.cell? ⟨g, off + k * 10 + 3, none⟩ = _ := hf 3 (by omega)
      have c4 : wr.cell? ⟨g, off + k * 10 + 4, none⟩ = _ := hf 4 (by omega)
      have c5 : wr.cell? ⟨g, off + k * 10 + 5, none⟩ = _ := hf 5 (by omega)
      have c6 : wr.cell? ⟨g, off + k * 10 + 6, none⟩ = _ := hf 6 (by omega)
      have c7 : wr.cell? ⟨g, off + k * 10 + 7, none⟩ = _ := hf 7 (by omega)
      have c8 : wr.cell? ⟨g, off + k * 10 + 8, none⟩ = _ := hf 8 (by omega)
      have c9 : wr.cell? ⟨g, off + k * 10 + 9, none⟩ = _ := hf 9 (by omega)
      generalize fs.getD k [] = l at *
      generalize l.getD 0 0 = i at *
      generalize l.getD 1 0 = f at *
      generalize l.getD 2 0 = t at *
      generalize l.getD 3 0 = c at *
      generalize l.getD 4 0 = p at *
      generalize l.getD 5 0 = d at *
      generalize l.getD 6 0 = u at *
      generalize l.getD 7 0 = x at *
      generalize l.getD 8 0 = b at *
      generalize l.getD 9 0 = y at *
      have F1 := Lib.hid (find1_run i f t c p d u x b y B id wr (HK.out.cell HI.out))
      by_cases h1 : i = id
      · have z1 : (i == id) = true := beq_iff_eq.2 h1
        rw [if_pos h1] at he
        have HE2 := Lib.hid he
        rw [z1] at F1
        clear he dr hf hfl HE h1
        go_wp2_with (go_at_call 84; (with_reducible refine F1.out.mono ?_); rintro e w1 ⟨rfl, k1⟩; have K1 := Lib.hid (ktr HK.out k1); clear k1)
        go_ret
        exact ⟨ret_int HE2.out.symm, K1.out⟩
      · have z1 : (i == id) = false := beq_eq_false_iff_ne.2 h1
        rw [if_neg h1] at he
        have HE2 := Lib.hid he
        rw [z1] at F1
        clear he dr hf hfl HE h1
        go_wp2_with (go_at_call 84; (with_reducible refine F1.out.mono ?_); rintro e w1 ⟨rfl, k1⟩; have K1 := Lib.hid (ktr HK.out k1); clear k1)
        go_roundw
        case rel => exact ⟨k + 1, by omega, by go_num, HE2.out, K1.out⟩
        case measure => simp [intOf]; omega
    · obtain rfl : k = n := by omega
      rw [DA.out] at HE
      go_wp2
      go_ret
      exact ⟨ret_int HE.out.symm, HK.out⟩
theorem find_run (v : Value) (fs : List (List Int)) (id : Int) (w : World) (hr : ReadsF w v fs) :
    (checksE fs ≠ 0 → Calls Tryz.prog 36 #[v, .int .i64 id] w fun e w' => e = .returned (.tuple #[.int .i64 0, .int .i64 (checksE fs)]) ∧ Kpt w w') ∧
    (checksE fs = 0 → idxF id fs 0 < 0 → Calls Tryz.prog 36 #[v, .int .i64 id] w fun e w' => e = .returned (.tuple #[.int .i64 0, .int .i64 5]) ∧ Kpt w w') ∧
    (checksE fs = 0 → ¬ idxF id fs 0 < 0 → Calls Tryz.prog 36 #[v, .int .i64 id] w fun e w' => e = .returned (.tuple #[.int .i64 (idxF id fs 0), .int .i64 0]) ∧ Kpt w w') := by
  have CK := Lib.hid (fun w' (k : Kpt w w') => checks_run v fs w' (hr.kpt k))
  have IX := Lib.hid (fun w' (k : Kpt w w') B hid => idxF_run v fs B id w' (hr.kpt k) hid)
  have KA : Hid (Kpt w (w.alloc (.cells #[.int .i64 id] 3))) := (Kpt.refl w).alloc _
  have BA := Lib.hid (Blk.made w #[.int .i64 id] 3)
  obtain ⟨a, cap, rfl, hm, -, -⟩ := hr
  unfold maxLen at hm
  generalize fs.length = n at *
  refine ⟨fun h => ?_, fun h h2 => ?_, fun h h2 => ?_⟩
  · have z0 : (checksE fs != 0) = true := bne_iff_ne.2 h
    clear h
    generalize checksE fs = E at *
    go_enter Tryz.func36, Tryz.ntmps36
    go_wp2_with (go_at_call 56; (with_reducible refine (CK.out _ KA.out).mono ?_); rintro e w1 ⟨rfl, k1⟩; have K1 := Lib.hid (ktr KA.out k1); clear k1)
    go_ret2
    exact ⟨rfl, K1.out⟩
  · rw [h] at CK
    generalize idxF id fs 0 = r at *
    go_enter Tryz.func36, Tryz.ntmps36
    go_wp2_with (first
      | (go_at_call 56; (with_reducible refine (CK.out _ KA.out).mono ?_); rintro e w1 ⟨rfl, k1⟩; have K1 := Lib.hid (ktr KA.out k1); have B1 : Hid (Blk w1 w.heap.size #[.int .i64 id] 3) := BA.out.kpt k1; clear k1)
      | (go_at_call 83; (with_reducible refine (IX.out _ K1.out _ (B1.out.cell 0)).mono ?_); rintro e w2 ⟨rfl, k2⟩; have K2 := Lib.hid (ktr K1.out k2); clear k2))
    go_ret2
    exact ⟨rfl, K2.out⟩
  · rw [h] at CK
    generalize idxF id fs 0 = r at *
    go_enter Tryz.func36, Tryz.ntmps36
    go_wp2_with (first
      | (go_at_call 56; (with_reducible refine (CK.out _ KA.out).mono ?_); rintro e w1 ⟨rfl, k1⟩; have K1 := Lib.hid (ktr KA.out k1); have B1 : Hid (Blk w1 w.heap.size #[.int .i64 id] 3) := BA.out.kpt k1; clear k1)
      | (go_at_call 83; (with_reducible refine (IX.out _ K1.out _ (B1.out.cell 0)).mono ?_); rintro e w2 ⟨rfl, k2⟩; have K2 := Lib.hid (ktr K1.out k2); clear k2))
    go_ret2
    exact ⟨rfl, K2.out⟩

theorem some_run (w : World) : Calls Tryz.prog 47 #[] w fun e w' => e = .returned (.agg #[.int .i64 7, .int .i64 1, .int .i64 2, .int .i64 0, .int .i64 3, .int .i64 739935, .int .i64 100, .int .i64 0, .int .i64 0, .int .i64 0]) ∧ Kpt w w' := by
  have R1 := Lib.hid (Blk.made w #[.int .i64 0, .int .i64 0, .int .i64 0, .int .i64 0, .int .i64 0, .int .i64 0, .int .i64 0, .int .i64 0, .int .i64 0, .int .i64 0] 42)
  have K1 : Hid (Kpt w (w.alloc (.cells #[.int .i64 0, .int .i64 0, .int .i64 0, .int .i64 0, .int .i64 0, .int .i64 0, .int .i64 0, .int .i64 0, .int .i64 0, .int .i64 0] 42))) := (Kpt.refl w).alloc _
  go_enter Tryz.func47, Tryz.ntmps47
  go_wp2_with (refine wp_storeF rfl (.tmp 0) (.tmp 1) rfl w.heap.size _ _ rfl rfl R1.out rfl rfl (by simp [Value.oneCell']) ?_; intro w9 r9 k9 _; have R9 := Lib.hid r9; have K9 := Lib.hid (k9 _ _ K1.out (Nat.le_refl _)); clear r9 k9)
  exact bodyPost_ret (v := .agg #[.int .i64 7, .int .i64 1, .int .i64 2, .int .i64 0, .int .i64 3, .int .i64 739935, .int .i64 100, .int .i64 0, .int .i64 0, .int .i64 0]) (results_cell_row Tryz.results47 _ _ w.heap.size _ _ _ _ rfl R9.out Tryz.underlying42 rfl Tryz.sizeFail) rfl ⟨rfl, K9.out⟩

end Go.Proofs.YthaahebggboliaaGreat
