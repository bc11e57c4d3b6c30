/-
  Fails: what is paid for can neither be delivered nor bought, nor paid for again.
-/
import Derived.Test.YtbfeojdlaajpdaaFailG
namespace Go.Proofs.Ytbfeojdlaajpdaa
open Go.RowKit Go.Maps
set_option linter.unusedVariables false

/-- what holds of a fail all of which is paid -/
theorem paid_off {i f t c p d u x b y l : Int} (h : failE i f t c p d u x b y = 0) (hl : openV i f t c p d u x b y = l) : failE i f t c p d u x b (y + l) = 0 ∧ openV i f t c p d u x b (y + l) = 0 ∧ 0 ≤ y ∧ y ≤ 1073741824 ∧ 0 ≤ l ∧ l ≤ 1073741824 := by
  obtain ⟨h1, h2, h3, h4⟩ := fail_0 h
  obtain ⟨-, -, -, -, -, hu⟩ := fdue_t h1
  obtain ⟨hx, hb, hy⟩ := ftk_t h3
  unfold openV at hl
  rw [if_pos h] at hl
  have h5 : failE i f t c p d u x b (y + l) = 0 := fail_mk h1 h2 (ftk_mk ⟨hx, hb, by omega⟩) (by omega)
  refine ⟨h5, ?_, by omega, by omega, by omega, by omega⟩
  unfold openV
  rw [if_pos h5]; omega

set_option maxRecDepth 100000 in
set_option maxHeartbeats 4000000 in
theorem done_bad (i f t c p d u x b y n : Int) (w : World) (E l : Int) (hE : failE i f t c p d u x b y = E) (hl : openV i f t c p d u x b y = l) (h : E ≠ 0) :
    Calls Try.prog 13 #[.agg #[.int .i64 i, .int .i64 f, .int .i64 t, .int .i64 c, .int .i64 p, .int .i64 d, .int .i64 u, .int .i64 x, .int .i64 b, .int .i64 y], .int .i64 n] w fun e w' => e = .returned (.bool true) ∧ Kpt w w' := by
  have PY := Lib.hid (fun w => pay_bad i f t c p d u x b y w E l hE hl h)
  have z0 : (E != 0) = true := bne_iff_ne.2 h
  clear hE hl h
  go_enter Try.func13, Try.ntmps13
  go_wp2_with (first
    | (go_at_call 35; (with_reducible refine (PY.out _).mono ?_); rintro e u1 ⟨rfl, k1⟩; have K1 := Lib.hid (ktr ((Kpt.refl w).alloc (.cells #[.int .i64 i, .int .i64 f, .int .i64 t, .int .i64 c, .int .i64 p, .int .i64 d, .int .i64 u, .int .i64 x, .int .i64 b, .int .i64 y] 59)) k1); clear k1)
    | (refine wp_storeF rfl (.tmp 5) (.tmp 19) rfl u1.heap.size _ _ rfl rfl (Blk.made u1 #[.int .i64 0, .int .i64 0, .int .i64 0, .int .i64 0, .int .i64 0, .int .i64 0, .int .i64 0, .int .i64 0, .int .i64 0, .int .i64 0] 59) rfl rfl (by simp [Value.oneCell']) ?_; intro u2 r9 k9 o9; have K2 := Lib.hid (k9 _ _ (Kpt.alloc K1.out _) K1.out.size); have BP := Lib.hid r9; clear r9 k9 o9)
    | (go_at_call 43; (with_reducible refine (failBegun _).mono ?_); rintro e u3 ⟨rfl, k1⟩; have K3 := Lib.hid (ktr K2.out k1); have BP := Lib.hid (Blk.kpt BP.out k1); have q0 : World.cell? u3 ⟨u1.heap.size, 0, none⟩ = some (.int .i64 0) := BP.out.cell 0; have q1 : World.cell? u3 ⟨u1.heap.size, 1, none⟩ = some (.int .i64 0) := BP.out.cell 1; have q2 : World.cell? u3 ⟨u1.heap.size, 2, none⟩ = some (.int .i64 0) := BP.out.cell 2; have q3 : World.cell? u3 ⟨u1.heap.size, 3, none⟩ = some (.int .i64 0) := BP.out.cell 3; have q4 : World.cell? u3 ⟨u1.heap.size, 4, none⟩ = some (.int .i64 0) := BP.out.cell 4; have q5 : World.cell? u3 ⟨u1.heap.size, 5, none⟩ = some (.int .i64 0) := BP.out.cell 5; have q6 : World.cell? u3 ⟨u1.heap.size, 6, none⟩ = some (.int .i64 0) := BP.out.cell 6; have q7 : World.cell? u3 ⟨u1.heap.size, 7, none⟩ = some (.int .i64 0) := BP.out.cell 7; have q8 : World.cell? u3 ⟨u1.heap.size, 8, none⟩ = some (.int .i64 0) := BP.out.cell 8; have q9 : World.cell? u3 ⟨u1.heap.size, 9, none⟩ = some (.int .i64 0) := BP.out.cell 9; clear k1))
  go_ret
  exact ⟨rfl, K3.out⟩

set_option maxRecDepth 100000 in
set_option maxHeartbeats 4000000 in
theorem done_none (i f t c p d u x b y n : Int) (w : World) (hE : failE i f t c p d u x b y = 0) (hl : openV i f t c p d u x b y = 0) :
    Calls Try.prog 13 #[.agg #[.int .i64 i, .int .i64 f, .int .i64 t, .int .i64 c, .int .i64 p, .int .i64 d, .int .i64 u, .int .i64 x, .int .i64 b, .int .i64 y], .int .i64 n] w fun e w' => e = .returned (.bool true) ∧ Kpt w w' := by
  have PY := Lib.hid (fun w => pay_none i f t c p d u x b y w hE hl)
  clear hE hl
  go_enter Try.func13, Try.ntmps13
  go_wp2_with (first
    | (go_at_call 35; (with_reducible refine (PY.out _).mono ?_); rintro e u1 ⟨rfl, k1⟩; have K1 := Lib.hid (ktr ((Kpt.refl w).alloc (.cells #[.int .i64 i, .int .i64 f, .int .i64 t, .int .i64 c, .int .i64 p, .int .i64 d, .int .i64 u, .int .i64 x, .int .i64 b, .int .i64 y] 59)) k1); clear k1)
    | (refine wp_storeF rfl (.tmp 5) (.tmp 19) rfl u1.heap.size _ _ rfl rfl (Blk.made u1 #[.int .i64 0, .int .i64 0, .int .i64 0, .int .i64 0, .int .i64 0, .int .i64 0, .int .i64 0, .int .i64 0, .int .i64 0, .int .i64 0] 59) rfl rfl (by simp [Value.oneCell']) ?_; intro u2 r9 k9 o9; have K2 := Lib.hid (k9 _ _ (Kpt.alloc K1.out _) K1.out.size); have BP := Lib.hid r9; clear r9 k9 o9)
    | (go_at_call 43; (with_reducible refine (failBegun _).mono ?_); rintro e u3 ⟨rfl, k1⟩; have K3 := Lib.hid (ktr K2.out k1); have BP := Lib.hid (Blk.kpt BP.out k1); have q0 : World.cell? u3 ⟨u1.heap.size, 0, none⟩ = some (.int .i64 0) := BP.out.cell 0; have q1 : World.cell? u3 ⟨u1.heap.size, 1, none⟩ = some (.int .i64 0) := BP.out.cell 1; have q2 : World.cell? u3 ⟨u1.heap.size, 2, none⟩ = some (.int .i64 0) := BP.out.cell 2; have q3 : World.cell? u3 ⟨u1.heap.size, 3, none⟩ = some (.int .i64 0) := BP.out.cell 3; have q4 : World.cell? u3 ⟨u1.heap.size, 4, none⟩ = some (.int .i64 0) := BP.out.cell 4; have q5 : World.cell? u3 ⟨u1.heap.size, 5, none⟩ = some (.int .i64 0) := BP.out.cell 5; have q6 : World.cell? u3 ⟨u1.heap.size, 6, none⟩ = some (.int .i64 0) := BP.out.cell 6; have q7 : World.cell? u3 ⟨u1.heap.size, 7, none⟩ = some (.int .i64 0) := BP.out.cell 7; have q8 : World.cell? u3 ⟨u1.heap.size, 8, none⟩ = some (.int .i64 0) := BP.out.cell 8; have q9 : World.cell? u3 ⟨u1.heap.size, 9, none⟩ = some (.int .i64 0) := BP.out.cell 9; clear k1))
  go_ret
  exact ⟨rfl, K3.out⟩

set_option maxRecDepth 100000 in
set_option maxHeartbeats 4000000 in
theorem done_lo (i f t c p d u x b y n : Int) (w : World) (l : Int) (hE : failE i f t c p d u x b y = 0) (hl : openV i f t c p d u x b y = l) (h : l ≠ 0) (hn : n < 1) :
    Calls Try.prog 13 #[.agg #[.int .i64 i, .int .i64 f, .int .i64 t, .int .i64 c, .int .i64 p, .int .i64 d, .int .i64 u, .int .i64 x, .int .i64 b, .int .i64 y], .int .i64 n] w fun e w' => e = .returned (.bool true) ∧ Kpt w w' := by
  obtain ⟨g1, g2, g3, g4, g5, g6⟩ := paid_off hE hl
  have PY := Lib.hid (fun w => pay_ok i f t c p d u x b y w l hE hl h g3 g4 g5 g6)
  have PN := Lib.hid (fun w => pay_none i f t c p d u x b (y + l) w g1 g2)
  have ht : takeE (failE i f t c p d u x b (y + l)) (openV i f t c p d u x b (y + l)) n = 3 := by rw [g1, g2]; unfold takeE; rw [if_pos rfl, if_pos (.inl hn)]
  have DL := Lib.hid (fun w => deliver_bad i f t c p d u x b (y + l) n 3 w ht (by decide))
  have BU := Lib.hid (fun w => buy_bad i f t c p d u x b (y + l) n 3 w ht (by decide))
  have y1 : decide (n < 1) = true := decide_eq_true hn
  have lp : 0 < l := by omega
  have lp2 : decide (0 < l) = true := decide_eq_true lp
  clear hE hl h g1 g2 ht
  go_enter Try.func13, Try.ntmps13
  go_wp2_with (first
    | (go_at_call 35; (with_reducible refine (PY.out _).mono ?_); rintro e u1 ⟨rfl, k1⟩; have K1 := Lib.hid (ktr ((Kpt.refl w).alloc (.cells #[.int .i64 i, .int .i64 f, .int .i64 t, .int .i64 c, .int .i64 p, .int .i64 d, .int .i64 u, .int .i64 x, .int .i64 b, .int .i64 y] 59)) k1); clear k1)
    | (refine wp_storeF rfl (.tmp 5) (.tmp 19) rfl u1.heap.size _ _ rfl rfl (Blk.made u1 #[.int .i64 0, .int .i64 0, .int .i64 0, .int .i64 0, .int .i64 0, .int .i64 0, .int .i64 0, .int .i64 0, .int .i64 0, .int .i64 0] 59) rfl rfl (by simp [Value.oneCell']) ?_; intro u2 r9 k9 o9; have K2 := Lib.hid (k9 _ _ (Kpt.alloc K1.out _) K1.out.size); have BP := Lib.hid r9; clear r9 k9 o9)
    | (go_at_call 43; (with_reducible refine (failBegun _).mono ?_); rintro e u3 ⟨rfl, k1⟩; have K3 := Lib.hid (ktr K2.out k1); have BP := Lib.hid (Blk.kpt BP.out k1); clear k1)
    | (refine wp_loadF rfl (.tmp 5) rfl u1.heap.size _ rfl BP.out rfl ?_)
    | (go_at_call 33; (with_reducible refine (DL.out _).mono ?_); rintro e u4 ⟨rfl, k1⟩; have K4 := Lib.hid (ktr K3.out k1); have BP := Lib.hid (Blk.kpt BP.out k1); clear k1)
    | (refine wp_storeF rfl (.tmp 8) (.tmp 37) rfl u4.heap.size _ _ rfl rfl (Blk.made u4 #[.int .i64 0, .int .i64 0, .int .i64 0, .int .i64 0, .int .i64 0, .int .i64 0, .int .i64 0, .int .i64 0, .int .i64 0, .int .i64 0] 59) rfl rfl (by simp [Value.oneCell']) ?_; intro u5 r9 k9 o9; have K5 := Lib.hid (k9 _ _ (Kpt.alloc K4.out _) K4.out.size); have BP : Hid (Blk u5 u1.heap.size #[.int .i64 i, .int .i64 f, .int .i64 t, .int .i64 c, .int .i64 p, .int .i64 d, .int .i64 u, .int .i64 x, .int .i64 b, .int .i64 (y + l)] 59) := Blk.block (Blk.alloc BP.out _) (o9 _ (by have := BP.out.lt; omega)); clear r9 k9 o9)
    | (go_at_call 34; (with_reducible refine (BU.out _).mono ?_); rintro e u6 ⟨rfl, k1⟩; have K6 := Lib.hid (ktr K5.out k1); have BP := Lib.hid (Blk.kpt BP.out k1); clear k1)
    | (refine wp_storeF rfl (.tmp 10) (.tmp 43) rfl u6.heap.size _ _ rfl rfl (Blk.made u6 #[.int .i64 0, .int .i64 0, .int .i64 0, .int .i64 0, .int .i64 0, .int .i64 0, .int .i64 0, .int .i64 0, .int .i64 0, .int .i64 0] 59) rfl rfl (by simp [Value.oneCell']) ?_; intro u7 r9 k9 o9; have K7 := Lib.hid (k9 _ _ (Kpt.alloc K6.out _) K6.out.size); have BP : Hid (Blk u7 u1.heap.size #[.int .i64 i, .int .i64 f, .int .i64 t, .int .i64 c, .int .i64 p, .int .i64 d, .int .i64 u, .int .i64 x, .int .i64 b, .int .i64 (y + l)] 59) := Blk.block (Blk.alloc BP.out _) (o9 _ (by have := BP.out.lt; omega)); clear r9 k9 o9)
    | (go_at_call 35; (with_reducible refine (PN.out _).mono ?_); rintro e u8 ⟨rfl, k1⟩; have K8 := Lib.hid (ktr K7.out k1); have BP := Lib.hid (Blk.kpt BP.out k1); clear k1)
    | (refine wp_storeF rfl (.tmp 12) (.tmp 48) rfl u8.heap.size _ _ rfl rfl (Blk.made u8 #[.int .i64 0, .int .i64 0, .int .i64 0, .int .i64 0, .int .i64 0, .int .i64 0, .int .i64 0, .int .i64 0, .int .i64 0, .int .i64 0] 59) rfl rfl (by simp [Value.oneCell']) ?_; intro u9 r9 k9 o9; have K9 := Lib.hid (k9 _ _ (Kpt.alloc K8.out _) K8.out.size); have BP : Hid (Blk u9 u1.heap.size #[.int .i64 i, .int .i64 f, .int .i64 t, .int .i64 c, .int .i64 p, .int .i64 d, .int .i64 u, .int .i64 x, .int .i64 b, .int .i64 (y + l)] 59) := Blk.block (Blk.alloc BP.out _) (o9 _ (by have := BP.out.lt; omega)); clear r9 k9 o9))
  go_ret
  exact ⟨rfl, K9.out⟩

set_option maxRecDepth 100000 in
set_option maxHeartbeats 4000000 in
theorem done_hi (i f t c p d u x b y n : Int) (w : World) (l : Int) (hE : failE i f t c p d u x b y = 0) (hl : openV i f t c p d u x b y = l) (h : l ≠ 0) (hn : 1073741824 < n) :
    Calls Try.prog 13 #[.agg #[.int .i64 i, .int .i64 f, .int .i64 t, .int .i64 c, .int .i64 p, .int .i64 d, .int .i64 u, .int .i64 x, .int .i64 b, .int .i64 y], .int .i64 n] w fun e w' => e = .returned (.bool true) ∧ Kpt w w' := by
  obtain ⟨g1, g2, g3, g4, g5, g6⟩ := paid_off hE hl
  have PY := Lib.hid (fun w => pay_ok i f t c p d u x b y w l hE hl h g3 g4 g5 g6)
  have PN := Lib.hid (fun w => pay_none i f t c p d u x b (y + l) w g1 g2)
  have ht : takeE (failE i f t c p d u x b (y + l)) (openV i f t c p d u x b (y + l)) n = 3 := by rw [g1, g2]; unfold takeE; rw [if_pos rfl, if_pos (.inr hn)]
  have DL := Lib.hid (fun w => deliver_bad i f t c p d u x b (y + l) n 3 w ht (by decide))
  have BU := Lib.hid (fun w => buy_bad i f t c p d u x b (y + l) n 3 w ht (by decide))
  have y1 : decide (n < 1) = false := decide_eq_false (by omega)
  have y2 : decide (1073741824 < n) = true := decide_eq_true hn
  have y3 : ¬ n < 1 := by omega
  have lp : 0 < l := by omega
  have lp2 : decide (0 < l) = true := decide_eq_true lp
  clear hE hl h g1 g2 ht
  go_enter Try.func13, Try.ntmps13
  go_wp2_with (first
    | (go_at_call 35; (with_reducible refine (PY.out _).mono ?_); rintro e u1 ⟨rfl, k1⟩; have K1 := Lib.hid (ktr ((Kpt.refl w).alloc (.cells #[.int .i64 i, .int .i64 f, .int .i64 t, .int .i64 c, .int .i64 p, .int .i64 d, .int .i64 u, .int .i64 x, .int .i64 b, .int .i64 y] 59)) k1); clear k1)
    | (refine wp_storeF rfl (.tmp 5) (.tmp 19) rfl u1.heap.size _ _ rfl rfl (Blk.made u1 #[.int .i64 0, .int .i64 0, .int .i64 0, .int .i64 0, .int .i64 0, .int .i64 0, .int .i64 0, .int .i64 0, .int .i64 0, .int .i64 0] 59) rfl rfl (by simp [Value.oneCell']) ?_; intro u2 r9 k9 o9; have K2 := Lib.hid (k9 _ _ (Kpt.alloc K1.out _) K1.out.size); have BP := Lib.hid r9; clear r9 k9 o9)
    | (go_at_call 43; (with_reducible refine (failBegun _).mono ?_); rintro e u3 ⟨rfl, k1⟩; have K3 := Lib.hid (ktr K2.out k1); have BP := Lib.hid (Blk.kpt BP.out k1); clear k1)
    | (refine wp_loadF rfl (.tmp 5) rfl u1.heap.size _ rfl BP.out rfl ?_)
    | (go_at_call 33; (with_reducible refine (DL.out _).mono ?_); rintro e u4 ⟨rfl, k1⟩; have K4 := Lib.hid (ktr K3.out k1); have BP := Lib.hid (Blk.kpt BP.out k1); clear k1)
    | (refine wp_storeF rfl (.tmp 8) (.tmp 37) rfl u4.heap.size _ _ rfl rfl (Blk.made u4 #[.int .i64 0, .int .i64 0, .int .i64 0, .int .i64 0, .int .i64 0, .int .i64 0, .int .i64 0, .int .i64 0, .int .i64 0, .int .i64 0] 59) rfl rfl (by simp [Value.oneCell']) ?_; intro u5 r9 k9 o9; have K5 := Lib.hid (k9 _ _ (Kpt.alloc K4.out _) K4.out.size); have BP : Hid (Blk u5 u1.heap.size #[.int .i64 i, .int .i64 f, .int .i64 t, .int .i64 c, .int .i64 p, .int .i64 d, .int .i64 u, .int .i64 x, .int .i64 b, .int .i64 (y + l)] 59) := Blk.block (Blk.alloc BP.out _) (o9 _ (by have := BP.out.lt; omega)); clear r9 k9 o9)
    | (go_at_call 34; (with_reducible refine (BU.out _).mono ?_); rintro e u6 ⟨rfl, k1⟩; have K6 := Lib.hid (ktr K5.out k1); have BP := Lib.hid (Blk.kpt BP.out k1); clear k1)
    | (refine wp_storeF rfl (.tmp 10) (.tmp 43) rfl u6.heap.size _ _ rfl rfl (Blk.made u6 #[.int .i64 0, .int .i64 0, .int .i64 0, .int .i64 0, .int .i64 0, .int .i64 0, .int .i64 0, .int .i64 0, .int .i64 0, .int .i64 0] 59) rfl rfl (by simp [Value.oneCell']) ?_; intro u7 r9 k9 o9; have K7 := Lib.hid (k9 _ _ (Kpt.alloc K6.out _) K6.out.size); have BP : Hid (Blk u7 u1.heap.size #[.int .i64 i, .int .i64 f, .int .i64 t, .int .i64 c, .int .i64 p, .int .i64 d, .int .i64 u, .int .i64 x, .int .i64 b, .int .i64 (y + l)] 59) := Blk.block (Blk.alloc BP.out _) (o9 _ (by have := BP.out.lt; omega)); clear r9 k9 o9)
    | (go_at_call 35; (with_reducible refine (PN.out _).mono ?_); rintro e u8 ⟨rfl, k1⟩; have K8 := Lib.hid (ktr K7.out k1); have BP := Lib.hid (Blk.kpt BP.out k1); clear k1)
    | (refine wp_storeF rfl (.tmp 12) (.tmp 48) rfl u8.heap.size _ _ rfl rfl (Blk.made u8 #[.int .i64 0, .int .i64 0, .int .i64 0, .int .i64 0, .int .i64 0, .int .i64 0, .int .i64 0, .int .i64 0, .int .i64 0, .int .i64 0] 59) rfl rfl (by simp [Value.oneCell']) ?_; intro u9 r9 k9 o9; have K9 := Lib.hid (k9 _ _ (Kpt.alloc K8.out _) K8.out.size); have BP : Hid (Blk u9 u1.heap.size #[.int .i64 i, .int .i64 f, .int .i64 t, .int .i64 c, .int .i64 p, .int .i64 d, .int .i64 u, .int .i64 x, .int .i64 b, .int .i64 (y + l)] 59) := Blk.block (Blk.alloc BP.out _) (o9 _ (by have := BP.out.lt; omega)); clear r9 k9 o9))
  go_ret
  exact ⟨rfl, K9.out⟩

set_option maxRecDepth 100000 in
set_option maxHeartbeats 4000000 in
theorem done_in (i f t c p d u x b y n : Int) (w : World) (l : Int) (hE : failE i f t c p d u x b y = 0) (hl : openV i f t c p d u x b y = l) (h : l ≠ 0) (hn : 1 ≤ n ∧ n ≤ 1073741824) :
    Calls Try.prog 13 #[.agg #[.int .i64 i, .int .i64 f, .int .i64 t, .int .i64 c, .int .i64 p, .int .i64 d, .int .i64 u, .int .i64 x, .int .i64 b, .int .i64 y], .int .i64 n] w fun e w' => e = .returned (.bool true) ∧ Kpt w w' := by
  obtain ⟨g1, g2, g3, g4, g5, g6⟩ := paid_off hE hl
  have PY := Lib.hid (fun w => pay_ok i f t c p d u x b y w l hE hl h g3 g4 g5 g6)
  have PN := Lib.hid (fun w => pay_none i f t c p d u x b (y + l) w g1 g2)
  have ht : takeE (failE i f t c p d u x b (y + l)) (openV i f t c p d u x b (y + l)) n = 5 := by rw [g1, g2]; unfold takeE; rw [if_pos rfl, if_neg (by omega), if_pos rfl]
  have DL := Lib.hid (fun w => deliver_bad i f t c p d u x b (y + l) n 5 w ht (by decide))
  have BU := Lib.hid (fun w => buy_bad i f t c p d u x b (y + l) n 5 w ht (by decide))
  have y1 : decide (n < 1) = false := decide_eq_false (by omega)
  have y2 : decide (1073741824 < n) = false := decide_eq_false (by omega)
  have y3 : ¬ n < 1 := by omega
  have y4 : ¬ 1073741824 < n := by omega
  have lp : 0 < l := by omega
  have lp2 : decide (0 < l) = true := decide_eq_true lp
  clear hE hl h g1 g2 ht
  go_enter Try.func13, Try.ntmps13
  go_wp2_with (first
    | (go_at_call 35; (with_reducible refine (PY.out _).mono ?_); rintro e u1 ⟨rfl, k1⟩; have K1 := Lib.hid (ktr ((Kpt.refl w).alloc (.cells #[.int .i64 i, .int .i64 f, .int .i64 t, .int .i64 c, .int .i64 p, .int .i64 d, .int .i64 u, .int .i64 x, .int .i64 b, .int .i64 y] 59)) k1); clear k1)
    | (refine wp_storeF rfl (.tmp 5) (.tmp 19) rfl u1.heap.size _ _ rfl rfl (Blk.made u1 #[.int .i64 0, .int .i64 0, .int .i64 0, .int .i64 0, .int .i64 0, .int .i64 0, .int .i64 0, .int .i64 0, .int .i64 0, .int .i64 0] 59) rfl rfl (by simp [Value.oneCell']) ?_; intro u2 r9 k9 o9; have K2 := Lib.hid (k9 _ _ (Kpt.alloc K1.out _) K1.out.size); have BP := Lib.hid r9; clear r9 k9 o9)
    | (go_at_call 43; (with_reducible refine (failBegun _).mono ?_); rintro e u3 ⟨rfl, k1⟩; have K3 := Lib.hid (ktr K2.out k1); have BP := Lib.hid (Blk.kpt BP.out k1); clear k1)
    | (refine wp_loadF rfl (.tmp 5) rfl u1.heap.size _ rfl BP.out rfl ?_)
    | (go_at_call 33; (with_reducible refine (DL.out _).mono ?_); rintro e u4 ⟨rfl, k1⟩; have K4 := Lib.hid (ktr K3.out k1); have BP := Lib.hid (Blk.kpt BP.out k1); clear k1)
    | (refine wp_storeF rfl (.tmp 8) (.tmp 37) rfl u4.heap.size _ _ rfl rfl (Blk.made u4 #[.int .i64 0, .int .i64 0, .int .i64 0, .int .i64 0, .int .i64 0, .int .i64 0, .int .i64 0, .int .i64 0, .int .i64 0, .int .i64 0] 59) rfl rfl (by simp [Value.oneCell']) ?_; intro u5 r9 k9 o9; have K5 := Lib.hid (k9 _ _ (Kpt.alloc K4.out _) K4.out.size); have BP : Hid (Blk u5 u1.heap.size #[.int .i64 i, .int .i64 f, .int .i64 t, .int .i64 c, .int .i64 p, .int .i64 d, .int .i64 u, .int .i64 x, .int .i64 b, .int .i64 (y + l)] 59) := Blk.block (Blk.alloc BP.out _) (o9 _ (by have := BP.out.lt; omega)); clear r9 k9 o9)
    | (go_at_call 34; (with_reducible refine (BU.out _).mono ?_); rintro e u6 ⟨rfl, k1⟩; have K6 := Lib.hid (ktr K5.out k1); have BP := Lib.hid (Blk.kpt BP.out k1); clear k1)
    | (refine wp_storeF rfl (.tmp 10) (.tmp 43) rfl u6.heap.size _ _ rfl rfl (Blk.made u6 #[.int .i64 0, .int .i64 0, .int .i64 0, .int .i64 0, .int .i64 0, .int .i64 0, .int .i64 0, .int .i64 0, .int .i64 0, .int .i64 0] 59) rfl rfl (by simp [Value.oneCell']) ?_; intro u7 r9 k9 o9; have K7 := Lib.hid (k9 _ _ (Kpt.alloc K6.out _) K6.out.size); have BP : Hid (Blk u7 u1.heap.size #[.int .i64 i, .int .i64 f, .int .i64 t, .int .i64 c, .int .i64 p, .int .i64 d, .int .i64 u, .int .i64 x, .int .i64 b, .int .i64 (y + l)] 59) := Blk.block (Blk.alloc BP.out _) (o9 _ (by have := BP.out.lt; omega)); clear r9 k9 o9)
    | (go_at_call 35; (with_reducible refine (PN.out _).mono ?_); rintro e u8 ⟨rfl, k1⟩; have K8 := Lib.hid (ktr K7.out k1); have BP := Lib.hid (Blk.kpt BP.out k1); clear k1)
    | (refine wp_storeF rfl (.tmp 12) (.tmp 48) rfl u8.heap.size _ _ rfl rfl (Blk.made u8 #[.int .i64 0, .int .i64 0, .int .i64 0, .int .i64 0, .int .i64 0, .int .i64 0, .int .i64 0, .int .i64 0, .int .i64 0, .int .i64 0] 59) rfl rfl (by simp [Value.oneCell']) ?_; intro u9 r9 k9 o9; have K9 := Lib.hid (k9 _ _ (Kpt.alloc K8.out _) K8.out.size); have BP : Hid (Blk u9 u1.heap.size #[.int .i64 i, .int .i64 f, .int .i64 t, .int .i64 c, .int .i64 p, .int .i64 d, .int .i64 u, .int .i64 x, .int .i64 b, .int .i64 (y + l)] 59) := Blk.block (Blk.alloc BP.out _) (o9 _ (by have := BP.out.lt; omega)); clear r9 k9 o9))
  go_ret
  exact ⟨rfl, K9.out⟩

theorem failDone_walk (i f t c p d u x b y n : Int) (w : World) :
    Calls Try.prog 13 #[.agg #[.int .i64 i, .int .i64 f, .int .i64 t, .int .i64 c, .int .i64 p, .int .i64 d, .int .i64 u, .int .i64 x, .int .i64 b, .int .i64 y], .int .i64 n] w fun e w' => e = .returned (.bool true) ∧ Kpt w w' := by
  by_cases hE : failE i f t c p d u x b y = 0
  · by_cases hl : openV i f t c p d u x b y = 0
    · exact done_none i f t c p d u x b y n w hE hl
    · by_cases h1 : n < 1
      · exact done_lo i f t c p d u x b y n w _ hE rfl hl h1
      · by_cases h2 : 1073741824 < n
        · exact done_hi i f t c p d u x b y n w _ hE rfl hl h2
        · exact done_in i f t c p d u x b y n w _ hE rfl hl ⟨by omega, by omega⟩
  · exact done_bad i f t c p d u x b y n w _ _ rfl rfl hE

end Go.Proofs.Ytbfeojdlaajpdaa
