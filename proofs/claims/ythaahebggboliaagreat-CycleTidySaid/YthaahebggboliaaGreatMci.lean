/-
  Merged: FailG, LawCI.
-/
import Derived.Test.YthaahebggboliaaGreatMf2
import Derived.Test.YthaahebggboliaaGreatMcr
import Derived.Test.YthaahebggboliaaGreatMsw
import Derived.Test.YthaahebggboliaaGreatMca
import Derived.Test.YthaahebggboliaaGreatMp3
-- FailG
namespace Go.Proofs.YthaahebggboliaaGreat
open Go.RowKit Go.Maps
set_option linter.unusedVariables false

theorem readsF_made {w : World} {cs : Array Value} {fs : List (List Int)} (hm : fs.length ≤ maxLen) (hb : ∀ l ∈ fs, FlB l) (h : ∀ k, k < fs.length → ∀ j, j < 10 → cs[k * 10 + j]? = some (.int .i64 ((fs.getD k []).getD j 0))) (cap : Nat) :
    ReadsF (w.alloc (.cells cs 42)) (.slice (some ⟨w.heap.size, 0, none⟩) fs.length cap) fs :=
  ⟨_, cap, rfl, hm, hb, fun k hk => ⟨_, _, rfl, fun j hj => by
    rw [Nat.zero_add, cell_of_row _ _ _ cs _ (0, 0) (heap_alloc_new w _)]
    exact h k hk j hj⟩⟩
theorem b0 : FlB [7, 1, 2, 0, 3, 739935, 100, 0, 0, 0] := by unfold FlB; decide
theorem b1 : FlB [7, 1, 2, 0, 3, 739935, 100, 30, 0, 0] := by unfold FlB; decide
theorem b2 : FlB [7, 1, 2, 0, 3, 739935, 100, 30, 50, 0] := by unfold FlB; decide
theorem fb_1 (w : World) : Calls Tryz.prog 76 #[.agg #[.int .i64 7, .int .i64 1, .int .i64 2, .int .i64 0, .int .i64 3, .int .i64 739935, .int .i64 100, .int .i64 0, .int .i64 0, .int .i64 0], .int .i64 30] w fun e w' => e = .returned (.tuple #[.agg #[.int .i64 7, .int .i64 1, .int .i64 2, .int .i64 0, .int .i64 3, .int .i64 739935, .int .i64 100, .int .i64 30, .int .i64 0, .int .i64 0], .int .i64 0]) ∧ Kpt w w' :=
  deliver_ok 7 1 2 0 3 739935 100 0 0 0 30 w (by decide) (by decide) (by decide) (by decide) (by decide)
theorem fb_2 (w : World) : Calls Tryz.prog 77 #[.agg #[.int .i64 7, .int .i64 1, .int .i64 2, .int .i64 0, .int .i64 3, .int .i64 739935, .int .i64 100, .int .i64 30, .int .i64 0, .int .i64 0], .int .i64 50] w fun e w' => e = .returned (.tuple #[.agg #[.int .i64 7, .int .i64 1, .int .i64 2, .int .i64 0, .int .i64 3, .int .i64 739935, .int .i64 100, .int .i64 30, .int .i64 50, .int .i64 0], .int .i64 0]) ∧ Kpt w w' :=
  buy_ok 7 1 2 0 3 739935 100 30 0 0 50 w (by decide) (by decide) (by decide) (by decide) (by decide)
theorem fb_3 (w : World) : Calls Tryz.prog 78 #[.agg #[.int .i64 7, .int .i64 1, .int .i64 2, .int .i64 0, .int .i64 3, .int .i64 739935, .int .i64 100, .int .i64 30, .int .i64 50, .int .i64 0]] w fun e w' => e = .returned (.tuple #[.agg #[.int .i64 7, .int .i64 1, .int .i64 2, .int .i64 0, .int .i64 3, .int .i64 739935, .int .i64 100, .int .i64 30, .int .i64 50, .int .i64 20], .int .i64 20, .int .i64 0]) ∧ Kpt w w' :=
  pay_ok 7 1 2 0 3 739935 100 30 50 0 w 20 (by decide) (by decide) (by decide) (by decide) (by decide) (by decide) (by decide)
theorem fb_4 (w : World) : Calls Tryz.prog 34 #[.agg #[.int .i64 7, .int .i64 1, .int .i64 2, .int .i64 0, .int .i64 3, .int .i64 739935, .int .i64 100, .int .i64 30, .int .i64 50, .int .i64 0]] w fun e w' => e = .returned (.tuple #[.int .i64 20, .int .i64 0]) ∧ Kpt w w' := by
  have := fopenX_run 7 1 2 0 3 739935 100 30 50 0 w
  rwa [show openV 7 1 2 0 3 739935 100 30 50 0 = 20 by decide, show failE 7 1 2 0 3 739935 100 30 50 0 = 0 by decide] at this
theorem fb_5 (w : World) (H : Nat) (hH : w.heap.size = H) : Calls Tryz.prog 36 #[.slice (some ⟨H, 0, none⟩) 1 1, .int .i64 7] (w.alloc (.cells #[.int .i64 7, .int .i64 1, .int .i64 2, .int .i64 0, .int .i64 3, .int .i64 739935, .int .i64 100, .int .i64 0, .int .i64 0, .int .i64 0] 42)) fun e w' => e = .returned (.tuple #[.int .i64 0, .int .i64 0]) ∧ Kpt (w.alloc (.cells #[.int .i64 7, .int .i64 1, .int .i64 2, .int .i64 0, .int .i64 3, .int .i64 739935, .int .i64 100, .int .i64 0, .int .i64 0, .int .i64 0] 42)) w' := by
  subst hH
  have hr := readsF_made (w := w) (cs := #[.int .i64 7, .int .i64 1, .int .i64 2, .int .i64 0, .int .i64 3, .int .i64 739935, .int .i64 100, .int .i64 0, .int .i64 0, .int .i64 0]) (fs := [[7, 1, 2, 0, 3, 739935, 100, 0, 0, 0]]) (by unfold maxLen; decide) (by intro l hl; rw [List.mem_singleton.1 hl]; exact b0) (by
    intro k hk j hj
    have : k = 0 := by simp at hk; exact hk
    subst this
    rcases (show j = 0 ∨ j = 1 ∨ j = 2 ∨ j = 3 ∨ j = 4 ∨ j = 5 ∨ j = 6 ∨ j = 7 ∨ j = 8 ∨ j = 9 by omega) with rfl | rfl | rfl | rfl | rfl | rfl | rfl | rfl | rfl | rfl <;> rfl) 1
  have := (find_run _ _ 7 _ hr).2.2 (by decide +kernel) (by decide +kernel)
  rwa [show idxF 7 [[7, 1, 2, 0, 3, 739935, 100, 0, 0, 0]] 0 = 0 by decide +kernel] at this
theorem fb_6 (w : World) : Calls Tryz.prog 76 #[.agg #[.int .i64 7, .int .i64 1, .int .i64 2, .int .i64 0, .int .i64 3, .int .i64 739935, .int .i64 100, .int .i64 30, .int .i64 50, .int .i64 0], .int .i64 21] w fun e w' => e = .returned (.tuple #[.agg #[.int .i64 0, .int .i64 0, .int .i64 0, .int .i64 0, .int .i64 0, .int .i64 0, .int .i64 0, .int .i64 0, .int .i64 0, .int .i64 0], .int .i64 8]) ∧ Kpt w w' :=
  deliver_bad 7 1 2 0 3 739935 100 30 50 0 21 8 w (by decide) (by decide)
theorem fb_7 (w : World) : Calls Tryz.prog 76 #[.agg #[.int .i64 7, .int .i64 1, .int .i64 2, .int .i64 0, .int .i64 3, .int .i64 739935, .int .i64 100, .int .i64 30, .int .i64 50, .int .i64 20], .int .i64 1] w fun e w' => e = .returned (.tuple #[.agg #[.int .i64 0, .int .i64 0, .int .i64 0, .int .i64 0, .int .i64 0, .int .i64 0, .int .i64 0, .int .i64 0, .int .i64 0, .int .i64 0], .int .i64 5]) ∧ Kpt w w' :=
  deliver_bad 7 1 2 0 3 739935 100 30 50 20 1 5 w (by decide) (by decide)
theorem fb_8 (w : World) : Calls Tryz.prog 79 #[.agg #[.int .i64 0, .int .i64 0, .int .i64 0, .int .i64 0, .int .i64 0, .int .i64 0, .int .i64 0, .int .i64 0, .int .i64 0, .int .i64 0]] w fun e w' => e = .returned (.int .i64 3) ∧ Kpt w w' := by
  have := fcheck_run 0 0 0 0 0 0 0 0 0 0 w
  rwa [show failE 0 0 0 0 0 0 0 0 0 0 = 3 by decide] at this
theorem fb_9 (w : World) (H : Nat) (hH : w.heap.size = H) : Calls Tryz.prog 56 #[.slice (some ⟨H, 0, none⟩) 2 2] (w.alloc (.cells #[.int .i64 7, .int .i64 1, .int .i64 2, .int .i64 0, .int .i64 3, .int .i64 739935, .int .i64 100, .int .i64 30, .int .i64 0, .int .i64 0, .int .i64 7, .int .i64 1, .int .i64 2, .int .i64 0, .int .i64 3, .int .i64 739935, .int .i64 100, .int .i64 30, .int .i64 50, .int .i64 0] 42)) fun e w' => e = .returned (.int .i64 6) ∧ Kpt (w.alloc (.cells #[.int .i64 7, .int .i64 1, .int .i64 2, .int .i64 0, .int .i64 3, .int .i64 739935, .int .i64 100, .int .i64 30, .int .i64 0, .int .i64 0, .int .i64 7, .int .i64 1, .int .i64 2, .int .i64 0, .int .i64 3, .int .i64 739935, .int .i64 100, .int .i64 30, .int .i64 50, .int .i64 0] 42)) w' := by
  subst hH
  have hr := readsF_made (w := w) (cs := #[.int .i64 7, .int .i64 1, .int .i64 2, .int .i64 0, .int .i64 3, .int .i64 739935, .int .i64 100, .int .i64 30, .int .i64 0, .int .i64 0, .int .i64 7, .int .i64 1, .int .i64 2, .int .i64 0, .int .i64 3, .int .i64 739935, .int .i64 100, .int .i64 30, .int .i64 50, .int .i64 0]) (fs := [[7, 1, 2, 0, 3, 739935, 100, 30, 0, 0], [7, 1, 2, 0, 3, 739935, 100, 30, 50, 0]]) (by unfold maxLen; decide) (by
    intro l hl
    simp only [List.mem_cons, List.not_mem_nil, or_false] at hl
    rcases hl with rfl | rfl
    · exact b1
    · exact b2) (by
    intro k hk j hj
    rcases (show k = 0 ∨ k = 1 by simp at hk; omega) with rfl | rfl
    · rcases (show j = 0 ∨ j = 1 ∨ j = 2 ∨ j = 3 ∨ j = 4 ∨ j = 5 ∨ j = 6 ∨ j = 7 ∨ j = 8 ∨ j = 9 by omega) with rfl | rfl | rfl | rfl | rfl | rfl | rfl | rfl | rfl | rfl <;> rfl
    · rcases (show j = 0 ∨ j = 1 ∨ j = 2 ∨ j = 3 ∨ j = 4 ∨ j = 5 ∨ j = 6 ∨ j = 7 ∨ j = 8 ∨ j = 9 by omega) with rfl | rfl | rfl | rfl | rfl | rfl | rfl | rfl | rfl | rfl <;> rfl) 2
  have := checks_run _ _ _ hr
  rwa [show checksE [[7, 1, 2, 0, 3, 739935, 100, 30, 0, 0], [7, 1, 2, 0, 3, 739935, 100, 30, 50, 0]] = 6 by decide +kernel] at this

set_option maxRecDepth 100000 in
set_option maxHeartbeats 8000000 in
theorem failBegun (w : World) : Calls Tryz.prog 32 #[] w fun e w' => e = .returned (.bool true) ∧ Kpt w w' := by
  go_enter Tryz.func32, Tryz.ntmps32
  go_wp2_with (first
    | (go_at_call 47; (with_reducible refine (some_run _).mono ?_); rintro e w1 ⟨rfl, k1⟩; have K1 := Lib.hid (ktr (Kpt.refl w) k1); clear k1)
    | (go_at_call 76; (with_reducible refine (fb_1 _).mono ?_); rintro e w2 ⟨rfl, k1⟩; have K2 := Lib.hid (ktr K1.out k1); clear k1)
    | (refine wp_storeF rfl (.tmp 1) (.tmp 19) rfl w2.heap.size _ _ rfl rfl (Blk.made w2 #[.int .i64 0, .int .i64 0, .int .i64 0, .int .i64 0, .int .i64 0, .int .i64 0, .int .i64 0, .int .i64 0, .int .i64 0, .int .i64 0] 42) rfl rfl (by simp [Value.oneCell']) ?_; intro w3 r9 k9 o9; have K3 := Lib.hid (k9 _ _ (K2.out.alloc _) K2.out.size); have BA := Lib.hid r9; clear r9 k9 o9)
    | (refine wp_loadF rfl (.tmp 1) rfl w2.heap.size _ rfl BA.out rfl ?_)
    | (go_at_call 77; (with_reducible refine (fb_2 _).mono ?_); rintro e w4 ⟨rfl, k1⟩; have K4 := Lib.hid (ktr K3.out k1); have BA := Lib.hid (Blk.kpt BA.out k1); clear k1)
    | (refine wp_storeF rfl (.tmp 3) (.tmp 24) rfl w4.heap.size _ _ rfl rfl (Blk.made w4 #[.int .i64 0, .int .i64 0, .int .i64 0, .int .i64 0, .int .i64 0, .int .i64 0, .int .i64 0, .int .i64 0, .int .i64 0, .int .i64 0] 42) rfl rfl (by simp [Value.oneCell']) ?_; intro w5 r9 k9 o9; have K5 := Lib.hid (k9 _ _ (K4.out.alloc _) K4.out.size); have BA : Hid (Blk w5 w2.heap.size #[.int .i64 7, .int .i64 1, .int .i64 2, .int .i64 0, .int .i64 3, .int .i64 739935, .int .i64 100, .int .i64 30, .int .i64 0, .int .i64 0] 42) := Blk.block (Blk.alloc BA.out _) (o9 _ (by have := BA.out.lt; omega)); have BB := Lib.hid r9; clear r9 k9 o9)
    | (refine wp_loadF rfl (.tmp 3) rfl w4.heap.size _ rfl BB.out rfl ?_)
    | (go_at_call 78; (with_reducible refine (fb_3 _).mono ?_); rintro e w6 ⟨rfl, k1⟩; have K6 := Lib.hid (ktr K5.out k1); have BA := Lib.hid (Blk.kpt BA.out k1); have BB := Lib.hid (Blk.kpt BB.out k1); clear k1)
    | (refine wp_storeF rfl (.tmp 5) (.tmp 29) rfl w6.heap.size _ _ rfl rfl (Blk.made w6 #[.int .i64 0, .int .i64 0, .int .i64 0, .int .i64 0, .int .i64 0, .int .i64 0, .int .i64 0, .int .i64 0, .int .i64 0, .int .i64 0] 42) rfl rfl (by simp [Value.oneCell']) ?_; intro w7 r9 k9 o9; have K7 := Lib.hid (k9 _ _ (K6.out.alloc _) K6.out.size); have BA : Hid (Blk w7 w2.heap.size #[.int .i64 7, .int .i64 1, .int .i64 2, .int .i64 0, .int .i64 3, .int .i64 739935, .int .i64 100, .int .i64 30, .int .i64 0, .int .i64 0] 42) := Blk.block (Blk.alloc BA.out _) (o9 _ (by have := BA.out.lt; omega)); have BB : Hid (Blk w7 w4.heap.size #[.int .i64 7, .int .i64 1, .int .i64 2, .int .i64 0, .int .i64 3, .int .i64 739935, .int .i64 100, .int .i64 30, .int .i64 50, .int .i64 0] 42) := Blk.block (Blk.alloc BB.out _) (o9 _ (by have := BB.out.lt; omega)); have BC := Lib.hid r9; clear r9 k9 o9)
    | (refine wp_loadF rfl (.tmp 5) rfl w6.heap.size _ rfl BC.out rfl ?_)
    | (go_at_call 34; (with_reducible refine (fb_4 _).mono ?_); rintro e w8 ⟨rfl, k1⟩; have K8 := Lib.hid (ktr K7.out k1); have BA := Lib.hid (Blk.kpt BA.out k1); have BB := Lib.hid (Blk.kpt BB.out k1); have BC := Lib.hid (Blk.kpt BC.out k1); clear k1)
    | (go_at_call 47; (with_reducible refine (some_run w8).mono ?_); rintro e w9 ⟨rfl, k1⟩; have K9 := Lib.hid (ktr K8.out k1); have BA := Lib.hid (Blk.kpt BA.out k1); have BB := Lib.hid (Blk.kpt BB.out k1); have BC := Lib.hid (Blk.kpt BC.out k1); clear k1)
    | (go_at_call 36; (with_reducible refine (fb_5 w9 _ rfl).mono ?_); rintro e w10 ⟨rfl, k1⟩; have K10 := Lib.hid (ktr (K9.out.alloc _) k1); have BA := Lib.hid (Blk.kpt (Blk.alloc BA.out _) k1); have BB := Lib.hid (Blk.kpt (Blk.alloc BB.out _) k1); have BC := Lib.hid (Blk.kpt (Blk.alloc BC.out _) k1); clear k1)
    | (go_at_call 76; (with_reducible refine (fb_6 _).mono ?_); rintro e w11 ⟨rfl, k1⟩; have K11 := Lib.hid (ktr K10.out k1); have BA := Lib.hid (Blk.kpt BA.out k1); have BB := Lib.hid (Blk.kpt BB.out k1); have BC := Lib.hid (Blk.kpt BC.out k1); clear k1)
    | (refine wp_storeF rfl (.tmp 12) (.tmp 46) rfl w11.heap.size _ _ rfl rfl (Blk.made w11 #[.int .i64 0, .int .i64 0, .int .i64 0, .int .i64 0, .int .i64 0, .int .i64 0, .int .i64 0, .int .i64 0, .int .i64 0, .int .i64 0] 42) rfl rfl (by simp [Value.oneCell']) ?_; intro w12 r9 k9 o9; have K12 := Lib.hid (k9 _ _ (K11.out.alloc _) K11.out.size); have BA : Hid (Blk w12 w2.heap.size #[.int .i64 7, .int .i64 1, .int .i64 2, .int .i64 0, .int .i64 3, .int .i64 739935, .int .i64 100, .int .i64 30, .int .i64 0, .int .i64 0] 42) := Blk.block (Blk.alloc BA.out _) (o9 _ (by have := BA.out.lt; omega)); have BB : Hid (Blk w12 w4.heap.size #[.int .i64 7, .int .i64 1, .int .i64 2, .int .i64 0, .int .i64 3, .int .i64 739935, .int .i64 100, .int .i64 30, .int .i64 50, .int .i64 0] 42) := Blk.block (Blk.alloc BB.out _) (o9 _ (by have := BB.out.lt; omega)); have BC : Hid (Blk w12 w6.heap.size #[.int .i64 7, .int .i64 1, .int .i64 2, .int .i64 0, .int .i64 3, .int .i64 739935, .int .i64 100, .int .i64 30, .int .i64 50, .int .i64 20] 42) := Blk.block (Blk.alloc BC.out _) (o9 _ (by have := BC.out.lt; omega)); clear r9 k9 o9)
    | (go_at_call 76; (with_reducible refine (fb_7 _).mono ?_); rintro e w13 ⟨rfl, k1⟩; have K13 := Lib.hid (ktr K12.out k1); have BA := Lib.hid (Blk.kpt BA.out k1); have BB := Lib.hid (Blk.kpt BB.out k1); have BC := Lib.hid (Blk.kpt BC.out k1); clear k1)
    | (refine wp_storeF rfl (.tmp 14) (.tmp 51) rfl w13.heap.size _ _ rfl rfl (Blk.made w13 #[.int .i64 0, .int .i64 0, .int .i64 0, .int .i64 0, .int .i64 0, .int .i64 0, .int .i64 0, .int .i64 0, .int .i64 0, .int .i64 0] 42) rfl rfl (by simp [Value.oneCell']) ?_; intro w14 r9 k9 o9; have K14 := Lib.hid (k9 _ _ (K13.out.alloc _) K13.out.size); have BA : Hid (Blk w14 w2.heap.size #[.int .i64 7, .int .i64 1, .int .i64 2, .int .i64 0, .int .i64 3, .int .i64 739935, .int .i64 100, .int .i64 30, .int .i64 0, .int .i64 0] 42) := Blk.block (Blk.alloc BA.out _) (o9 _ (by have := BA.out.lt; omega)); have BB : Hid (Blk w14 w4.heap.size #[.int .i64 7, .int .i64 1, .int .i64 2, .int .i64 0, .int .i64 3, .int .i64 739935, .int .i64 100, .int .i64 30, .int .i64 50, .int .i64 0] 42) := Blk.block (Blk.alloc BB.out _) (o9 _ (by have := BB.out.lt; omega)); have BC : Hid (Blk w14 w6.heap.size #[.int .i64 7, .int .i64 1, .int .i64 2, .int .i64 0, .int .i64 3, .int .i64 739935, .int .i64 100, .int .i64 30, .int .i64 50, .int .i64 20] 42) := Blk.block (Blk.alloc BC.out _) (o9 _ (by have := BC.out.lt; omega)); have ca : World.cell? w14 ⟨w2.heap.size, 7, none⟩ = some (.int .i64 30) := BA.out.cell 7; have cb : World.cell? w14 ⟨w4.heap.size, 8, none⟩ = some (.int .i64 50) := BB.out.cell 8; have cc : World.cell? w14 ⟨w6.heap.size, 9, none⟩ = some (.int .i64 20) := BC.out.cell 9; clear r9 k9 o9)
    | (go_at_call 79; (with_reducible refine (fb_8 _).mono ?_); rintro e w15 ⟨rfl, k1⟩; have K15 := Lib.hid (ktr K14.out k1); have BA := Lib.hid (Blk.kpt BA.out k1); have BB := Lib.hid (Blk.kpt BB.out k1); have BC := Lib.hid (Blk.kpt BC.out k1); have x0 : World.cell? w15 ⟨w2.heap.size, 0, none⟩ = some (.int .i64 7) := BA.out.cell 0; have y0 : World.cell? w15 ⟨w4.heap.size, 0, none⟩ = some (.int .i64 7) := BB.out.cell 0; have x1 : World.cell? w15 ⟨w2.heap.size, 1, none⟩ = some (.int .i64 1) := BA.out.cell 1; have y1 : World.cell? w15 ⟨w4.heap.size, 1, none⟩ = some (.int .i64 1) := BB.out.cell 1; have x2 : World.cell? w15 ⟨w2.heap.size, 2, none⟩ = some (.int .i64 2) := BA.out.cell 2; have y2 : World.cell? w15 ⟨w4.heap.size, 2, none⟩ = some (.int .i64 2) := BB.out.cell 2; have x3 : World.cell? w15 ⟨w2.heap.size, 3, none⟩ = some (.int .i64 0) := BA.out.cell 3; have y3 : World.cell? w15 ⟨w4.heap.size, 3, none⟩ = some (.int .i64 0) := BB.out.cell 3; have x4 : World.cell? w15 ⟨w2.heap.size, 4, none⟩ = some (.int .i64 3) := BA.out.cell 4; have y4 : World.cell? w15 ⟨w4.heap.size, 4, none⟩ = some (.int .i64 3) := BB.out.cell 4; have x5 : World.cell? w15 ⟨w2.heap.size, 5, none⟩ = some (.int .i64 739935) := BA.out.cell 5; have y5 : World.cell? w15 ⟨w4.heap.size, 5, none⟩ = some (.int .i64 739935) := BB.out.cell 5; have x6 : World.cell? w15 ⟨w2.heap.size, 6, none⟩ = some (.int .i64 100) := BA.out.cell 6; have y6 : World.cell? w15 ⟨w4.heap.size, 6, none⟩ = some (.int .i64 100) := BB.out.cell 6; have x7 : World.cell? w15 ⟨w2.heap.size, 7, none⟩ = some (.int .i64 30) := BA.out.cell 7; have y7 : World.cell? w15 ⟨w4.heap.size, 7, none⟩ = some (.int .i64 30) := BB.out.cell 7; have x8 : World.cell? w15 ⟨w2.heap.size, 8, none⟩ = some (.int .i64 0) := BA.out.cell 8; have y8 : World.cell? w15 ⟨w4.heap.size, 8, none⟩ = some (.int .i64 50) := BB.out.cell 8; have x9 : World.cell? w15 ⟨w2.heap.size, 9, none⟩ = some (.int .i64 0) := BA.out.cell 9; have y9 : World.cell? w15 ⟨w4.heap.size, 9, none⟩ = some (.int .i64 0) := BB.out.cell 9; clear k1)
    | (go_at_call 56; (with_reducible refine (fb_9 w15 _ rfl).mono ?_); rintro e w16 ⟨rfl, k1⟩; have K16 := Lib.hid (ktr (K15.out.alloc _) k1); clear k1))
  go_ret
  exact ⟨rfl, K16.out⟩

end Go.Proofs.YthaahebggboliaaGreat

-- LawCI
namespace Go.Proofs.YthaahebggboliaaGreat
open Go.RowKit Go.Sort Go.Lib
set_option linter.unusedVariables false

theorem own_cap {N : Nat} {T : TypeId} {w : World} {B n cap : Nat} {a : Option Addr} {fs : List (List Int)} (h : OwnsN N T w B (.slice a n cap) fs) : fs.length ≤ cap := by
  rcases h.2 with ⟨e, h0⟩ | ⟨g, c, cur, e, hg, hh, hn, _⟩
  · injection e with e1 e2 e3; omega
  · injection e with e1 e2 e3; omega
theorem eqlF (i f t c p d u x b y : Int) (w : World) : (binOp .eql 42 (.agg #[.int .i64 i, .int .i64 f, .int .i64 t, .int .i64 c, .int .i64 p, .int .i64 d, .int .i64 u, .int .i64 x, .int .i64 b, .int .i64 y]) (.agg #[.int .i64 i, .int .i64 f, .int .i64 t, .int .i64 c, .int .i64 p, .int .i64 d, .int .i64 u, .int .i64 x, .int .i64 b, .int .i64 y])).run Tryz.prog w = .ok (.bool true) w := by
  have u3 := Tryz.underlying3
  have hS : Tryz.prog.underlying 42 = some (.struct (Tryz.prog.fieldsOf 42)) := by kernel_rfl
  have hp : Tryz.prog.stoodInHeld 42 = false := by kernel_rfl
  have a3 : ∀ w, (isAgg 3).run Tryz.prog w = .ok false w := fun w => by kernel_rfl
  have h : ∀ w, (Op.equalIn (9999 + 1) 42 (.agg #[.int .i64 i, .int .i64 f, .int .i64 t, .int .i64 c, .int .i64 p, .int .i64 d, .int .i64 u, .int .i64 x, .int .i64 b, .int .i64 y]) (.agg #[.int .i64 i, .int .i64 f, .int .i64 t, .int .i64 c, .int .i64 p, .int .i64 d, .int .i64 u, .int .i64 x, .int .i64 b, .int .i64 y])).run Tryz.prog w = .ok true w := fun w => by
    rw [run_equalIn_agg w 9999 42 _ _ hS hp]
    simp only [Program.fieldsOf, Tryz.underlying42]
    go_simp
  simp only [binOp, Op.equal, Op.maxDepth, Sem.run_bind]
  rw [show (10000 : Nat) = 9999 + 1 from rfl, h]
  simp
theorem at_last {F : List (List Int)} {l : List Int} {n : Nat} (h : n = F.length) {w : World} {g : Nat} (hx : ∀ j u, (flatN 10 (F ++ [l]))[j]? = some u → w.cell? ⟨g, j, none⟩ = some u) : ∀ j, j < 10 → w.cell? ⟨g, n * 10 + j, none⟩ = some (.int .i64 (l.getD j 0)) := by
  intro j hj
  subst h
  have := hx (F.length * 10 + j) _ (flatN_at (F ++ [l]) F.length j (by simp) hj)
  rwa [show (F ++ [l]).getD F.length [] = l by simp [List.getD_eq_getElem?_getD]] at this
set_option maxRecDepth 100000 in
set_option maxHeartbeats 4000000 in
theorem cti_no (T p0 p1 p2 p3 p4 p5 p6 p7 p8 p9 : Int) (a : Option Addr) (c : Nat) (ab : Option Addr) (cb : Nat) (fs F D : List (List Int)) (b : List (Int × Int × Int)) (w : World) (E : Int) (hE : (E != 0) = true)
    (A1 : ∀ w', Kpt w w' → Calls Tryz.prog 22 #[.agg #[.int .i64 T, .slice a fs.length c, .slice ab b.length cb]] w' (TdRes w' E 0 [] [] [])) : Calls Tryz.prog 9 #[.agg #[.int .i64 T, .slice a fs.length c, .slice ab b.length cb], .agg #[.int .i64 p0, .int .i64 p1, .int .i64 p2, .int .i64 p3, .int .i64 p4, .int .i64 p5, .int .i64 p6, .int .i64 p7, .int .i64 p8, .int .i64 p9]] w fun e w' => e = .returned (.bool true) ∧ Kpt w w' := by
  obtain ⟨n, hn'⟩ : ∃ n, n = fs.length := ⟨_, rfl⟩
  rw [← hn'] at A1 ⊢
  have HN := Lib.hid hn'
  clear hn'
  obtain ⟨nF, hF'⟩ : ∃ n, n = F.length := ⟨_, rfl⟩
  obtain ⟨nD, hD'⟩ : ∃ n, n = D.length := ⟨_, rfl⟩
  have HNF := Lib.hid hF'
  have HND := Lib.hid hD'
  clear hF' hD'
  have K3 : Hid (Kpt w ((w.alloc (.cells #[.int .i64 T, .slice a n c, .slice ab b.length cb] 31)).alloc (.cells #[.int .i64 p0, .int .i64 p1, .int .i64 p2, .int .i64 p3, .int .i64 p4, .int .i64 p5, .int .i64 p6, .int .i64 p7, .int .i64 p8, .int .i64 p9] 42))) := ((Kpt.refl w).alloc _).alloc _
  have B3 : Hid (Blk ((w.alloc (.cells #[.int .i64 T, .slice a n c, .slice ab b.length cb] 31)).alloc (.cells #[.int .i64 p0, .int .i64 p1, .int .i64 p2, .int .i64 p3, .int .i64 p4, .int .i64 p5, .int .i64 p6, .int .i64 p7, .int .i64 p8, .int .i64 p9] 42)) w.heap.size #[.int .i64 T, .slice a n c, .slice ab b.length cb] 31) := (Blk.made w _ _).alloc _
  have B4 : Hid (Blk ((w.alloc (.cells #[.int .i64 T, .slice a n c, .slice ab b.length cb] 31)).alloc (.cells #[.int .i64 p0, .int .i64 p1, .int .i64 p2, .int .i64 p3, .int .i64 p4, .int .i64 p5, .int .i64 p6, .int .i64 p7, .int .i64 p8, .int .i64 p9] 42)) (w.heap.size + 1) #[.int .i64 p0, .int .i64 p1, .int .i64 p2, .int .i64 p3, .int .i64 p4, .int .i64 p5, .int .i64 p6, .int .i64 p7, .int .i64 p8, .int .i64 p9] 42) := by
    have := Blk.made (w.alloc (.cells #[.int .i64 T, .slice a n c, .slice ab b.length cb] 31)) #[.int .i64 p0, .int .i64 p1, .int .i64 p2, .int .i64 p3, .int .i64 p4, .int .i64 p5, .int .i64 p6, .int .i64 p7, .int .i64 p8, .int .i64 p9] 42
    rw [World.size_alloc] at this
    exact this
  go_enter Tryz.func9, Tryz.ntmps9
  go_wp2_with (first
    | (go_at_call 22; (with_reducible refine (A1 _ K3.out).mono ?_); rintro e w1 ⟨fv1, bv1, dv1, rfl, of1, ob1, od1, k1⟩; have K1 : Hid (Kpt w w1) := ktr K3.out k1; have KW1 : Hid (Kpt ((w.alloc (.cells #[.int .i64 T, .slice a n c, .slice ab b.length cb] 31)).alloc (.cells #[.int .i64 p0, .int .i64 p1, .int .i64 p2, .int .i64 p3, .int .i64 p4, .int .i64 p5, .int .i64 p6, .int .i64 p7, .int .i64 p8, .int .i64 p9] 42)) w1) := k1; have OF1 := Lib.hid of1; have OB1 := Lib.hid ob1; obtain ⟨a1, c1, rfl⟩ := formN 0 of1 rfl; obtain ⟨b1, d1, rfl⟩ := formQ 0 ob1 rfl; obtain ⟨g1, h1, rfl⟩ := formN 0 od1 rfl; have Z1 : Hid (Blk (w1.alloc (.cells #[.int .i64 0, .slice none 0 0, .slice none 0 0] 31)) w1.heap.size #[.int .i64 0, .slice none 0 0, .slice none 0 0] 31) := Blk.made _ _ _; have KZ1 : Hid (Kpt w (w1.alloc (.cells #[.int .i64 0, .slice none 0 0, .slice none 0 0] 31))) := K1.out.alloc _; clear of1 ob1 od1 k1 A1)
    | (refine wp_storeW rfl (.tmp 5) (.tmp 18) rfl w1.heap.size _ _ rfl rfl Z1.out rfl rfl (by simp [Value.oneCell']) ?_; intro w2 r9 k9 o9; have R2 := Lib.hid r9; have K2 : Hid (Kpt w w2) := k9 _ _ KZ1.out (Below.size K1.out); have KK2 : Hid (Kpt w1 w2) := k9 _ _ ((Kpt.refl w1).alloc _) (Nat.le_refl _); clear r9 k9 o9)
    | (go_at_call 13; (with_reducible refine (cycleBegun_run _).mono ?_); rintro e w2b ⟨rfl, k3⟩; have KKb : Hid (Kpt w2 w2b) := k3; clear k3)
    | (go_at_call 32; (with_reducible refine (failBegun _).mono ?_); rintro e w3 ⟨rfl, k3⟩; have KK23 : Hid (Kpt w2 w3) := ktr KKb.out k3; have K3b : Hid (Kpt w w3) := ktr K2.out KK23.out; have KK3 : Hid (Kpt w1 w3) := ktr KK2.out KK23.out;  clear k3)
    | fail)
  go_ret
  exact ⟨rfl, K3b.out⟩

set_option maxRecDepth 100000 in
set_option maxHeartbeats 4000000 in
theorem cti_no2 (T p0 p1 p2 p3 p4 p5 p6 p7 p8 p9 : Int) (a : Option Addr) (c : Nat) (ab : Option Addr) (cb : Nat) (fs F D : List (List Int)) (b : List (Int × Int × Int)) (w : World) (E : Int) (hE : (E != 0) = true)
    (FB : Hid (∀ l ∈ F, FlB l)) (IB : Hid (InP b)) (HL : Hid (fs.length ≤ 1000)) (HS : Hid (F.length + D.length = fs.length))
    (A1 : ∀ w', Kpt w w' → Calls Tryz.prog 22 #[.agg #[.int .i64 T, .slice a fs.length c, .slice ab b.length cb]] w' (TdRes w' 0 T F b D))
    (A2 : ∀ w' v1 b1, ReadsF w' v1 F → NilC v1 → ReadsP w' b1 b → Calls Tryz.prog 22 #[.agg #[.int .i64 T, v1, b1]] w' (TdRes w' 0 T F b []))
    (A3 : ∀ w' v1 b1, ReadsF w' v1 F → NilC v1 → ReadsP w' b1 b → Calls Tryz.prog 21 #[.agg #[.int .i64 T, v1, b1], .agg #[.int .i64 p0, .int .i64 p1, .int .i64 p2, .int .i64 p3, .int .i64 p4, .int .i64 p5, .int .i64 p6, .int .i64 p7, .int .i64 p8, .int .i64 p9]] w' (WdRes w' E 0 [] [])) : Calls Tryz.prog 9 #[.agg #[.int .i64 T, .slice a fs.length c, .slice ab b.length cb], .agg #[.int .i64 p0, .int .i64 p1, .int .i64 p2, .int .i64 p3, .int .i64 p4, .int .i64 p5, .int .i64 p6, .int .i64 p7, .int .i64 p8, .int .i64 p9]] w fun e w' => e = .returned (.bool true) ∧ Kpt w w' := by
  obtain ⟨n, hn'⟩ : ∃ n, n = fs.length := ⟨_, rfl⟩
  rw [← hn'] at A1 HL HS ⊢
  have HN := Lib.hid hn'
  clear hn'
  obtain ⟨nF, hF'⟩ : ∃ n, n = F.length := ⟨_, rfl⟩
  obtain ⟨nD, hD'⟩ : ∃ n, n = D.length := ⟨_, rfl⟩
  have HNF := Lib.hid hF'
  have HND := Lib.hid hD'
  clear hF' hD'
  have K3 : Hid (Kpt w ((w.alloc (.cells #[.int .i64 T, .slice a n c, .slice ab b.length cb] 31)).alloc (.cells #[.int .i64 p0, .int .i64 p1, .int .i64 p2, .int .i64 p3, .int .i64 p4, .int .i64 p5, .int .i64 p6, .int .i64 p7, .int .i64 p8, .int .i64 p9] 42))) := ((Kpt.refl w).alloc _).alloc _
  have B3 : Hid (Blk ((w.alloc (.cells #[.int .i64 T, .slice a n c, .slice ab b.length cb] 31)).alloc (.cells #[.int .i64 p0, .int .i64 p1, .int .i64 p2, .int .i64 p3, .int .i64 p4, .int .i64 p5, .int .i64 p6, .int .i64 p7, .int .i64 p8, .int .i64 p9] 42)) w.heap.size #[.int .i64 T, .slice a n c, .slice ab b.length cb] 31) := (Blk.made w _ _).alloc _
  have B4 : Hid (Blk ((w.alloc (.cells #[.int .i64 T, .slice a n c, .slice ab b.length cb] 31)).alloc (.cells #[.int .i64 p0, .int .i64 p1, .int .i64 p2, .int .i64 p3, .int .i64 p4, .int .i64 p5, .int .i64 p6, .int .i64 p7, .int .i64 p8, .int .i64 p9] 42)) (w.heap.size + 1) #[.int .i64 p0, .int .i64 p1, .int .i64 p2, .int .i64 p3, .int .i64 p4, .int .i64 p5, .int .i64 p6, .int .i64 p7, .int .i64 p8, .int .i64 p9] 42) := by
    have := Blk.made (w.alloc (.cells #[.int .i64 T, .slice a n c, .slice ab b.length cb] 31)) #[.int .i64 p0, .int .i64 p1, .int .i64 p2, .int .i64 p3, .int .i64 p4, .int .i64 p5, .int .i64 p6, .int .i64 p7, .int .i64 p8, .int .i64 p9] 42
    rw [World.size_alloc] at this
    exact this
  have ws : IntKind.i64.wrap ((nF : Int) + (nD : Int)) = (n : Int) := by
    have h1 : F.length + D.length = n := HS.out
    have h2 : nF = F.length := HNF.out
    have h3 : nD = D.length := HND.out
    have h4 : n ≤ 1000 := HL.out
    rw [IntWalk.i64_in _ (by omega)]
    omega
  go_enter Tryz.func9, Tryz.ntmps9
  go_wp2_with (first
    | (go_at_call 22; (with_reducible refine (A1 _ K3.out).mono ?_); rintro e w1 ⟨fv1, bv1, dv1, rfl, of1, ob1, od1, k1⟩; have K1 : Hid (Kpt w w1) := ktr K3.out k1; have KW1 : Hid (Kpt ((w.alloc (.cells #[.int .i64 T, .slice a n c, .slice ab b.length cb] 31)).alloc (.cells #[.int .i64 p0, .int .i64 p1, .int .i64 p2, .int .i64 p3, .int .i64 p4, .int .i64 p5, .int .i64 p6, .int .i64 p7, .int .i64 p8, .int .i64 p9] 42)) w1) := k1; have OF1 := Lib.hid of1; have OB1 := Lib.hid ob1; obtain ⟨a1, c1, rfl⟩ := formN nF of1 HNF.out.symm; obtain ⟨b1, d1, rfl⟩ := OwnsP.form ob1; obtain ⟨g1, h1, rfl⟩ := formN nD od1 HND.out.symm; have Z1 : Hid (Blk (w1.alloc (.cells #[.int .i64 0, .slice none 0 0, .slice none 0 0] 31)) w1.heap.size #[.int .i64 0, .slice none 0 0, .slice none 0 0] 31) := Blk.made _ _ _; have KZ1 : Hid (Kpt w (w1.alloc (.cells #[.int .i64 0, .slice none 0 0, .slice none 0 0] 31))) := K1.out.alloc _; clear of1 ob1 od1 k1 A1)
    | (refine wp_storeW rfl (.tmp 5) (.tmp 18) rfl w1.heap.size _ _ rfl rfl Z1.out rfl rfl (by simp [Value.oneCell']) ?_; intro w2 r9 k9 o9; have R2 := Lib.hid r9; have K2 : Hid (Kpt w w2) := k9 _ _ KZ1.out (Below.size K1.out); have KK2 : Hid (Kpt w1 w2) := k9 _ _ ((Kpt.refl w1).alloc _) (Nat.le_refl _); clear r9 k9 o9)
    | (go_at_call 13; (with_reducible refine (cycleBegun_run _).mono ?_); rintro e w2b ⟨rfl, k3⟩; have KKb : Hid (Kpt w2 w2b) := k3; clear k3)
    | (go_at_call 32; (with_reducible refine (failBegun _).mono ?_); rintro e w3 ⟨rfl, k3⟩; have KK23 : Hid (Kpt w2 w3) := ktr KKb.out k3; have K3b : Hid (Kpt w w3) := ktr K2.out KK23.out; have KK3 : Hid (Kpt w1 w3) := ktr KK2.out KK23.out;  have y0 : World.cell? w3 ⟨w1.heap.size, 0, none⟩ = some (.int .i64 T) := (Blk.kpt R2.out KK23.out).cell 0; have y1 : World.cell? w3 ⟨w1.heap.size, 1, none⟩ = some (.slice a1 nF c1) := (Blk.kpt R2.out KK23.out).cell 1; have y2 : World.cell? w3 ⟨w1.heap.size, 2, none⟩ = some (.slice b1 b.length d1) := (Blk.kpt R2.out KK23.out).cell 2; have KW3 : Hid (Kpt ((w.alloc (.cells #[.int .i64 T, .slice a n c, .slice ab b.length cb] 31)).alloc (.cells #[.int .i64 p0, .int .i64 p1, .int .i64 p2, .int .i64 p3, .int .i64 p4, .int .i64 p5, .int .i64 p6, .int .i64 p7, .int .i64 p8, .int .i64 p9] 42)) w3) := ktr KW1.out KK3.out; have OF3 := Lib.hid (OwnsN.kpt OF1.out KK3.out); have RF3 : Hid (ReadsF w3 (.slice a1 nF c1) F) := OwnsN.readsF OF3.out FB.out; have RN3 : Hid (NilC (.slice a1 nF c1)) := row_nil OF3.out; have RP3 : Hid (ReadsP w3 (.slice b1 b.length d1) b) := OwnsP.reads (row_kpt OB1.out KK3.out) IB.out; clear k3)
    | (go_at_call 22; (with_reducible refine (A2 _ _ _ RF3.out RN3.out RP3.out).mono ?_); rintro e w4 ⟨fv1, bv1, dv1, rfl, of1, ob1, od1, k1⟩; have K4 : Hid (Kpt w w4) := ktr K3b.out k1; have KK34 : Hid (Kpt w3 w4) := k1; have OF4 := Lib.hid of1; have OB4 := Lib.hid ob1; obtain ⟨a4, c4, rfl⟩ := formN nF of1 HNF.out.symm; obtain ⟨b4, d4, rfl⟩ := OwnsP.form ob1; obtain ⟨g4, h4, rfl⟩ := formN 0 od1 rfl; have Z4 : Hid (Blk (w4.alloc (.cells #[.int .i64 0, .slice none 0 0, .slice none 0 0] 31)) w4.heap.size #[.int .i64 0, .slice none 0 0, .slice none 0 0] 31) := Blk.made _ _ _; have KZ4 : Hid (Kpt w (w4.alloc (.cells #[.int .i64 0, .slice none 0 0, .slice none 0 0] 31))) := K4.out.alloc _; clear of1 ob1 od1 k1 A2 y0 y1 y2)
    | (refine wp_storeW rfl (.tmp 8) (.tmp 35) rfl w4.heap.size _ _ rfl rfl Z4.out rfl rfl (by simp [Value.oneCell']) ?_; intro w5 r9 k9 o9; have R5 := Lib.hid r9; have K5 : Hid (Kpt w w5) := k9 _ _ KZ4.out (Below.size K4.out); have KK5 : Hid (Kpt w4 w5) := k9 _ _ ((Kpt.refl w4).alloc _) (Nat.le_refl _); have KK35 : Hid (Kpt w3 w5) := ktr KK34.out KK5.out; have x0 : World.cell? w5 ⟨w4.heap.size, 0, none⟩ = some (.int .i64 T) := (Blk.kpt R5.out (Kpt.refl _)).cell 0; have x1 : World.cell? w5 ⟨w4.heap.size, 1, none⟩ = some (.slice a4 nF c4) := (Blk.kpt R5.out (Kpt.refl _)).cell 1; have x2 : World.cell? w5 ⟨w4.heap.size, 2, none⟩ = some (.slice b4 b.length d4) := (Blk.kpt R5.out (Kpt.refl _)).cell 2; have v0 : World.cell? w5 ⟨w1.heap.size, 0, none⟩ = some (.int .i64 T) := (Blk.kpt (R2.out.kpt KK23.out) KK35.out).cell 0; have v1 : World.cell? w5 ⟨w1.heap.size, 1, none⟩ = some (.slice a1 nF c1) := (Blk.kpt (R2.out.kpt KK23.out) KK35.out).cell 1; have v2 : World.cell? w5 ⟨w1.heap.size, 2, none⟩ = some (.slice b1 b.length d1) := (Blk.kpt (R2.out.kpt KK23.out) KK35.out).cell 2; have SW := Lib.hid (sameW_any T (.slice a4 nF c4) (.slice a1 nF c1) (.slice b4 b.length d4) (.slice b1 b.length d1) F b w5 (OwnsN.readsF (OwnsN.kpt OF4.out KK5.out) FB.out) (RF3.out.kpt KK35.out) (OwnsP.reads (row_kpt OB4.out KK5.out) IB.out) (RP3.out.kpt KK35.out)); clear r9 k9 o9)
    | (go_at_call 18; (with_reducible refine SW.out.mono ?_); rintro z w6 ⟨rfl, kk⟩; have K6 : Hid (Kpt w w6) := ktr K5.out kk; have KK36 : Hid (Kpt w3 w6) := ktr KK35.out kk; have KW6 : Hid (Kpt ((w.alloc (.cells #[.int .i64 T, .slice a n c, .slice ab b.length cb] 31)).alloc (.cells #[.int .i64 p0, .int .i64 p1, .int .i64 p2, .int .i64 p3, .int .i64 p4, .int .i64 p5, .int .i64 p6, .int .i64 p7, .int .i64 p8, .int .i64 p9] 42)) w6) := ktr KW3.out KK36.out;  have u0 : World.cell? w6 ⟨w1.heap.size, 0, none⟩ = some (.int .i64 T) := (Blk.kpt (R2.out.kpt KK23.out) KK36.out).cell 0; have u1 : World.cell? w6 ⟨w1.heap.size, 1, none⟩ = some (.slice a1 nF c1) := (Blk.kpt (R2.out.kpt KK23.out) KK36.out).cell 1; have u2 : World.cell? w6 ⟨w1.heap.size, 2, none⟩ = some (.slice b1 b.length d1) := (Blk.kpt (R2.out.kpt KK23.out) KK36.out).cell 2; have fc1 : World.cell? w6 ⟨w.heap.size, 1, none⟩ = some (.slice a n c) := (B3.out.kpt KW6.out).cell 1; have fd0 : World.cell? w6 ⟨w.heap.size + 1, 0, none⟩ = some (.int .i64 p0) := (B4.out.kpt KW6.out).cell 0; have fd1 : World.cell? w6 ⟨w.heap.size + 1, 1, none⟩ = some (.int .i64 p1) := (B4.out.kpt KW6.out).cell 1; have fd2 : World.cell? w6 ⟨w.heap.size + 1, 2, none⟩ = some (.int .i64 p2) := (B4.out.kpt KW6.out).cell 2; have fd3 : World.cell? w6 ⟨w.heap.size + 1, 3, none⟩ = some (.int .i64 p3) := (B4.out.kpt KW6.out).cell 3; have fd4 : World.cell? w6 ⟨w.heap.size + 1, 4, none⟩ = some (.int .i64 p4) := (B4.out.kpt KW6.out).cell 4; have fd5 : World.cell? w6 ⟨w.heap.size + 1, 5, none⟩ = some (.int .i64 p5) := (B4.out.kpt KW6.out).cell 5; have fd6 : World.cell? w6 ⟨w.heap.size + 1, 6, none⟩ = some (.int .i64 p6) := (B4.out.kpt KW6.out).cell 6; have fd7 : World.cell? w6 ⟨w.heap.size + 1, 7, none⟩ = some (.int .i64 p7) := (B4.out.kpt KW6.out).cell 7; have fd8 : World.cell? w6 ⟨w.heap.size + 1, 8, none⟩ = some (.int .i64 p8) := (B4.out.kpt KW6.out).cell 8; have fd9 : World.cell? w6 ⟨w.heap.size + 1, 9, none⟩ = some (.int .i64 p9) := (B4.out.kpt KW6.out).cell 9; have RF6 := Lib.hid (RF3.out.kpt KK36.out); have RP6 := Lib.hid (RP3.out.kpt KK36.out); clear kk SW x0 x1 x2 v0 v1 v2)
    | (go_at_call 21; (with_reducible refine (A3 _ _ _ RF6.out RN3.out RP6.out).mono ?_); rintro e w7 ⟨fv4, bv4, rfl, of4, ob4, k4⟩; have K7 : Hid (Kpt w w7) := ktr K6.out k4; have KK37 : Hid (Kpt w3 w7) := ktr KK36.out k4; have OF7 := Lib.hid of4; have OB7 := Lib.hid ob4; obtain ⟨a7, c7, rfl⟩ := formN 0 of4 rfl; obtain ⟨b7, d7, rfl⟩ := formQ 0 ob4 rfl; have Z7 : Hid (Blk (w7.alloc (.cells #[.int .i64 0, .slice none 0 0, .slice none 0 0] 31)) w7.heap.size #[.int .i64 0, .slice none 0 0, .slice none 0 0] 31) := Blk.made _ _ _; have KZ7 : Hid (Kpt w (w7.alloc (.cells #[.int .i64 0, .slice none 0 0, .slice none 0 0] 31))) := K7.out.alloc _; clear of4 ob4 k4 A3 u0 u1 u2 fc1 fd0 fd1 fd2 fd3 fd4 fd5 fd6 fd7 fd8 fd9)
    | (refine wp_storeW rfl (.tmp 11) (.tmp 67) rfl w7.heap.size _ _ rfl rfl Z7.out rfl rfl (by simp [Value.oneCell']) ?_; intro w8 r9 k9 o9; have R8 := Lib.hid r9; have K8 : Hid (Kpt w w8) := k9 _ _ KZ7.out (Below.size K7.out); have KK8 : Hid (Kpt w7 w8) := k9 _ _ ((Kpt.refl w7).alloc _) (Nat.le_refl _); have x0 : World.cell? w8 ⟨w7.heap.size, 0, none⟩ = some (.int .i64 0) := (Blk.kpt R8.out (Kpt.refl _)).cell 0; have x1 : World.cell? w8 ⟨w7.heap.size, 1, none⟩ = some (.slice a7 0 c7) := (Blk.kpt R8.out (Kpt.refl _)).cell 1; have x2 : World.cell? w8 ⟨w7.heap.size, 2, none⟩ = some (.slice b7 0 d7) := (Blk.kpt R8.out (Kpt.refl _)).cell 2; have SZ := Lib.hid (sameW_any 0 (.slice a7 0 c7) (.slice none 0 0) (.slice b7 0 d7) (.slice none 0 0) [] [] w8 (readsF_nil _ _ _) (readsF_nil _ _ _) (OwnsP.reads (ps := []) (row_kpt OB7.out KK8.out) inp_nil) (readsP_nil _ none 0 (fun _ => rfl))); clear r9 k9 o9)
    | (go_at_call 18; (with_reducible refine SZ.out.mono ?_); rintro z w9 ⟨rfl, kk⟩; have K9 : Hid (Kpt w w9) := ktr K8.out kk; clear kk)
    | fail)
  go_ret
  exact ⟨rfl, K9.out⟩

set_option maxRecDepth 100000 in
set_option maxHeartbeats 4000000 in
theorem cti_ok (T p0 p1 p2 p3 p4 p5 p6 p7 p8 p9 : Int) (a : Option Addr) (c : Nat) (ab : Option Addr) (cb : Nat) (fs F D : List (List Int)) (b : List (Int × Int × Int)) (w : World) (FB3 : Hid (∀ l ∈ (F ++ [[p0, p1, p2, p3, p4, p5, p6, p7, p8, p9]]), FlB l))
    (FB : Hid (∀ l ∈ F, FlB l)) (IB : Hid (InP b)) (HL : Hid (fs.length ≤ 1000)) (HS : Hid (F.length + D.length = fs.length))
    (A1 : ∀ w', Kpt w w' → Calls Tryz.prog 22 #[.agg #[.int .i64 T, .slice a fs.length c, .slice ab b.length cb]] w' (TdRes w' 0 T F b D))
    (A2 : ∀ w' v1 b1, ReadsF w' v1 F → NilC v1 → ReadsP w' b1 b → Calls Tryz.prog 22 #[.agg #[.int .i64 T, v1, b1]] w' (TdRes w' 0 T F b []))
    (A3 : ∀ w' v1 b1, ReadsF w' v1 F → NilC v1 → ReadsP w' b1 b → Calls Tryz.prog 21 #[.agg #[.int .i64 T, v1, b1], .agg #[.int .i64 p0, .int .i64 p1, .int .i64 p2, .int .i64 p3, .int .i64 p4, .int .i64 p5, .int .i64 p6, .int .i64 p7, .int .i64 p8, .int .i64 p9]] w' (WdRes w' 0 T (F ++ [[p0, p1, p2, p3, p4, p5, p6, p7, p8, p9]]) b))
    (A4 : ∀ w' v1, ReadsF w' v1 (F ++ [[p0, p1, p2, p3, p4, p5, p6, p7, p8, p9]]) → Calls Tryz.prog 36 #[v1, .int .i64 p0] w' fun e w'' => e = .returned (.tuple #[.int .i64 (F.length : Nat), .int .i64 0]) ∧ Kpt w' w'') : Calls Tryz.prog 9 #[.agg #[.int .i64 T, .slice a fs.length c, .slice ab b.length cb], .agg #[.int .i64 p0, .int .i64 p1, .int .i64 p2, .int .i64 p3, .int .i64 p4, .int .i64 p5, .int .i64 p6, .int .i64 p7, .int .i64 p8, .int .i64 p9]] w fun e w' => e = .returned (.bool true) ∧ Kpt w w' := by
  obtain ⟨n, hn'⟩ : ∃ n, n = fs.length := ⟨_, rfl⟩
  rw [← hn'] at A1 HL HS ⊢
  have HN := Lib.hid hn'
  clear hn'
  obtain ⟨nF, hF'⟩ : ∃ n, n = F.length := ⟨_, rfl⟩
  obtain ⟨nD, hD'⟩ : ∃ n, n = D.length := ⟨_, rfl⟩
  rw [← hF'] at A4
  have HNF := Lib.hid hF'
  have HND := Lib.hid hD'
  clear hF' hD'
  have K3 : Hid (Kpt w ((w.alloc (.cells #[.int .i64 T, .slice a n c, .slice ab b.length cb] 31)).alloc (.cells #[.int .i64 p0, .int .i64 p1, .int .i64 p2, .int .i64 p3, .int .i64 p4, .int .i64 p5, .int .i64 p6, .int .i64 p7, .int .i64 p8, .int .i64 p9] 42))) := ((Kpt.refl w).alloc _).alloc _
  have B3 : Hid (Blk ((w.alloc (.cells #[.int .i64 T, .slice a n c, .slice ab b.length cb] 31)).alloc (.cells #[.int .i64 p0, .int .i64 p1, .int .i64 p2, .int .i64 p3, .int .i64 p4, .int .i64 p5, .int .i64 p6, .int .i64 p7, .int .i64 p8, .int .i64 p9] 42)) w.heap.size #[.int .i64 T, .slice a n c, .slice ab b.length cb] 31) := (Blk.made w _ _).alloc _
  have B4 : Hid (Blk ((w.alloc (.cells #[.int .i64 T, .slice a n c, .slice ab b.length cb] 31)).alloc (.cells #[.int .i64 p0, .int .i64 p1, .int .i64 p2, .int .i64 p3, .int .i64 p4, .int .i64 p5, .int .i64 p6, .int .i64 p7, .int .i64 p8, .int .i64 p9] 42)) (w.heap.size + 1) #[.int .i64 p0, .int .i64 p1, .int .i64 p2, .int .i64 p3, .int .i64 p4, .int .i64 p5, .int .i64 p6, .int .i64 p7, .int .i64 p8, .int .i64 p9] 42) := by
    have := Blk.made (w.alloc (.cells #[.int .i64 T, .slice a n c, .slice ab b.length cb] 31)) #[.int .i64 p0, .int .i64 p1, .int .i64 p2, .int .i64 p3, .int .i64 p4, .int .i64 p5, .int .i64 p6, .int .i64 p7, .int .i64 p8, .int .i64 p9] 42
    rw [World.size_alloc] at this
    exact this
  have ws : IntKind.i64.wrap ((nF : Int) + (nD : Int)) = (n : Int) := by
    have h1 : F.length + D.length = n := HS.out
    have h2 : nF = F.length := HNF.out
    have h3 : nD = D.length := HND.out
    have h4 : n ≤ 1000 := HL.out
    rw [IntWalk.i64_in _ (by omega)]
    omega
  go_enter Tryz.func9, Tryz.ntmps9
  go_upto_region 13 with (first
    | (go_at_call 22; (with_reducible refine (A1 _ K3.out).mono ?_); rintro e w1 ⟨fv1, bv1, dv1, rfl, of1, ob1, od1, k1⟩; have K1 : Hid (Kpt w w1) := ktr K3.out k1; have KW1 : Hid (Kpt ((w.alloc (.cells #[.int .i64 T, .slice a n c, .slice ab b.length cb] 31)).alloc (.cells #[.int .i64 p0, .int .i64 p1, .int .i64 p2, .int .i64 p3, .int .i64 p4, .int .i64 p5, .int .i64 p6, .int .i64 p7, .int .i64 p8, .int .i64 p9] 42)) w1) := k1; have OF1 := Lib.hid of1; have OB1 := Lib.hid ob1; obtain ⟨a1, c1, rfl⟩ := formN nF of1 HNF.out.symm; obtain ⟨b1, d1, rfl⟩ := OwnsP.form ob1; obtain ⟨g1, h1, rfl⟩ := formN nD od1 HND.out.symm; have Z1 : Hid (Blk (w1.alloc (.cells #[.int .i64 0, .slice none 0 0, .slice none 0 0] 31)) w1.heap.size #[.int .i64 0, .slice none 0 0, .slice none 0 0] 31) := Blk.made _ _ _; have KZ1 : Hid (Kpt w (w1.alloc (.cells #[.int .i64 0, .slice none 0 0, .slice none 0 0] 31))) := K1.out.alloc _; clear of1 ob1 od1 k1 A1)
    | (refine wp_storeW rfl (.tmp 5) (.tmp 18) rfl w1.heap.size _ _ rfl rfl Z1.out rfl rfl (by simp [Value.oneCell']) ?_; intro w2 r9 k9 o9; have R2 := Lib.hid r9; have K2 : Hid (Kpt w w2) := k9 _ _ KZ1.out (Below.size K1.out); have KK2 : Hid (Kpt w1 w2) := k9 _ _ ((Kpt.refl w1).alloc _) (Nat.le_refl _); clear r9 k9 o9)
    | (go_at_call 13; (with_reducible refine (cycleBegun_run _).mono ?_); rintro e w2b ⟨rfl, k3⟩; have KKb : Hid (Kpt w2 w2b) := k3; clear k3)
    | (go_at_call 32; (with_reducible refine (failBegun _).mono ?_); rintro e w3 ⟨rfl, k3⟩; have KK23 : Hid (Kpt w2 w3) := ktr KKb.out k3; have K3b : Hid (Kpt w w3) := ktr K2.out KK23.out; have KK3 : Hid (Kpt w1 w3) := ktr KK2.out KK23.out;  have y0 : World.cell? w3 ⟨w1.heap.size, 0, none⟩ = some (.int .i64 T) := (Blk.kpt R2.out KK23.out).cell 0; have y1 : World.cell? w3 ⟨w1.heap.size, 1, none⟩ = some (.slice a1 nF c1) := (Blk.kpt R2.out KK23.out).cell 1; have y2 : World.cell? w3 ⟨w1.heap.size, 2, none⟩ = some (.slice b1 b.length d1) := (Blk.kpt R2.out KK23.out).cell 2; have KW3 : Hid (Kpt ((w.alloc (.cells #[.int .i64 T, .slice a n c, .slice ab b.length cb] 31)).alloc (.cells #[.int .i64 p0, .int .i64 p1, .int .i64 p2, .int .i64 p3, .int .i64 p4, .int .i64 p5, .int .i64 p6, .int .i64 p7, .int .i64 p8, .int .i64 p9] 42)) w3) := ktr KW1.out KK3.out; have OF3 := Lib.hid (OwnsN.kpt OF1.out KK3.out); have RF3 : Hid (ReadsF w3 (.slice a1 nF c1) F) := OwnsN.readsF OF3.out FB.out; have RN3 : Hid (NilC (.slice a1 nF c1)) := row_nil OF3.out; have RP3 : Hid (ReadsP w3 (.slice b1 b.length d1) b) := OwnsP.reads (row_kpt OB1.out KK3.out) IB.out; clear k3)
    | (go_at_call 22; (with_reducible refine (A2 _ _ _ RF3.out RN3.out RP3.out).mono ?_); rintro e w4 ⟨fv1, bv1, dv1, rfl, of1, ob1, od1, k1⟩; have K4 : Hid (Kpt w w4) := ktr K3b.out k1; have KK34 : Hid (Kpt w3 w4) := k1; have OF4 := Lib.hid of1; have OB4 := Lib.hid ob1; obtain ⟨a4, c4, rfl⟩ := formN nF of1 HNF.out.symm; obtain ⟨b4, d4, rfl⟩ := OwnsP.form ob1; obtain ⟨g4, h4, rfl⟩ := formN 0 od1 rfl; have Z4 : Hid (Blk (w4.alloc (.cells #[.int .i64 0, .slice none 0 0, .slice none 0 0] 31)) w4.heap.size #[.int .i64 0, .slice none 0 0, .slice none 0 0] 31) := Blk.made _ _ _; have KZ4 : Hid (Kpt w (w4.alloc (.cells #[.int .i64 0, .slice none 0 0, .slice none 0 0] 31))) := K4.out.alloc _; clear of1 ob1 od1 k1 A2 y0 y1 y2)
    | (refine wp_storeW rfl (.tmp 8) (.tmp 35) rfl w4.heap.size _ _ rfl rfl Z4.out rfl rfl (by simp [Value.oneCell']) ?_; intro w5 r9 k9 o9; have R5 := Lib.hid r9; have K5 : Hid (Kpt w w5) := k9 _ _ KZ4.out (Below.size K4.out); have KK5 : Hid (Kpt w4 w5) := k9 _ _ ((Kpt.refl w4).alloc _) (Nat.le_refl _); have KK35 : Hid (Kpt w3 w5) := ktr KK34.out KK5.out; have x0 : World.cell? w5 ⟨w4.heap.size, 0, none⟩ = some (.int .i64 T) := (Blk.kpt R5.out (Kpt.refl _)).cell 0; have x1 : World.cell? w5 ⟨w4.heap.size, 1, none⟩ = some (.slice a4 nF c4) := (Blk.kpt R5.out (Kpt.refl _)).cell 1; have x2 : World.cell? w5 ⟨w4.heap.size, 2, none⟩ = some (.slice b4 b.length d4) := (Blk.kpt R5.out (Kpt.refl _)).cell 2; have v0 : World.cell? w5 ⟨w1.heap.size, 0, none⟩ = some (.int .i64 T) := (Blk.kpt (R2.out.kpt KK23.out) KK35.out).cell 0; have v1 : World.cell? w5 ⟨w1.heap.size, 1, none⟩ = some (.slice a1 nF c1) := (Blk.kpt (R2.out.kpt KK23.out) KK35.out).cell 1; have v2 : World.cell? w5 ⟨w1.heap.size, 2, none⟩ = some (.slice b1 b.length d1) := (Blk.kpt (R2.out.kpt KK23.out) KK35.out).cell 2; have SW := Lib.hid (sameW_any T (.slice a4 nF c4) (.slice a1 nF c1) (.slice b4 b.length d4) (.slice b1 b.length d1) F b w5 (OwnsN.readsF (OwnsN.kpt OF4.out KK5.out) FB.out) (RF3.out.kpt KK35.out) (OwnsP.reads (row_kpt OB4.out KK5.out) IB.out) (RP3.out.kpt KK35.out)); clear r9 k9 o9)
    | (go_at_call 18; (with_reducible refine SW.out.mono ?_); rintro z w6 ⟨rfl, kk⟩; have K6 : Hid (Kpt w w6) := ktr K5.out kk; have KK36 : Hid (Kpt w3 w6) := ktr KK35.out kk; have KW6 : Hid (Kpt ((w.alloc (.cells #[.int .i64 T, .slice a n c, .slice ab b.length cb] 31)).alloc (.cells #[.int .i64 p0, .int .i64 p1, .int .i64 p2, .int .i64 p3, .int .i64 p4, .int .i64 p5, .int .i64 p6, .int .i64 p7, .int .i64 p8, .int .i64 p9] 42)) w6) := ktr KW3.out KK36.out;  have u0 : World.cell? w6 ⟨w1.heap.size, 0, none⟩ = some (.int .i64 T) := (Blk.kpt (R2.out.kpt KK23.out) KK36.out).cell 0; have u1 : World.cell? w6 ⟨w1.heap.size, 1, none⟩ = some (.slice a1 nF c1) := (Blk.kpt (R2.out.kpt KK23.out) KK36.out).cell 1; have u2 : World.cell? w6 ⟨w1.heap.size, 2, none⟩ = some (.slice b1 b.length d1) := (Blk.kpt (R2.out.kpt KK23.out) KK36.out).cell 2; have fc1 : World.cell? w6 ⟨w.heap.size, 1, none⟩ = some (.slice a n c) := (B3.out.kpt KW6.out).cell 1; have fd0 : World.cell? w6 ⟨w.heap.size + 1, 0, none⟩ = some (.int .i64 p0) := (B4.out.kpt KW6.out).cell 0; have fd1 : World.cell? w6 ⟨w.heap.size + 1, 1, none⟩ = some (.int .i64 p1) := (B4.out.kpt KW6.out).cell 1; have fd2 : World.cell? w6 ⟨w.heap.size + 1, 2, none⟩ = some (.int .i64 p2) := (B4.out.kpt KW6.out).cell 2; have fd3 : World.cell? w6 ⟨w.heap.size + 1, 3, none⟩ = some (.int .i64 p3) := (B4.out.kpt KW6.out).cell 3; have fd4 : World.cell? w6 ⟨w.heap.size + 1, 4, none⟩ = some (.int .i64 p4) := (B4.out.kpt KW6.out).cell 4; have fd5 : World.cell? w6 ⟨w.heap.size + 1, 5, none⟩ = some (.int .i64 p5) := (B4.out.kpt KW6.out).cell 5; have fd6 : World.cell? w6 ⟨w.heap.size + 1, 6, none⟩ = some (.int .i64 p6) := (B4.out.kpt KW6.out).cell 6; have fd7 : World.cell? w6 ⟨w.heap.size + 1, 7, none⟩ = some (.int .i64 p7) := (B4.out.kpt KW6.out).cell 7; have fd8 : World.cell? w6 ⟨w.heap.size + 1, 8, none⟩ = some (.int .i64 p8) := (B4.out.kpt KW6.out).cell 8; have fd9 : World.cell? w6 ⟨w.heap.size + 1, 9, none⟩ = some (.int .i64 p9) := (B4.out.kpt KW6.out).cell 9; have RF6 := Lib.hid (RF3.out.kpt KK36.out); have RP6 := Lib.hid (RP3.out.kpt KK36.out); clear kk SW x0 x1 x2 v0 v1 v2)
    | (go_at_call 21; (with_reducible refine (A3 _ _ _ RF6.out RN3.out RP6.out).mono ?_); rintro e w7 ⟨fv4, bv4, rfl, of4, ob4, k4⟩; have K7 : Hid (Kpt w w7) := ktr K6.out k4; have KK37 : Hid (Kpt w3 w7) := ktr KK36.out k4; have OF7 := Lib.hid of4; have OB7 := Lib.hid ob4; obtain ⟨kx, c7, ex, hx⟩ := own_cellF of4 (by simp); have HX := Lib.hid hx; have ey : (F ++ [[p0, p1, p2, p3, p4, p5, p6, p7, p8, p9]]).length = nF + 1 := (by rw [List.length_append, ← HNF.out, List.length_singleton]); rw [ey] at ex; subst ex; obtain ⟨b7, d7, rfl⟩ := OwnsP.form ob4; clear hx ey; have Z7 : Hid (Blk (w7.alloc (.cells #[.int .i64 0, .slice none 0 0, .slice none 0 0] 31)) w7.heap.size #[.int .i64 0, .slice none 0 0, .slice none 0 0] 31) := Blk.made _ _ _; have KZ7 : Hid (Kpt w (w7.alloc (.cells #[.int .i64 0, .slice none 0 0, .slice none 0 0] 31))) := K7.out.alloc _; clear of4 ob4 k4 A3 u0 u1 u2 fc1 fd0 fd1 fd2 fd3 fd4 fd5 fd6 fd7 fd8 fd9)
    | (refine wp_storeW rfl (.tmp 11) (.tmp 67) rfl w7.heap.size _ _ rfl rfl Z7.out rfl rfl (by simp [Value.oneCell']) ?_; intro w8 r9 k9 o9; have R8 := Lib.hid r9; have K8 : Hid (Kpt w w8) := k9 _ _ KZ7.out (Below.size K7.out); have KK8 : Hid (Kpt w7 w8) := k9 _ _ ((Kpt.refl w7).alloc _) (Nat.le_refl _); have h1 : World.cell? w8 ⟨w7.heap.size, 1, none⟩ = some (.slice (some ⟨kx, 0, none⟩) (nF + 1) c7) := R8.out.cell 1; have KK38 : Hid (Kpt w3 w8) := ktr KK37.out KK8.out; have KW8 : Hid (Kpt ((w.alloc (.cells #[.int .i64 T, .slice a n c, .slice ab b.length cb] 31)).alloc (.cells #[.int .i64 p0, .int .i64 p1, .int .i64 p2, .int .i64 p3, .int .i64 p4, .int .i64 p5, .int .i64 p6, .int .i64 p7, .int .i64 p8, .int .i64 p9] 42)) w8) := ktr KW3.out KK38.out; have fd0 : World.cell? w8 ⟨w.heap.size + 1, 0, none⟩ = some (.int .i64 p0) := (B4.out.kpt KW8.out).cell 0; have RX8 : Hid (ReadsF w8 (.slice (some ⟨kx, 0, none⟩) (nF + 1) c7) (F ++ [[p0, p1, p2, p3, p4, p5, p6, p7, p8, p9]])) := OwnsN.readsF (OwnsN.kpt OF7.out KK8.out) FB3.out; clear r9 k9 o9)
    | (go_at_call 36; (with_reducible refine (A4 _ _ RX8.out).mono ?_); rintro e w9 ⟨rfl, kk⟩; have K9 : Hid (Kpt w w9) := ktr K8.out kk; have KK89 : Hid (Kpt w8 w9) := kk; clear kk A4 h1 fd0)
    | fail)
  have mixed : Tryz.prog.follows .mixedOrders = true := by kernel_rfl
  have KK39 : Hid (Kpt w3 w9) := ktr KK38.out KK89.out
  have KW9 : Hid (Kpt ((w.alloc (.cells #[.int .i64 T, .slice a n c, .slice ab b.length cb] 31)).alloc (.cells #[.int .i64 p0, .int .i64 p1, .int .i64 p2, .int .i64 p3, .int .i64 p4, .int .i64 p5, .int .i64 p6, .int .i64 p7, .int .i64 p8, .int .i64 p9] 42)) w9) := ktr KW8.out KK89.out
  have s5 := cell_k (Blk.cell (R2.out.kpt (ktr KK23.out KK39.out)) 1)
  have s11 := cell_k (Blk.cell (R8.out.kpt KK89.out) 1)
  have lx := at_last HNF.out HX.out
  have KK79 : Hid (Kpt w7 w9) := ktr KK8.out KK89.out
  have lx0 : ∀ p : KptTo w9, p.w.cell? ⟨kx, nF * 10, none⟩ = some (.int .i64 p0) := cell_k (KK79.out.cell (lx 0 (by decide)))
  have lx1 : ∀ p : KptTo w9, p.w.cell? ⟨kx, nF * 10 + 1, none⟩ = some (.int .i64 p1) := cell_k (KK79.out.cell (lx 1 (by decide)))
  have lx2 : ∀ p : KptTo w9, p.w.cell? ⟨kx, nF * 10 + 2, none⟩ = some (.int .i64 p2) := cell_k (KK79.out.cell (lx 2 (by decide)))
  have lx3 : ∀ p : KptTo w9, p.w.cell? ⟨kx, nF * 10 + 3, none⟩ = some (.int .i64 p3) := cell_k (KK79.out.cell (lx 3 (by decide)))
  have lx4 : ∀ p : KptTo w9, p.w.cell? ⟨kx, nF * 10 + 4, none⟩ = some (.int .i64 p4) := cell_k (KK79.out.cell (lx 4 (by decide)))
  have lx5 : ∀ p : KptTo w9, p.w.cell? ⟨kx, nF * 10 + 5, none⟩ = some (.int .i64 p5) := cell_k (KK79.out.cell (lx 5 (by decide)))
  have lx6 : ∀ p : KptTo w9, p.w.cell? ⟨kx, nF * 10 + 6, none⟩ = some (.int .i64 p6) := cell_k (KK79.out.cell (lx 6 (by decide)))
  have lx7 : ∀ p : KptTo w9, p.w.cell? ⟨kx, nF * 10 + 7, none⟩ = some (.int .i64 p7) := cell_k (KK79.out.cell (lx 7 (by decide)))
  have lx8 : ∀ p : KptTo w9, p.w.cell? ⟨kx, nF * 10 + 8, none⟩ = some (.int .i64 p8) := cell_k (KK79.out.cell (lx 8 (by decide)))
  have lx9 : ∀ p : KptTo w9, p.w.cell? ⟨kx, nF * 10 + 9, none⟩ = some (.int .i64 p9) := cell_k (KK79.out.cell (lx 9 (by decide)))
  have ly0 := cell_k ((B4.out.kpt KW9.out).cell 0)
  have ly1 := cell_k ((B4.out.kpt KW9.out).cell 1)
  have ly2 := cell_k ((B4.out.kpt KW9.out).cell 2)
  have ly3 := cell_k ((B4.out.kpt KW9.out).cell 3)
  have ly4 := cell_k ((B4.out.kpt KW9.out).cell 4)
  have ly5 := cell_k ((B4.out.kpt KW9.out).cell 5)
  have ly6 := cell_k ((B4.out.kpt KW9.out).cell 6)
  have ly7 := cell_k ((B4.out.kpt KW9.out).cell 7)
  have ly8 := cell_k ((B4.out.kpt KW9.out).cell 8)
  have ly9 := cell_k ((B4.out.kpt KW9.out).cell 9)
  have cp : nF ≤ c7 := by have h1 := own_cap OF7.out; rw [List.length_append, ← HNF.out] at h1; simp at h1; omega
  have eq := eqlF p0 p1 p2 p3 p4 p5 p6 p7 p8 p9
  have SF := Lib.hid (fun p : KptTo w9 => sameF_any (.slice (some ⟨kx, 0, none⟩) nF c7) (.slice a1 nF c1) F p.w (by
    have h1 := ReadsF.take (RX8.out.kpt (ktr KK89.out p.h)) nF (by rw [List.length_append, ← HNF.out]; simp)
    rwa [HNF.out, List.take_left, ← HNF.out] at h1) (RF3.out.kpt (ktr KK39.out p.h)))
  have b0 : (0 : Int) ≤ (nF : Int) := by omega
  have b1 : (nF : Int) < ((nF + 1 : Nat) : Int) := by omega
  clear lx HX
  refine quiet_k (q := w9) mixed (by kernel_rfl) ?_
  repeat (go_big_quiet_step (first | (go_at_call 26; with_reducible refine calls_k (SF.out _)) | fail))
  refine wpQuiet_nil ?_
  intro w10 hw1
  obtain ⟨⟨wz, kz⟩, hw2⟩ := hw1
  have hw3 : w10 = wz := hw2
  clear hw2
  subst hw3
  have KZ := Lib.hid kz
  clear kz
  go_wp2
  go_ret
  exact ⟨rfl, ktr K9.out KZ.out⟩

theorem opn_sub (fs : List (List Int)) : (opnF fs).Sublist fs := List.filter_sublist
theorem opn_opn (fs : List (List Int)) : opnF (opnF fs) = opnF fs := by unfold opnF; rw [List.filter_filter]; simp
theorem don_opn (fs : List (List Int)) : donF (opnF fs) = [] := by
  unfold donF opnF
  rw [List.filter_filter, List.filter_eq_nil_iff]
  intro l _
  simp
theorem opn_don (fs : List (List Int)) : (opnF fs).length + (donF fs).length = fs.length := by
  unfold opnF donF
  induction fs with
  | nil => rfl
  | cons l fs ih =>
    rw [List.filter_cons, List.filter_cons, List.length_cons]
    cases (opL l == 0) <;> simp <;> omega
theorem wld_opn {T : Int} {fs : List (List Int)} {b : List (Int × Int × Int)} (h : wldE T fs b = 0) : wldE T (opnF fs) b = 0 := by
  obtain ⟨h1, h2, h3⟩ := wld_0 h
  have h4 := checks_sub (opn_sub fs) h2
  unfold wldE todE
  rw [if_pos h1, h4, h3]; rfl
theorem idx_last (id : Int) : ∀ (F : List (List Int)) (l : List Int) (k : Nat), l.getD 0 0 = id → (∀ m ∈ F, m.getD 0 0 ≠ id) → idxF id (F ++ [l]) k = ((k + F.length : Nat) : Int)
  | [], l, k, h, _ => by
    show (if l.getD 0 0 = id then (k : Int) else idxF id [] (k + 1)) = _
    rw [if_pos h]; simp
  | m :: F, l, k, h, hm => by
    show (if m.getD 0 0 = id then (k : Int) else idxF id (F ++ [l]) (k + 1)) = _
    rw [if_neg (hm m (by simp)), idx_last id F l (k + 1) h (fun x hx => hm x (by simp [hx]))]
    rw [List.length_cons]
    congr 1
    omega
theorem checks_new {F : List (List Int)} {l : List Int} (h : checksE (F ++ [l]) = 0) : ∀ m ∈ F, m.getD 0 0 ≠ l.getD 0 0 := by
  unfold checksE at h
  split at h
  · cases h
  · obtain ⟨-, h2, -⟩ := ids_ok.1 h
    unfold idsOf at h2
    rw [List.map_append] at h2
    intro m hm e
    exact (List.nodup_append.1 h2).2.2 _ (List.mem_map.2 ⟨m, hm, rfl⟩) (l.getD 0 0) (by simp) e
theorem ctidy_plain (T p0 p1 p2 p3 p4 p5 p6 p7 p8 p9 : Int) (fv bv : Value) (fs : List (List Int)) (b : List (Int × Int × Int)) (w : World) (hF : ReadsF w fv fs) (hn : NilC fv) (hb : ReadsP w bv b) (hT : -9223372036854775808 ≤ T ∧ T ≤ 9223372036854775807) (hp : (-9223372036854775808 ≤ p0 ∧ p0 ≤ 9223372036854775807) ∧ (-9223372036854775808 ≤ p1 ∧ p1 ≤ 9223372036854775807) ∧ (-9223372036854775808 ≤ p2 ∧ p2 ≤ 9223372036854775807) ∧ (-9223372036854775808 ≤ p3 ∧ p3 ≤ 9223372036854775807) ∧ (-9223372036854775808 ≤ p4 ∧ p4 ≤ 9223372036854775807) ∧ (-9223372036854775808 ≤ p5 ∧ p5 ≤ 9223372036854775807) ∧ (-9223372036854775808 ≤ p6 ∧ p6 ≤ 9223372036854775807) ∧ (-9223372036854775808 ≤ p7 ∧ p7 ≤ 9223372036854775807) ∧ (-9223372036854775808 ≤ p8 ∧ p8 ≤ 9223372036854775807) ∧ (-9223372036854775808 ≤ p9 ∧ p9 ≤ 9223372036854775807)) :
    Calls Tryz.prog 9 #[.agg #[.int .i64 T, fv, bv], .agg #[.int .i64 p0, .int .i64 p1, .int .i64 p2, .int .i64 p3, .int .i64 p4, .int .i64 p5, .int .i64 p6, .int .i64 p7, .int .i64 p8, .int .i64 p9]] w fun e w' => e = .returned (.bool true) ∧ Kpt w w' := by
  have fp := flB_ten hp
  have hin : InP b := by obtain ⟨_, _, _, _, _, h, _⟩ := hb; exact h
  have hfl : ∀ l ∈ fs, FlB l := by obtain ⟨_, _, _, _, h, _⟩ := hF; exact h
  have A1 := fun w' (k : Kpt w w') => tidy_any T fv bv fs b w' (hF.kpt k) hn (hb.kpt k)
  obtain ⟨a, c, rfl, -⟩ := _root_.id hF
  obtain ⟨ab, cb, rfl, -⟩ := _root_.id hb
  by_cases h1 : wldE T fs b = 0
  · have e1 : tdT T fs b = T := if_pos h1
    have e2 : tdF T fs b = opnF fs := if_pos h1
    have e3 : tdB T fs b = b := if_pos h1
    have e4 : tdD T fs b = donF fs := if_pos h1
    rw [h1, e1, e2, e3, e4] at A1
    have l60 := ck60 (wld_0 h1).2.1
    have FB : ∀ l ∈ opnF fs, FlB l := fun l hl => hfl l ((opn_sub fs).subset hl)
    have h2 := wld_opn h1
    have A2 := fun w' v1 b1 (r1 : ReadsF w' v1 (opnF fs)) (r2 : NilC v1) (r3 : ReadsP w' b1 b) => tidy_any T v1 b1 (opnF fs) b w' r1 r2 r3
    have e1 : tdT T (opnF fs) b = T := if_pos h2
    have e2 : tdF T (opnF fs) b = opnF fs := (if_pos h2).trans (opn_opn fs)
    have e3 : tdB T (opnF fs) b = b := if_pos h2
    have e4 : tdD T (opnF fs) b = [] := (if_pos h2).trans (don_opn fs)
    rw [h2, e1, e2, e3, e4] at A2
    have A3 := fun w' v1 b1 (r1 : ReadsF w' v1 (opnF fs)) (r2 : NilC v1) (r3 : ReadsP w' b1 b) => add_any T p0 p1 p2 p3 p4 p5 p6 p7 p8 p9 v1 b1 (opnF fs) b w' r1 r2 r3 fp
    by_cases h3 : adE T (opnF fs) b [p0, p1, p2, p3, p4, p5, p6, p7, p8, p9] = 0
    · obtain ⟨-, hc⟩ := ad_0 h3
      have e1 : adT T (opnF fs) b [p0, p1, p2, p3, p4, p5, p6, p7, p8, p9] = T := if_pos h3
      have e2 : adF T (opnF fs) b [p0, p1, p2, p3, p4, p5, p6, p7, p8, p9] = opnF fs ++ [[p0, p1, p2, p3, p4, p5, p6, p7, p8, p9]] := if_pos h3
      have e3 : adB T (opnF fs) b [p0, p1, p2, p3, p4, p5, p6, p7, p8, p9] = b := if_pos h3
      rw [h3, e1, e2, e3] at A3
      refine cti_ok T p0 p1 p2 p3 p4 p5 p6 p7 p8 p9 a c ab cb fs (opnF fs) (donF fs) b w (fun l hl => ?_) FB hin (by unfold Hid; omega) (opn_don fs) A1 A2 A3 (fun w' v1 r1 => ?_)
      · rcases List.mem_append.1 hl with h | h
        · exact FB l h
        · rw [List.mem_singleton.1 h]; exact fp
      · have ix := idx_last p0 (opnF fs) [p0, p1, p2, p3, p4, p5, p6, p7, p8, p9] 0 rfl (checks_new hc)
        rw [Nat.zero_add] at ix
        have h := (find_run v1 _ p0 w' r1).2.2 hc (by rw [ix]; omega)
        rwa [ix] at h
    · have e1 : adT T (opnF fs) b [p0, p1, p2, p3, p4, p5, p6, p7, p8, p9] = 0 := if_neg h3
      have e2 : adF T (opnF fs) b [p0, p1, p2, p3, p4, p5, p6, p7, p8, p9] = [] := if_neg h3
      have e3 : adB T (opnF fs) b [p0, p1, p2, p3, p4, p5, p6, p7, p8, p9] = [] := if_neg h3
      rw [e1, e2, e3] at A3
      exact cti_no2 T p0 p1 p2 p3 p4 p5 p6 p7 p8 p9 a c ab cb fs (opnF fs) (donF fs) b w _ (bne_iff_ne.2 h3) FB hin (by unfold Hid; omega) (opn_don fs) A1 A2 A3
  · have e1 : tdT T fs b = 0 := if_neg h1
    have e2 : tdF T fs b = [] := if_neg h1
    have e3 : tdB T fs b = [] := if_neg h1
    have e4 : tdD T fs b = [] := if_neg h1
    rw [e1, e2, e3, e4] at A1
    exact cti_no T p0 p1 p2 p3 p4 p5 p6 p7 p8 p9 a c ab cb fs [] [] b w _ (bne_iff_ne.2 h1) A1

end Go.Proofs.YthaahebggboliaaGreat
