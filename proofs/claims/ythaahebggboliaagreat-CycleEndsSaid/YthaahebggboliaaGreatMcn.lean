/-
  Merged: FailG, CycU, LawCE.
-/
import Derived.Test.YthaahebggboliaaGreatMf2
import Derived.Test.YthaahebggboliaaGreatMcg
import Derived.Test.YthaahebggboliaaGreatMa1
import Derived.Test.YthaahebggboliaaGreatMcr
import Derived.Test.YthaahebggboliaaGreatMca
import Derived.Test.YthaahebggboliaaGreatMp3
-- FailG
namespace Go.Proofs.YthaahebggboliaaGreat
open Go.RowKit Go.Maps
set_option linter.unusedVariables false

theorem readsF_made {w : World} {cs : Array Value} {fs : List (List Int)} (hm : fs.length ≤ maxLen) (hb : ∀ l ∈ fs, FlB l) (h : ∀ k, k < fs.length → ∀ j, j < 10 → cs[k * 10 + j]? = some (.int .i64 ((fs.getD k []).getD j 0))) (cap : Nat) :
    ReadsF (w.alloc (.cells cs 42)) (.slice (some ⟨w.heap.size, 0, none⟩) fs.length cap) fs :=
  ⟨_, cap, rfl, hm, hb, fun k hk => ⟨_, _, rfl, fun j hj => by
    rw [Nat.zero_add, cell_of_row _ _ _ cs _ (0, 0) (heap_alloc_new w _)]
    exact h k hk j hj⟩⟩
theorem b0 : FlB [7, 1, 2, 0, 3, 739935, 100, 0, 0, 0] := by unfold FlB; decide
theorem b1 : FlB [7, 1, 2, 0, 3, 739935, 100, 30, 0, 0] := by unfold FlB; decide
theorem b2 : FlB [7, 1, 2, 0, 3, 739935, 100, 30, 50, 0] := by unfold FlB; decide
theorem fb_1 (w : World) : Calls Tryz.prog 76 #[.agg #[.int .i64 7, .int .i64 1, .int .i64 2, .int .i64 0, .int .i64 3, .int .i64 739935, .int .i64 100, .int .i64 0, .int .i64 0, .int .i64 0], .int .i64 30] w fun e w' => e = .returned (.tuple #[.agg #[.int .i64 7, .int .i64 1, .int .i64 2, .int .i64 0, .int .i64 3, .int .i64 739935, .int .i64 100, .int .i64 30, .int .i64 0, .int .i64 0], .int .i64 0]) ∧ Kpt w w' :=
  deliver_ok 7 1 2 0 3 739935 100 0 0 0 30 w (by decide) (by decide) (by decide) (by decide) (by decide)
theorem fb_2 (w : World) : Calls Tryz.prog 77 #[.agg #[.int .i64 7, .int .i64 1, .int .i64 2, .int .i64 0, .int .i64 3, .int .i64 739935, .int .i64 100, .int .i64 30, .int .i64 0, .int .i64 0], .int .i64 50] w fun e w' => e = .returned (.tuple #[.agg #[.int .i64 7, .int .i64 1, .int .i64 2, .int .i64 0, .int .i64 3, .int .i64 739935, .int .i64 100, .int .i64 30, .int .i64 50, .int .i64 0], .int .i64 0]) ∧ Kpt w w' :=
  buy_ok 7 1 2 0 3 739935 100 30 0 0 50 w (by decide) (by decide) (by decide) (by decide) (by decide)
theorem fb_3 (w : World) : Calls Tryz.prog 78 #[.agg #[.int .i64 7, .int .i64 1, .int .i64 2, .int .i64 0, .int .i64 3, .int .i64 739935, .int .i64 100, .int .i64 30, .int .i64 50, .int .i64 0]] w fun e w' => e = .returned (.tuple #[.agg #[.int .i64 7, .int .i64 1, .int .i64 2, .int .i64 0, .int .i64 3, .int .i64 739935, .int .i64 100, .int .i64 30, .int .i64 50, .int .i64 20], .int .i64 20, .int .i64 0]) ∧ Kpt w w' :=
  pay_ok 7 1 2 0 3 739935 100 30 50 0 w 20 (by decide) (by decide) (by decide) (by decide) (by decide) (by decide) (by decide)
theorem fb_4 (w : World) : Calls Tryz.prog 34 #[.agg #[.int .i64 7, .int .i64 1, .int .i64 2, .int .i64 0, .int .i64 3, .int .i64 739935, .int .i64 100, .int .i64 30, .int .i64 50, .int .i64 0]] w fun e w' => e = .returned (.tuple #[.int .i64 20, .int .i64 0]) ∧ Kpt w w' := by
  have := fopenX_run 7 1 2 0 3 739935 100 30 50 0 w
  rwa [show openV 7 1 2 0 3 739935 100 30 50 0 = 20 by decide, show failE 7 1 2 0 3 739935 100 30 50 0 = 0 by decide] at this
theorem fb_5 (w : World) (H : Nat) (hH : w.heap.size = H) : Calls Tryz.prog 36 #[.slice (some ⟨H, 0, none⟩) 1 1, .int .i64 7] (w.alloc (.cells #[.int .i64 7, .int .i64 1, .int .i64 2, .int .i64 0, .int .i64 3, .int .i64 739935, .int .i64 100, .int .i64 0, .int .i64 0, .int .i64 0] 42)) fun e w' => e = .returned (.tuple #[.int .i64 0, .int .i64 0]) ∧ Kpt (w.alloc (.cells #[.int .i64 7, .int .i64 1, .int .i64 2, .int .i64 0, .int .i64 3, .int .i64 739935, .int .i64 100, .int .i64 0, .int .i64 0, .int .i64 0] 42)) w' := by
  subst hH
  have hr := readsF_made (w := w) (cs := #[.int .i64 7, .int .i64 1, .int .i64 2, .int .i64 0, .int .i64 3, .int .i64 739935, .int .i64 100, .int .i64 0, .int .i64 0, .int .i64 0]) (fs := [[7, 1, 2, 0, 3, 739935, 100, 0, 0, 0]]) (by unfold maxLen; decide) (by intro l hl; rw [List.mem_singleton.1 hl]; exact b0) (by
    intro k hk j hj
    have : k = 0 := by simp at hk; exact hk
    subst this
    rcases (show j = 0 ∨ j = 1 ∨ j = 2 ∨ j = 3 ∨ j = 4 ∨ j = 5 ∨ j = 6 ∨ j = 7 ∨ j = 8 ∨ j = 9 by omega) with rfl | rfl | rfl | rfl | rfl | rfl | rfl | rfl | rfl | rfl <;> rfl) 1
  have := (find_run _ _ 7 _ hr).2.2 (by decide +kernel) (by decide +kernel)
  rwa [show idxF 7 [[7, 1, 2, 0, 3, 739935, 100, 0, 0, 0]] 0 = 0 by decide +kernel] at this
theorem fb_6 (w : World) : Calls Tryz.prog 76 #[.agg #[.int .i64 7, .int .i64 1, .int .i64 2, .int .i64 0, .int .i64 3, .int .i64 739935, .int .i64 100, .int .i64 30, .int .i64 50, .int .i64 0], .int .i64 21] w fun e w' => e = .returned (.tuple #[.agg #[.int .i64 0, .int .i64 0, .int .i64 0, .int .i64 0, .int .i64 0, .int .i64 0, .int .i64 0, .int .i64 0, .int .i64 0, .int .i64 0], .int .i64 8]) ∧ Kpt w w' :=
  deliver_bad 7 1 2 0 3 739935 100 30 50 0 21 8 w (by decide) (by decide)
theorem fb_7 (w : World) : Calls Tryz.prog 76 #[.agg #[.int .i64 7, .int .i64 1, .int .i64 2, .int .i64 0, .int .i64 3, .int .i64 739935, .int .i64 100, .int .i64 30, .int .i64 50, .int .i64 20], .int .i64 1] w fun e w' => e = .returned (.tuple #[.agg #[.int .i64 0, .int .i64 0, .int .i64 0, .int .i64 0, .int .i64 0, .int .i64 0, .int .i64 0, .int .i64 0, .int .i64 0, .int .i64 0], .int .i64 5]) ∧ Kpt w w' :=
  deliver_bad 7 1 2 0 3 739935 100 30 50 20 1 5 w (by decide) (by decide)
theorem fb_8 (w : World) : Calls Tryz.prog 79 #[.agg #[.int .i64 0, .int .i64 0, .int .i64 0, .int .i64 0, .int .i64 0, .int .i64 0, .int .i64 0, .int .i64 0, .int .i64 0, .int .i64 0]] w fun e w' => e = .returned (.int .i64 3) ∧ Kpt w w' := by
  have := fcheck_run 0 0 0 0 0 0 0 0 0 0 w
  rwa [show failE 0 0 0 0 0 0 0 0 0 0 = 3 by decide] at this
theorem fb_9 (w : World) (H : Nat) (hH : w.heap.size = H) : Calls Tryz.prog 56 #[.slice (some ⟨H, 0, none⟩) 2 2] (w.alloc (.cells #[.int .i64 7, .int .i64 1, .int .i64 2, .int .i64 0, .int .i64 3, .int .i64 739935, .int .i64 100, .int .i64 30, .int .i64 0, .int .i64 0, .int .i64 7, .int .i64 1, .int .i64 2, .int .i64 0, .int .i64 3, .int .i64 739935, .int .i64 100, .int .i64 30, .int .i64 50, .int .i64 0] 42)) fun e w' => e = .returned (.int .i64 6) ∧ Kpt (w.alloc (.cells #[.int .i64 7, .int .i64 1, .int .i64 2, .int .i64 0, .int .i64 3, .int .i64 739935, .int .i64 100, .int .i64 30, .int .i64 0, .int .i64 0, .int .i64 7, .int .i64 1, .int .i64 2, .int .i64 0, .int .i64 3, .int .i64 739935, .int .i64 100, .int .i64 30, .int .i64 50, .int .i64 0] 42)) w' := by
  subst hH
  have hr := readsF_made (w := w) (cs := #[.int .i64 7, .int .i64 1, .int .i64 2, .int .i64 0, .int .i64 3, .int .i64 739935, .int .i64 100, .int .i64 30, .int .i64 0, .int .i64 0, .int .i64 7, .int .i64 1, .int .i64 2, .int .i64 0, .int .i64 3, .int .i64 739935, .int .i64 100, .int .i64 30, .int .i64 50, .int .i64 0]) (fs := [[7, 1, 2, 0, 3, 739935, 100, 30, 0, 0], [7, 1, 2, 0, 3, 739935, 100, 30, 50, 0]]) (by unfold maxLen; decide) (by
    intro l hl
    simp only [List.mem_cons, List.not_mem_nil, or_false] at hl
    rcases hl with rfl | rfl
    · exact b1
    · exact b2) (by
    intro k hk j hj
    rcases (show k = 0 ∨ k = 1 by simp at hk; omega) with rfl | rfl
    · rcases (show j = 0 ∨ j = 1 ∨ j = 2 ∨ j = 3 ∨ j = 4 ∨ j = 5 ∨ j = 6 ∨ j = 7 ∨ j = 8 ∨ j = 9 by omega) with rfl | rfl | rfl | rfl | rfl | rfl | rfl | rfl | rfl | rfl <;> rfl
    · rcases (show j = 0 ∨ j = 1 ∨ j = 2 ∨ j = 3 ∨ j = 4 ∨ j = 5 ∨ j = 6 ∨ j = 7 ∨ j = 8 ∨ j = 9 by omega) with rfl | rfl | rfl | rfl | rfl | rfl | rfl | rfl | rfl | rfl <;> rfl) 2
  have := checks_run _ _ _ hr
  rwa [show checksE [[7, 1, 2, 0, 3, 739935, 100, 30, 0, 0], [7, 1, 2, 0, 3, 739935, 100, 30, 50, 0]] = 6 by decide +kernel] at this

set_option maxRecDepth 100000 in
set_option maxHeartbeats 8000000 in
theorem failBegun (w : World) : Calls Tryz.prog 32 #[] w fun e w' => e = .returned (.bool true) ∧ Kpt w w' := by
  go_enter Tryz.func32, Tryz.ntmps32
  go_wp2_with (first
    | (go_at_call 47; (with_reducible refine (some_run _).mono ?_); rintro e w1 ⟨rfl, k1⟩; have K1 := Lib.hid (ktr (Kpt.refl w) k1); clear k1)
    | (go_at_call 76; (with_reducible refine (fb_1 _).mono ?_); rintro e w2 ⟨rfl, k1⟩; have K2 := Lib.hid (ktr K1.out k1); clear k1)
    | (refine wp_storeF rfl (.tmp 1) (.tmp 19) rfl w2.heap.size _ _ rfl rfl (Blk.made w2 #[.int .i64 0, .int .i64 0, .int .i64 0, .int .i64 0, .int .i64 0, .int .i64 0, .int .i64 0, .int .i64 0, .int .i64 0, .int .i64 0] 42) rfl rfl (by simp [Value.oneCell']) ?_; intro w3 r9 k9 o9; have K3 := Lib.hid (k9 _ _ (K2.out.alloc _) K2.out.size); have BA := Lib.hid r9; clear r9 k9 o9)
    | (refine wp_loadF rfl (.tmp 1) rfl w2.heap.size _ rfl BA.out rfl ?_)
    | (go_at_call 77; (with_reducible refine (fb_2 _).mono ?_); rintro e w4 ⟨rfl, k1⟩; have K4 := Lib.hid (ktr K3.out k1); have BA := Lib.hid (Blk.kpt BA.out k1); clear k1)
    | (refine wp_storeF rfl (.tmp 3) (.tmp 24) rfl w4.heap.size _ _ rfl rfl (Blk.made w4 #[.int .i64 0, .int .i64 0, .int .i64 0, .int .i64 0, .int .i64 0, .int .i64 0, .int .i64 0, .int .i64 0, .int .i64 0, .int .i64 0] 42) rfl rfl (by simp [Value.oneCell']) ?_; intro w5 r9 k9 o9; have K5 := Lib.hid (k9 _ _ (K4.out.alloc _) K4.out.size); have BA : Hid (Blk w5 w2.heap.size #[.int .i64 7, .int .i64 1, .int .i64 2, .int .i64 0, .int .i64 3, .int .i64 739935, .int .i64 100, .int .i64 30, .int .i64 0, .int .i64 0] 42) := Blk.block (Blk.alloc BA.out _) (o9 _ (by have := BA.out.lt; omega)); have BB := Lib.hid r9; clear r9 k9 o9)
    | (refine wp_loadF rfl (.tmp 3) rfl w4.heap.size _ rfl BB.out rfl ?_)
    | (go_at_call 78; (with_reducible refine (fb_3 _).mono ?_); rintro e w6 ⟨rfl, k1⟩; have K6 := Lib.hid (ktr K5.out k1); have BA := Lib.hid (Blk.kpt BA.out k1); have BB := Lib.hid (Blk.kpt BB.out k1); clear k1)
    | (refine wp_storeF rfl (.tmp 5) (.tmp 29) rfl w6.heap.size _ _ rfl rfl (Blk.made w6 #[.int .i64 0, .int .i64 0, .int .i64 0, .int .i64 0, .int .i64 0, .int .i64 0, .int .i64 0, .int .i64 0, .int .i64 0, .int .i64 0] 42) rfl rfl (by simp [Value.oneCell']) ?_; intro w7 r9 k9 o9; have K7 := Lib.hid (k9 _ _ (K6.out.alloc _) K6.out.size); have BA : Hid (Blk w7 w2.heap.size #[.int .i64 7, .int .i64 1, .int .i64 2, .int .i64 0, .int .i64 3, .int .i64 739935, .int .i64 100, .int .i64 30, .int .i64 0, .int .i64 0] 42) := Blk.block (Blk.alloc BA.out _) (o9 _ (by have := BA.out.lt; omega)); have BB : Hid (Blk w7 w4.heap.size #[.int .i64 7, .int .i64 1, .int .i64 2, .int .i64 0, .int .i64 3, .int .i64 739935, .int .i64 100, .int .i64 30, .int .i64 50, .int .i64 0] 42) := Blk.block (Blk.alloc BB.out _) (o9 _ (by have := BB.out.lt; omega)); have BC := Lib.hid r9; clear r9 k9 o9)
    | (refine wp_loadF rfl (.tmp 5) rfl w6.heap.size _ rfl BC.out rfl ?_)
    | (go_at_call 34; (with_reducible refine (fb_4 _).mono ?_); rintro e w8 ⟨rfl, k1⟩; have K8 := Lib.hid (ktr K7.out k1); have BA := Lib.hid (Blk.kpt BA.out k1); have BB := Lib.hid (Blk.kpt BB.out k1); have BC := Lib.hid (Blk.kpt BC.out k1); clear k1)
    | (go_at_call 47; (with_reducible refine (some_run w8).mono ?_); rintro e w9 ⟨rfl, k1⟩; have K9 := Lib.hid (ktr K8.out k1); have BA := Lib.hid (Blk.kpt BA.out k1); have BB := Lib.hid (Blk.kpt BB.out k1); have BC := Lib.hid (Blk.kpt BC.out k1); clear k1)
    | (go_at_call 36; (with_reducible refine (fb_5 w9 _ rfl).mono ?_); rintro e w10 ⟨rfl, k1⟩; have K10 := Lib.hid (ktr (K9.out.alloc _) k1); have BA := Lib.hid (Blk.kpt (Blk.alloc BA.out _) k1); have BB := Lib.hid (Blk.kpt (Blk.alloc BB.out _) k1); have BC := Lib.hid (Blk.kpt (Blk.alloc BC.out _) k1); clear k1)
    | (go_at_call 76; (with_reducible refine (fb_6 _).mono ?_); rintro e w11 ⟨rfl, k1⟩; have K11 := Lib.hid (ktr K10.out k1); have BA := Lib.hid (Blk.kpt BA.out k1); have BB := Lib.hid (Blk.kpt BB.out k1); have BC := Lib.hid (Blk.kpt BC.out k1); clear k1)
    | (refine wp_storeF rfl (.tmp 12) (.tmp 46) rfl w11.heap.size _ _ rfl rfl (Blk.made w11 #[.int .i64 0, .int .i64 0, .int .i64 0, .int .i64 0, .int .i64 0, .int .i64 0, .int .i64 0, .int .i64 0, .int .i64 0, .int .i64 0] 42) rfl rfl (by simp [Value.oneCell']) ?_; intro w12 r9 k9 o9; have K12 := Lib.hid (k9 _ _ (K11.out.alloc _) K11.out.size); have BA : Hid (Blk w12 w2.heap.size #[.int .i64 7, .int .i64 1, .int .i64 2, .int .i64 0, .int .i64 3, .int .i64 739935, .int .i64 100, .int .i64 30, .int .i64 0, .int .i64 0] 42) := Blk.block (Blk.alloc BA.out _) (o9 _ (by have := BA.out.lt; omega)); have BB : Hid (Blk w12 w4.heap.size #[.int .i64 7, .int .i64 1, .int .i64 2, .int .i64 0, .int .i64 3, .int .i64 739935, .int .i64 100, .int .i64 30, .int .i64 50, .int .i64 0] 42) := Blk.block (Blk.alloc BB.out _) (o9 _ (by have := BB.out.lt; omega)); have BC : Hid (Blk w12 w6.heap.size #[.int .i64 7, .int .i64 1, .int .i64 2, .int .i64 0, .int .i64 3, .int .i64 739935, .int .i64 100, .int .i64 30, .int .i64 50, .int .i64 20] 42) := Blk.block (Blk.alloc BC.out _) (o9 _ (by have := BC.out.lt; omega)); clear r9 k9 o9)
    | (go_at_call 76; (with_reducible refine (fb_7 _).mono ?_); rintro e w13 ⟨rfl, k1⟩; have K13 := Lib.hid (ktr K12.out k1); have BA := Lib.hid (Blk.kpt BA.out k1); have BB := Lib.hid (Blk.kpt BB.out k1); have BC := Lib.hid (Blk.kpt BC.out k1); clear k1)
    | (refine wp_storeF rfl (.tmp 14) (.tmp 51) rfl w13.heap.size _ _ rfl rfl (Blk.made w13 #[.int .i64 0, .int .i64 0, .int .i64 0, .int .i64 0, .int .i64 0, .int .i64 0, .int .i64 0, .int .i64 0, .int .i64 0, .int .i64 0] 42) rfl rfl (by simp [Value.oneCell']) ?_; intro w14 r9 k9 o9; have K14 := Lib.hid (k9 _ _ (K13.out.alloc _) K13.out.size); have BA : Hid (Blk w14 w2.heap.size #[.int .i64 7, .int .i64 1, .int .i64 2, .int .i64 0, .int .i64 3, .int .i64 739935, .int .i64 100, .int .i64 30, .int .i64 0, .int .i64 0] 42) := Blk.block (Blk.alloc BA.out _) (o9 _ (by have := BA.out.lt; omega)); have BB : Hid (Blk w14 w4.heap.size #[.int .i64 7, .int .i64 1, .int .i64 2, .int .i64 0, .int .i64 3, .int .i64 739935, .int .i64 100, .int .i64 30, .int .i64 50, .int .i64 0] 42) := Blk.block (Blk.alloc BB.out _) (o9 _ (by have := BB.out.lt; omega)); have BC : Hid (Blk w14 w6.heap.size #[.int .i64 7, .int .i64 1, .int .i64 2, .int .i64 0, .int .i64 3, .int .i64 739935, .int .i64 100, .int .i64 30, .int .i64 50, .int .i64 20] 42) := Blk.block (Blk.alloc BC.out _) (o9 _ (by have := BC.out.lt; omega)); have ca : World.cell? w14 ⟨w2.heap.size, 7, none⟩ = some (.int .i64 30) := BA.out.cell 7; have cb : World.cell? w14 ⟨w4.heap.size, 8, none⟩ = some (.int .i64 50) := BB.out.cell 8; have cc : World.cell? w14 ⟨w6.heap.size, 9, none⟩ = some (.int .i64 20) := BC.out.cell 9; clear r9 k9 o9)
    | (go_at_call 79; (with_reducible refine (fb_8 _).mono ?_); rintro e w15 ⟨rfl, k1⟩; have K15 := Lib.hid (ktr K14.out k1); have BA := Lib.hid (Blk.kpt BA.out k1); have BB := Lib.hid (Blk.kpt BB.out k1); have BC := Lib.hid (Blk.kpt BC.out k1); have x0 : World.cell? w15 ⟨w2.heap.size, 0, none⟩ = some (.int .i64 7) := BA.out.cell 0; have y0 : World.cell? w15 ⟨w4.heap.size, 0, none⟩ = some (.int .i64 7) := BB.out.cell 0; have x1 : World.cell? w15 ⟨w2.heap.size, 1, none⟩ = some (.int .i64 1) := BA.out.cell 1; have y1 : World.cell? w15 ⟨w4.heap.size, 1, none⟩ = some (.int .i64 1) := BB.out.cell 1; have x2 : World.cell? w15 ⟨w2.heap.size, 2, none⟩ = some (.int .i64 2) := BA.out.cell 2; have y2 : World.cell? w15 ⟨w4.heap.size, 2, none⟩ = some (.int .i64 2) := BB.out.cell 2; have x3 : World.cell? w15 ⟨w2.heap.size, 3, none⟩ = some (.int .i64 0) := BA.out.cell 3; have y3 : World.cell? w15 ⟨w4.heap.size, 3, none⟩ = some (.int .i64 0) := BB.out.cell 3; have x4 : World.cell? w15 ⟨w2.heap.size, 4, none⟩ = some (.int .i64 3) := BA.out.cell 4; have y4 : World.cell? w15 ⟨w4.heap.size, 4, none⟩ = some (.int .i64 3) := BB.out.cell 4; have x5 : World.cell? w15 ⟨w2.heap.size, 5, none⟩ = some (.int .i64 739935) := BA.out.cell 5; have y5 : World.cell? w15 ⟨w4.heap.size, 5, none⟩ = some (.int .i64 739935) := BB.out.cell 5; have x6 : World.cell? w15 ⟨w2.heap.size, 6, none⟩ = some (.int .i64 100) := BA.out.cell 6; have y6 : World.cell? w15 ⟨w4.heap.size, 6, none⟩ = some (.int .i64 100) := BB.out.cell 6; have x7 : World.cell? w15 ⟨w2.heap.size, 7, none⟩ = some (.int .i64 30) := BA.out.cell 7; have y7 : World.cell? w15 ⟨w4.heap.size, 7, none⟩ = some (.int .i64 30) := BB.out.cell 7; have x8 : World.cell? w15 ⟨w2.heap.size, 8, none⟩ = some (.int .i64 0) := BA.out.cell 8; have y8 : World.cell? w15 ⟨w4.heap.size, 8, none⟩ = some (.int .i64 50) := BB.out.cell 8; have x9 : World.cell? w15 ⟨w2.heap.size, 9, none⟩ = some (.int .i64 0) := BA.out.cell 9; have y9 : World.cell? w15 ⟨w4.heap.size, 9, none⟩ = some (.int .i64 0) := BB.out.cell 9; clear k1)
    | (go_at_call 56; (with_reducible refine (fb_9 w15 _ rfl).mono ?_); rintro e w16 ⟨rfl, k1⟩; have K16 := Lib.hid (ktr (K15.out.alloc _) k1); clear k1))
  go_ret
  exact ⟨rfl, K16.out⟩

end Go.Proofs.YthaahebggboliaaGreat

-- CycU
namespace Go.Proofs.YthaahebggboliaaGreat
open Go.RowKit
set_option linter.unusedVariables false

theorem cm_0 {W : Int} {hs : List Int} {ts : List (List Int)} {ps : List Int} {X q : Int} : ∀ {fs : List (List Int)} {b : List (Int × Int × Int)}, cmE W hs ts ps X q fs b = 0 → ∀ l ∈ fs, lkL W hs (tlOf ts l) l q = 0
  | [], _, _ => fun l hl => by cases hl
  | m :: fs, b, h => by
    unfold cmE at h
    split at h
    · next h1 =>
      have ih : ∃ b', cmE W hs ts ps X q fs b' = 0 := by
        split at h
        · split at h
          · exact ⟨_, h⟩
          · next h3 => exact absurd h h3
        · exact ⟨_, h⟩
      obtain ⟨b', ih⟩ := ih
      intro l hl
      rcases List.mem_cons.1 hl with rfl | hl
      · exact h1
      · exact cm_0 ih l hl
    · next h1 => exact absurd h h1
theorem nt_0 {W X T : Int} {hs ps : List Int} {ts fs : List (List Int)} {b : List (Int × Int × Int)} (h : ntE W hs ts X fs ps T b = 0) : rulE W hs ts X = 0 ∧ wldE T fs b = 0 ∧ pnE W hs ts fs ps T b = 0 ∧ cmE W hs ts ps X T fs (pnB W hs ts fs ps T b) = 0 ∧ steE W hs T 1 = 0 := by
  obtain ⟨h1, h2⟩ := orE_0 h
  obtain ⟨h3, h4⟩ := orE_0 h2
  unfold nigE at h4
  split at h4
  · next h5 =>
    split at h4
    · next h6 => exact ⟨h1, h3, h5, h6, h4⟩
    · next h6 => exact absurd h4 h6
  · next h5 => exact absurd h4 h5
theorem fail_pay {i f t c p d u x b y : Int} (h : failE i f t c p d u x b y = 0) : failE i f t c p d u x b (y + openV i f t c p d u x b y) = 0 ∧ openV i f t c p d u x b (y + openV i f t c p d u x b y) = 0 := by
  obtain ⟨h1, h2, h3, h4⟩ := fail_0 h
  have e : openV i f t c p d u x b y = u - x - b - y := by unfold openV; rw [if_pos h]
  rw [e]
  have k : failE i f t c p d u x b (y + (u - x - b - y)) = 0 := by
    unfold failE
    rw [if_pos h1, if_neg h2, if_pos, if_neg (by omega)]
    obtain ⟨a1, a2, a3⟩ := ftk_t h3
    simp only [ftk, Bool.and_eq_true]
    exact ⟨decide_eq_true a1, decide_eq_true a2, decide_eq_true (by omega)⟩
  refine ⟨k, ?_⟩
  unfold openV
  rw [if_pos k]
  omega
theorem payF_ok {l : List Int} (h : failEL l = 0) : failEL (payF l) = 0 ∧ opL (payF l) = 0 := fail_pay h
/-- what a fail is behind a night -/
theorem cmG_ok {W : Int} {hs : List Int} {ts : List (List Int)} {q : Int} {l : List Int} (h : lkL W hs (tlOf ts l) l q = 0) :
    failEL (cmG W hs ts q l) = 0 ∧ tlOf ts (cmG W hs ts q l) = tlOf ts l ∧ (cmG W hs ts q l).getD 5 0 = l.getD 5 0 ∧ (cmG W hs ts q l).getD 3 0 = l.getD 3 0 := by
  have hf := lkL_fl h
  unfold cmG
  split
  · exact ⟨(payF_ok hf).1, rfl, rfl, rfl⟩
  · exact ⟨hf, rfl, rfl, rfl⟩
theorem cmG_end {W : Int} {hs : List Int} {ts : List (List Int)} {q : Int} {l : List Int} (h : lkL W hs (tlOf ts l) l q = 0) (ht : 0 ≤ (tlOf ts l).getD 0 0 ∧ 0 ≤ (tlOf ts l).getD 1 0 ∧ 0 ≤ (tlOf ts l).getD 2 0)
    (h3 : dayAt W hs (l.getD 5 0) ((tlOf ts l).getD 0 0) ((tlOf ts l).getD 1 0) ((tlOf ts l).getD 2 0) 3 < q) (h5 : l.getD 5 0 < q) : opL (cmG W hs ts q l) = 0 := by
  obtain ⟨k1, k2, k3, k4⟩ := lk_0 h
  have up := day_up ht.1 ht.2.1 ht.2.2 k4
  have hf := lkL_fl h
  unfold cmG
  split
  · exact (payF_ok hf).2
  · next h4 =>
    have e : stL W hs (tlOf ts l) l q = stgV (opL l) (l.getD 5 0) (dayAt W hs (l.getD 5 0) ((tlOf ts l).getD 0 0) ((tlOf ts l).getD 1 0) ((tlOf ts l).getD 2 0) 1) (dayAt W hs (l.getD 5 0) ((tlOf ts l).getD 0 0) ((tlOf ts l).getD 1 0) ((tlOf ts l).getD 2 0) 2) (dayAt W hs (l.getD 5 0) ((tlOf ts l).getD 0 0) ((tlOf ts l).getD 1 0) ((tlOf ts l).getD 2 0) 3) q := if_pos h
    rw [e] at h4
    unfold stgV at h4
    by_cases o0 : opL l = 0
    · exact o0
    · exfalso
      apply h4
      rw [if_neg o0, if_neg (by omega), if_neg (by omega), if_neg (by omega), if_neg (by omega)]

end Go.Proofs.YthaahebggboliaaGreat

-- LawCE
namespace Go.Proofs.YthaahebggboliaaGreat
open Go.RowKit Go.Sort Go.Lib
set_option linter.unusedVariables false

set_option maxRecDepth 100000 in
set_option maxHeartbeats 4000000 in
theorem cen_no (W X T : Int) (ah at' a ab : Option Addr) (nh ch nt ct n c nb cb : Nat) (pv : Value) (w : World) (E : Int) (hE : (E != 0) = true)
    (A1 : ∀ w', Kpt w w' → Calls Tryz.prog 11 #[.agg #[.int .i64 W, .slice ah nh ch, .slice at' nt ct, .int .i64 X], .agg #[.int .i64 T, .slice a n c, .slice ab nb cb], pv] w' (NtRes w' E 0 [] [] [])) : Calls Tryz.prog 6 #[.agg #[.int .i64 W, .slice ah nh ch, .slice at' nt ct, .int .i64 X], .agg #[.int .i64 T, .slice a n c, .slice ab nb cb], pv] w fun e w' => e = .returned (.bool true) ∧ Kpt w w' := by
  have K3 : Hid (Kpt w ((w.alloc (.cells #[.int .i64 W, .slice ah nh ch, .slice at' nt ct, .int .i64 X] 27)).alloc (.cells #[.int .i64 T, .slice a n c, .slice ab nb cb] 31))) := ((Kpt.refl w).alloc _).alloc _
  have B3 : Hid (Blk ((w.alloc (.cells #[.int .i64 W, .slice ah nh ch, .slice at' nt ct, .int .i64 X] 27)).alloc (.cells #[.int .i64 T, .slice a n c, .slice ab nb cb] 31)) w.heap.size #[.int .i64 W, .slice ah nh ch, .slice at' nt ct, .int .i64 X] 27) := (Blk.made w _ _).alloc _
  have B4 : Hid (Blk ((w.alloc (.cells #[.int .i64 W, .slice ah nh ch, .slice at' nt ct, .int .i64 X] 27)).alloc (.cells #[.int .i64 T, .slice a n c, .slice ab nb cb] 31)) (w.heap.size + 1) #[.int .i64 T, .slice a n c, .slice ab nb cb] 31) := by
    have := Blk.made (w.alloc (.cells #[.int .i64 W, .slice ah nh ch, .slice at' nt ct, .int .i64 X] 27)) #[.int .i64 T, .slice a n c, .slice ab nb cb] 31
    rw [World.size_alloc] at this
    exact this
  go_enter Tryz.func6, Tryz.ntmps6
  go_wp2_with (first
    | (go_at_call 11; (with_reducible refine (A1 _ K3.out).mono ?_); rintro e w1 ⟨fv1, bv1, qv1, rfl, of1, ob1, oq1, k1⟩; have K1 : Hid (Kpt w w1) := ktr K3.out k1; have KW1 : Hid (Kpt ((w.alloc (.cells #[.int .i64 W, .slice ah nh ch, .slice at' nt ct, .int .i64 X] 27)).alloc (.cells #[.int .i64 T, .slice a n c, .slice ab nb cb] 31)) w1) := k1; have OF1 := Lib.hid of1; have OB1 := Lib.hid ob1; obtain ⟨a1, c1, rfl⟩ := formN 0 of1 rfl; obtain ⟨b1, d1, rfl⟩ := formQ 0 ob1 rfl; obtain ⟨g1, h1, rfl⟩ := formQ 0 oq1 rfl; have Z1 : Hid (Blk (w1.alloc (.cells #[.int .i64 0, .slice none 0 0, .slice none 0 0] 31)) w1.heap.size #[.int .i64 0, .slice none 0 0, .slice none 0 0] 31) := Blk.made _ _ _; have KZ1 : Hid (Kpt w (w1.alloc (.cells #[.int .i64 0, .slice none 0 0, .slice none 0 0] 31))) := K1.out.alloc _; clear of1 ob1 oq1 k1 A1)
    | (refine wp_storeW rfl (.tmp 7) (.tmp 22) rfl w1.heap.size _ _ rfl rfl Z1.out rfl rfl (by simp [Value.oneCell']) ?_; intro w2 r9 k9 o9; have R2 := Lib.hid r9; have K2 : Hid (Kpt w w2) := k9 _ _ KZ1.out (Below.size K1.out); have KK2 : Hid (Kpt w1 w2) := k9 _ _ ((Kpt.refl w1).alloc _) (Nat.le_refl _); clear r9 k9 o9)
    | (go_at_call 13; (with_reducible refine (cycleBegun_run _).mono ?_); rintro e w2b ⟨rfl, kk⟩; have KKw2b : Hid (Kpt w2 w2b) := kk; clear kk)
    | (go_at_call 28; (with_reducible refine (ageBegun _).mono ?_); rintro e w2c ⟨rfl, kk⟩; have KKw2c : Hid (Kpt w2 w2c) := ktr KKw2b.out kk; clear kk)
    | (go_at_call 32; (with_reducible refine (failBegun _).mono ?_); rintro e w3 ⟨rfl, kk⟩; have KKw3 : Hid (Kpt w2 w3) := ktr KKw2c.out kk; have K3b : Hid (Kpt w w3) := ktr K2.out KKw3.out; clear kk)
    | fail)
  go_ret
  exact ⟨rfl, K3b.out⟩

/-- what CycleEnds asks of a fail behind a night -/
def EndOk (W : Int) (hs : List Int) (ts : List (List Int)) (T : Int) (l : List Int) : Prop :=
  failEL l = 0 ∧ (0 ≤ l.getD 3 0 ∧ l.getD 3 0 ≤ 5) ∧ agE W hs ((tlOf ts l).getD 0 0) ((tlOf ts l).getD 1 0) ((tlOf ts l).getD 2 0) ((tlOf ts l).getD 3 0) (l.getD 5 0) = 0 ∧
  (agD W hs ((tlOf ts l).getD 0 0) ((tlOf ts l).getD 1 0) ((tlOf ts l).getD 2 0) ((tlOf ts l).getD 3 0) (l.getD 5 0) 3 < T → l.getD 5 0 < T → opL l = 0) ∧ 0 ≤ opL l
set_option maxRecDepth 100000 in
set_option maxHeartbeats 4000000 in
theorem cen_ok (W X T : Int) (ah at' a ab : Option Addr) (nh ch nt ct n c nb cb : Nat) (pv : Value) (w : World) (hs : List Int) (ts F : List (List Int)) (B Pp : List (Int × Int × Int)) (T1 : Int) (hr : Reads w (.slice ah nh ch) hs) (hf : Fits hs) (ht : ReadsT w (.slice at' nt ct) ts) (h6 : ts.length = 6)
    (EO : ∀ l ∈ F, EndOk W hs ts T l) (h60 : F.length ≤ 60)
    (A1 : ∀ w', Kpt w w' → Calls Tryz.prog 11 #[.agg #[.int .i64 W, .slice ah nh ch, .slice at' nt ct, .int .i64 X], .agg #[.int .i64 T, .slice a n c, .slice ab nb cb], pv] w' (NtRes w' 0 T1 F B Pp)) : Calls Tryz.prog 6 #[.agg #[.int .i64 W, .slice ah nh ch, .slice at' nt ct, .int .i64 X], .agg #[.int .i64 T, .slice a n c, .slice ab nb cb], pv] w fun e w' => e = .returned (.bool true) ∧ Kpt w w' := by
  obtain ⟨nF, hF'⟩ : ∃ n, n = F.length := ⟨_, rfl⟩
  have HNF := Lib.hid hF'
  rw [← hF'] at h60
  clear hF'
  have H60 := Lib.hid h60
  have HR := Lib.hid hr
  have HFI := Lib.hid hf
  have HEO := Lib.hid EO
  have H6 := Lib.hid h6
  have HT : Hid (∀ k, k < ts.length → ∃ g off, at' = some ⟨g, off, none⟩ ∧ ∀ j, j < 4 → w.cell? ⟨g, off + k * 4 + j, none⟩ = some (.int .i64 ((ts.getD k []).getD j 0))) := by
    obtain ⟨x, cap, e, -, hc⟩ := ht
    injection e with e1 e2 e3
    subst e1
    exact hc
  have HNT : Hid (nt = 6) := by
    obtain ⟨x, cap, e, -, hc⟩ := ht
    injection e with e1 e2 e3
    exact e2.trans h6
  have mixed : Tryz.prog.follows .mixedOrders = true := by kernel_rfl
  clear hr hf EO h6 ht h60
  have K3 : Hid (Kpt w ((w.alloc (.cells #[.int .i64 W, .slice ah nh ch, .slice at' nt ct, .int .i64 X] 27)).alloc (.cells #[.int .i64 T, .slice a n c, .slice ab nb cb] 31))) := ((Kpt.refl w).alloc _).alloc _
  have B3 : Hid (Blk ((w.alloc (.cells #[.int .i64 W, .slice ah nh ch, .slice at' nt ct, .int .i64 X] 27)).alloc (.cells #[.int .i64 T, .slice a n c, .slice ab nb cb] 31)) w.heap.size #[.int .i64 W, .slice ah nh ch, .slice at' nt ct, .int .i64 X] 27) := (Blk.made w _ _).alloc _
  have B4 : Hid (Blk ((w.alloc (.cells #[.int .i64 W, .slice ah nh ch, .slice at' nt ct, .int .i64 X] 27)).alloc (.cells #[.int .i64 T, .slice a n c, .slice ab nb cb] 31)) (w.heap.size + 1) #[.int .i64 T, .slice a n c, .slice ab nb cb] 31) := by
    have := Blk.made (w.alloc (.cells #[.int .i64 W, .slice ah nh ch, .slice at' nt ct, .int .i64 X] 27)) #[.int .i64 T, .slice a n c, .slice ab nb cb] 31
    rw [World.size_alloc] at this
    exact this
  go_enter Tryz.func6, Tryz.ntmps6
  go_upto_region 6 with (first
    | (go_at_call 11; (with_reducible refine (A1 _ K3.out).mono ?_); rintro e w1 ⟨fv1, bv1, qv1, rfl, of1, ob1, oq1, k1⟩; have K1 : Hid (Kpt w w1) := ktr K3.out k1; have KW1 : Hid (Kpt ((w.alloc (.cells #[.int .i64 W, .slice ah nh ch, .slice at' nt ct, .int .i64 X] 27)).alloc (.cells #[.int .i64 T, .slice a n c, .slice ab nb cb] 31)) w1) := k1; have OF1 := Lib.hid of1; have OB1 := Lib.hid ob1; obtain ⟨a1, c1, rfl⟩ := formN nF of1 HNF.out.symm; obtain ⟨b1, d1, rfl⟩ := OwnsP.form ob1; obtain ⟨g1, h1, rfl⟩ := OwnsP.form oq1; have Z1 : Hid (Blk (w1.alloc (.cells #[.int .i64 0, .slice none 0 0, .slice none 0 0] 31)) w1.heap.size #[.int .i64 0, .slice none 0 0, .slice none 0 0] 31) := Blk.made _ _ _; have KZ1 : Hid (Kpt w (w1.alloc (.cells #[.int .i64 0, .slice none 0 0, .slice none 0 0] 31))) := K1.out.alloc _; clear of1 ob1 oq1 k1 A1)
    | (refine wp_storeW rfl (.tmp 7) (.tmp 22) rfl w1.heap.size _ _ rfl rfl Z1.out rfl rfl (by simp [Value.oneCell']) ?_; intro w2 r9 k9 o9; have R2 := Lib.hid r9; have K2 : Hid (Kpt w w2) := k9 _ _ KZ1.out (Below.size K1.out); have KK2 : Hid (Kpt w1 w2) := k9 _ _ ((Kpt.refl w1).alloc _) (Nat.le_refl _); clear r9 k9 o9)
    | (go_at_call 13; (with_reducible refine (cycleBegun_run _).mono ?_); rintro e w2b ⟨rfl, kk⟩; have KKw2b : Hid (Kpt w2 w2b) := kk; clear kk)
    | (go_at_call 28; (with_reducible refine (ageBegun _).mono ?_); rintro e w2c ⟨rfl, kk⟩; have KKw2c : Hid (Kpt w2 w2c) := ktr KKw2b.out kk; clear kk)
    | (go_at_call 32; (with_reducible refine (failBegun _).mono ?_); rintro e w3 ⟨rfl, kk⟩; have KKw3 : Hid (Kpt w2 w3) := ktr KKw2c.out kk; have K3b : Hid (Kpt w w3) := ktr K2.out KKw3.out; clear kk)
    | fail)
  have KW3 : Hid (Kpt ((w.alloc (.cells #[.int .i64 W, .slice ah nh ch, .slice at' nt ct, .int .i64 X] 27)).alloc (.cells #[.int .i64 T, .slice a n c, .slice ab nb cb] 31)) w3) := ktr (ktr KW1.out KK2.out) KKw3.out
  have BR := Lib.hid (B3.out.kpt KW3.out)
  have BW := Lib.hid (B4.out.kpt KW3.out)
  have BX := Lib.hid (R2.out.kpt KKw3.out)
  have OX := Lib.hid (OwnsN.kpt OF1.out (ktr KK2.out KKw3.out))
  have HX : Hid (∀ k, k < nF → ∃ g, a1 = some ⟨g, 0, none⟩ ∧ ∀ j, j < 10 → w3.cell? ⟨g, k * 10 + j, none⟩ = some (.int .i64 ((F.getD k []).getD j 0))) := fun k hk => by
    obtain ⟨a', cap', e, -, hc⟩ := OwnsN.cells OX.out
    injection e with e1 e2 e3
    obtain ⟨g, e', h'⟩ := hc k (by rw [← HNF.out]; exact hk)
    exact ⟨g, e1.trans e', h'⟩
  clear K1 KW1 OF1 OB1 Z1 KZ1 R2 K2 KK2 KKw2b KKw2c KKw3 KW3 K3 B3 B4 OX
  go_wp2
  go_loopw [10] (fun ii wr => ∃ k : Nat, k ≤ nF ∧ ii = .int .i64 (k : Int) ∧ Hid (Kpt w3 wr)) (fun ii _ => nF - (intOf ii).toNat)
  case atStart => exact ⟨0, Nat.zero_le _, rfl, Kpt.refl _⟩
  case round =>
    obtain ⟨k, hk, rfl, HK⟩ := hrel
    have x1 : World.cell? wr ⟨w1.heap.size, 1, none⟩ = some (.slice a1 nF c1) := (BX.out.kpt HK.out).cell 1
    by_cases hlt : k < nF
    · obtain ⟨g, rfl, hc⟩ := HX.out k hlt
      have eo := HEO.out (F.getD k []) (getF_mem (by rw [← HNF.out]; exact hlt))
      clear HX HEO
      generalize F.getD k [] = l at *
      obtain ⟨e1, e2, e3, e4, e5⟩ := eo
      obtain ⟨gt, ot, rfl, htc⟩ := HT.out (l.getD 3 0).toNat (by have := H6.out; omega)
      clear HT
      have DY := Lib.hid (fun w' (kk : Kpt w w') => days_run W (l.getD 5 0) ((tlOf ts l).getD 0 0) ((tlOf ts l).getD 1 0) ((tlOf ts l).getD 2 0) ((tlOf ts l).getD 3 0) _ hs w' (HR.out.kpt kk) HFI.out)
      have FO := Lib.hid (fun w' => fopenX_run (l.getD 0 0) (l.getD 1 0) (l.getD 2 0) (l.getD 3 0) (l.getD 4 0) (l.getD 5 0) (l.getD 6 0) (l.getD 7 0) (l.getD 8 0) (l.getD 9 0) w')
      change Hid (∀ w', Calls Tryz.prog 34 _ w' fun e w'' => e = .returned (.tuple #[.int .i64 (opL l), .int .i64 (failEL l)]) ∧ Kpt w' w'') at FO
      rw [e1] at FO
      rw [e3] at DY
      unfold calV at DY
      have h0 : w.cell? ⟨gt, ot + (l.getD 3 0).toNat * 4, none⟩ = some (.int .i64 ((tlOf ts l).getD 0 0)) := htc 0 (by omega)
      have h1' : w.cell? ⟨gt, ot + (l.getD 3 0).toNat * 4 + 1, none⟩ = some (.int .i64 ((tlOf ts l).getD 1 0)) := htc 1 (by omega)
      have h2' : w.cell? ⟨gt, ot + (l.getD 3 0).toNat * 4 + 2, none⟩ = some (.int .i64 ((tlOf ts l).getD 2 0)) := htc 2 (by omega)
      have h3' : w.cell? ⟨gt, ot + (l.getD 3 0).toNat * 4 + 3, none⟩ = some (.int .i64 ((tlOf ts l).getD 3 0)) := htc 3 (by omega)
      have c0 := hc 0 (by decide)
      have c1_ := hc 1 (by decide)
      have c2_ := hc 2 (by decide)
      have c3_ := hc 3 (by decide)
      have c4_ := hc 4 (by decide)
      have c5_ := hc 5 (by decide)
      have c6_ := hc 6 (by decide)
      have c7_ := hc 7 (by decide)
      have c8_ := hc 8 (by decide)
      have c9_ := hc 9 (by decide)
      clear htc hc e1 e3
      generalize agD W hs ((tlOf ts l).getD 0 0) ((tlOf ts l).getD 1 0) ((tlOf ts l).getD 2 0) ((tlOf ts l).getD 3 0) (l.getD 5 0) 1 = y1 at *
      generalize agD W hs ((tlOf ts l).getD 0 0) ((tlOf ts l).getD 1 0) ((tlOf ts l).getD 2 0) ((tlOf ts l).getD 3 0) (l.getD 5 0) 2 = y2 at *
      generalize agD W hs ((tlOf ts l).getD 0 0) ((tlOf ts l).getD 1 0) ((tlOf ts l).getD 2 0) ((tlOf ts l).getD 3 0) (l.getD 5 0) 3 = y3 at *
      generalize (tlOf ts l).getD 0 0 = te at *
      generalize (tlOf ts l).getD 1 0 = tb at *
      generalize (tlOf ts l).getD 2 0 = td at *
      generalize (tlOf ts l).getD 3 0 = tr at *
      generalize opL l = o at *
      generalize l.getD 0 0 = z0 at *
      generalize l.getD 1 0 = z1 at *
      generalize l.getD 2 0 = z2 at *
      generalize l.getD 3 0 = z3 at *
      generalize l.getD 4 0 = z4 at *
      generalize l.getD 5 0 = z5 at *
      generalize l.getD 6 0 = z6 at *
      generalize l.getD 7 0 = z7 at *
      generalize l.getD 8 0 = z8 at *
      generalize l.getD 9 0 = z9 at *
      have q1 : decide ((k : Int) < (nF : Int)) = true := decide_eq_true (by omega)
      have i0 : (0 : Int) ≤ (k : Int) := by omega
      have i1 : (k : Int) < (nF : Int) := by omega
      have j0 : 0 ≤ z3 := e2.1
      have j1 : z3 < (nt : Int) := by have := HNT.out; omega
      have m0 : IntKind.i64.wrap ((k : Int) + 1) = (k : Int) + 1 := IntWalk.i64_in _ (by have := H60.out; omega)
      go_upto_region 9 with fail
      have KWr : Hid (Kpt w wr) := ktr K3b.out HK.out
      have g0 := cell_k (q := wr) (a := ⟨w.heap.size, 0, none⟩) (v := .int .i64 W) ((BR.out.kpt HK.out).cell 0)
      have g1' := cell_k (q := wr) (a := ⟨w.heap.size, 1, none⟩) (v := .slice ah nh ch) ((BR.out.kpt HK.out).cell 1)
      have g2 := cell_k (q := wr) (a := ⟨w.heap.size, 2, none⟩) (v := .slice (some ⟨gt, ot, none⟩) nt ct) ((BR.out.kpt HK.out).cell 2)
      have r0 := cell_k (q := wr) (KWr.out.cell h0)
      have r1 := cell_k (q := wr) (KWr.out.cell h1')
      have r2 := cell_k (q := wr) (KWr.out.cell h2')
      have r3 := cell_k (q := wr) (KWr.out.cell h3')
      have s1 := cell_k (q := wr) x1
      have s3 := cell_k (q := wr) (a := ⟨g, k * 10 + 3, none⟩) (v := .int .i64 z3) (HK.out.cell c3_)
      have s5 := cell_k (q := wr) (a := ⟨g, k * 10 + 5, none⟩) (v := .int .i64 z5) (HK.out.cell c5_)
      have DQ := Lib.hid (fun p : KptTo wr => DY.out p.w (ktr KWr.out p.h))
      clear DY h0 h1' h2' h3' x1
      refine quiet_k (q := wr) mixed (by kernel_rfl) ?_
      repeat (go_big_quiet_step (first | (go_at_call 33; with_reducible refine calls_k (DQ.out _)) | fail))
      refine wpQuiet_nil ?_
      intro w6 hw1
      obtain ⟨⟨wz, kz⟩, hw2⟩ := hw1
      have hw3 : w6 = wz := hw2
      clear hw2
      subst hw3
      have KZ : Hid (Kpt w3 w6) := ktr HK.out kz
      clear kz g0 g1' g2 r0 r1 r2 r3 s1 s3 s5 DQ
      have x1 : World.cell? w6 ⟨w1.heap.size, 1, none⟩ = some (.slice (some ⟨g, 0, none⟩) nF c1) := (BX.out.kpt KZ.out).cell 1
      have d0 : World.cell? w6 ⟨g, k * 10, none⟩ = some (.int .i64 z0) := KZ.out.cell c0
      have d1 : World.cell? w6 ⟨g, k * 10 + 1, none⟩ = some (.int .i64 z1) := KZ.out.cell c1_
      have d2 : World.cell? w6 ⟨g, k * 10 + 2, none⟩ = some (.int .i64 z2) := KZ.out.cell c2_
      have d3 : World.cell? w6 ⟨g, k * 10 + 3, none⟩ = some (.int .i64 z3) := KZ.out.cell c3_
      have d4 : World.cell? w6 ⟨g, k * 10 + 4, none⟩ = some (.int .i64 z4) := KZ.out.cell c4_
      have d5 : World.cell? w6 ⟨g, k * 10 + 5, none⟩ = some (.int .i64 z5) := KZ.out.cell c5_
      have d6 : World.cell? w6 ⟨g, k * 10 + 6, none⟩ = some (.int .i64 z6) := KZ.out.cell c6_
      have d7 : World.cell? w6 ⟨g, k * 10 + 7, none⟩ = some (.int .i64 z7) := KZ.out.cell c7_
      have d8 : World.cell? w6 ⟨g, k * 10 + 8, none⟩ = some (.int .i64 z8) := KZ.out.cell c8_
      have d9 : World.cell? w6 ⟨g, k * 10 + 9, none⟩ = some (.int .i64 z9) := KZ.out.cell c9_
      go_upto_region 11 with (first
        | (go_at_call 34; (with_reducible refine (FO.out _).mono ?_); rintro z w7 ⟨rfl, kk⟩; have KZ7 : Hid (Kpt w3 w7) := ktr KZ.out kk; clear kk)
        | fail)
      have s1 := cell_k (q := w7) (a := ⟨w1.heap.size, 1, none⟩) (v := .slice (some ⟨g, 0, none⟩) nF c1) ((BX.out.kpt KZ7.out).cell 1)
      have s0 := cell_k (q := w7) (a := ⟨w.heap.size + 1, 0, none⟩) (v := .int .i64 T) ((BW.out.kpt KZ7.out).cell 0)
      have s5 := cell_k (q := w7) (a := ⟨g, k * 10 + 5, none⟩) (v := .int .i64 z5) (KZ7.out.cell c5_)
      clear x1 d0 d1 d2 d3 d4 d5 d6 d7 d8 d9 c0 c1_ c2_ c3_ c4_ c5_ c6_ c7_ c8_ c9_ FO
      have fin : ∀ w8, Kpt w7 w8 → Hid (Kpt w3 w8) := fun w8 kk => ktr KZ7.out kk
      by_cases hA : y3 < T
      · have qA : decide (y3 < T) = true := decide_eq_true hA
        by_cases hB : z5 < T
        · have qB : decide (z5 < T) = true := decide_eq_true hB
          have o0 := e4 hA hB
          subst o0
          have q0 : decide ((0 : Int) < 0) = false := by decide
          clear e4 hA hB e5
          refine quiet_k (q := w7) mixed (by kernel_rfl) ?_
          repeat (go_big_quiet_step (fail))
          refine wpQuiet_nil ?_
          intro w8 hw1
          obtain ⟨⟨wz, kz⟩, hw2⟩ := hw1
          have hw3 : w8 = wz := hw2
          clear hw2
          subst hw3
          have K8 := fin _ kz
          clear kz
          go_wp2
          go_roundw
          case rel => exact ⟨k + 1, by omega, by go_num, K8.out⟩
          case measure => simp [intOf]; omega
        · have qB : decide (z5 < T) = false := decide_eq_false hB
          clear e4 hA hB e5
          refine quiet_k (q := w7) mixed (by kernel_rfl) ?_
          repeat (go_big_quiet_step (fail))
          refine wpQuiet_nil ?_
          intro w8 hw1
          obtain ⟨⟨wz, kz⟩, hw2⟩ := hw1
          have hw3 : w8 = wz := hw2
          clear hw2
          subst hw3
          have K8 := fin _ kz
          clear kz
          go_wp2
          go_roundw
          case rel => exact ⟨k + 1, by omega, by go_num, K8.out⟩
          case measure => simp [intOf]; omega
      · have qA : decide (y3 < T) = false := decide_eq_false hA
        clear e4 hA e5
        refine quiet_k (q := w7) mixed (by kernel_rfl) ?_
        repeat (go_big_quiet_step (fail))
        refine wpQuiet_nil ?_
        intro w8 hw1
        obtain ⟨⟨wz, kz⟩, hw2⟩ := hw1
        have hw3 : w8 = wz := hw2
        clear hw2
        subst hw3
        have K8 := fin _ kz
        clear kz
        go_wp2
        go_roundw
        case rel => exact ⟨k + 1, by omega, by go_num, K8.out⟩
        case measure => simp [intOf]; omega
    · obtain rfl : k = nF := by omega
      have q1 : decide ((k : Int) < (k : Int)) = false := decide_eq_false (by omega)
      go_wp2
      go_ret
      exact ⟨rfl, ktr K3b.out HK.out⟩

theorem op_nn {l : List Int} (h : failEL l = 0) : 0 ≤ opL l := by
  obtain ⟨h1, h2, h3, h4⟩ := fail_0 (show failE _ _ _ _ _ _ _ _ _ _ = 0 from h)
  show 0 ≤ openV _ _ _ _ _ _ _ _ _ _
  unfold openV
  rw [if_pos (show failE _ _ _ _ _ _ _ _ _ _ = 0 from h)]
  exact h4
theorem end_ok {W X T : Int} {hs ps : List Int} {ts fs : List (List Int)} {b : List (Int × Int × Int)} (h : cmE W hs ts ps X T fs b = 0) : ∀ l ∈ cmF W hs ts T fs, EndOk W hs ts T l := by
  intro l1 hl1
  obtain ⟨l, hl, rfl⟩ := List.mem_map.1 hl1
  have hk := cm_0 h l hl
  obtain ⟨g1, g2, g3, g4⟩ := cmG_ok hk
  obtain ⟨k1, k2, k3, k4⟩ := lk_0 hk
  obtain ⟨k5, k6, k7, k8, k9⟩ := ct_0 k1
  have fd := fdue_t (fail_0 k2).1
  have ag : agE W hs ((tlOf ts l).getD 0 0) ((tlOf ts l).getD 1 0) ((tlOf ts l).getD 2 0) ((tlOf ts l).getD 3 0) (l.getD 5 0) = 0 := by
    unfold agE
    rw [if_pos k1]; exact k4
  unfold EndOk
  rw [g2, g3, g4]
  refine ⟨g1, fd.2.2.2.1, ag, fun h3 h5 => ?_, op_nn g1⟩
  unfold agD at h3
  rw [if_pos ag] at h3
  exact cmG_end hk ⟨k6.1, k7.1, k8.1⟩ h3 h5
theorem cends_plain (W X T : Int) (pv hv tv : Value) (hs : List Int) (ts : List (List Int)) (fv bv : Value) (fs : List (List Int)) (b : List (Int × Int × Int)) (ps : List Int) (w : World) (hr : Reads w hv hs) (hf : Fits hs) (ht : ReadsT w tv ts) (hF : ReadsF w fv fs) (hn : NilC fv) (hb : ReadsP w bv b) (hp : Reads w pv ps) :
    Calls Tryz.prog 6 #[.agg #[.int .i64 W, hv, tv, .int .i64 X], .agg #[.int .i64 T, fv, bv], pv] w fun e w' => e = .returned (.bool true) ∧ Kpt w w' := by
  have A1 := fun w' (k : Kpt w w') => night_any W X T hv tv pv fv bv hs ps ts fs b w' (hr.kpt k) hf (ht.kpt k) (hp.kpt k) (hF.kpt k) hn (hb.kpt k)
  obtain ⟨ah, ch, rfl, -⟩ := _root_.id hr
  obtain ⟨at', ct, rfl, -⟩ := _root_.id ht
  obtain ⟨a, c, rfl, -⟩ := _root_.id hF
  obtain ⟨ab, cb, rfl, -⟩ := _root_.id hb
  by_cases h : ntE W hs ts X fs ps T b = 0
  · obtain ⟨h1, h2, -, h4, -⟩ := nt_0 h
    rw [h] at A1
    have e2 : ntF W hs ts X fs ps T b = cmF W hs ts T fs := if_pos h
    rw [e2] at A1
    refine cen_ok W X T ah at' a ab hs.length ch ts.length ct fs.length c b.length cb pv w hs ts (cmF W hs ts T fs) _ _ _ hr hf ht (clsE_0 (rul_0 h1).2.1) (end_ok h4) ?_ A1
    have := ck60 (wld_0 h2).2.1
    unfold cmF
    rwa [List.length_map]
  · have e1 : ntT W hs ts X fs ps T b = 0 := if_neg h
    have e2 : ntF W hs ts X fs ps T b = [] := if_neg h
    have e3 : ntB W hs ts X fs ps T b = [] := if_neg h
    have e4 : ntP W hs ts X fs ps T b = [] := if_neg h
    rw [e1, e2, e3, e4] at A1
    exact cen_no W X T ah at' a ab hs.length ch ts.length ct fs.length c b.length cb pv w _ (bne_iff_ne.2 h) A1

end Go.Proofs.YthaahebggboliaaGreat
