/-
  What must be of fails in any case: failBegun answers true.
-/
import Derived.Test.YtklaojahocjeiaaFailF
namespace Go.Proofs.Ytklaojahocjeiaa
open Go.RowKit Go.Maps
set_option linter.unusedVariables false

theorem readsF_made {w : World} {cs : Array Value} {fs : List (List Int)} (hm : fs.length ≤ maxLen) (hb : ∀ l ∈ fs, FlB l) (h : ∀ k, k < fs.length → ∀ j, j < 10 → cs[k * 10 + j]? = some (.int .i64 ((fs.getD k []).getD j 0))) (cap : Nat) :
    ReadsF (w.alloc (.cells cs 49)) (.slice (some ⟨w.heap.size, 0, none⟩) fs.length cap) fs :=
  ⟨_, cap, rfl, hm, hb, fun k hk => ⟨_, _, rfl, fun j hj => by
    rw [Nat.zero_add, cell_of_row _ _ _ cs _ (0, 0) (heap_alloc_new w _)]
    exact h k hk j hj⟩⟩
theorem b0 : FlB [7, 1, 2, 0, 3, 739935, 100, 0, 0, 0] := by unfold FlB; decide
theorem b1 : FlB [7, 1, 2, 0, 3, 739935, 100, 30, 0, 0] := by unfold FlB; decide
theorem b2 : FlB [7, 1, 2, 0, 3, 739935, 100, 30, 50, 0] := by unfold FlB; decide
theorem fb_1 (w : World) : Calls Try.prog 46 #[.agg #[.int .i64 7, .int .i64 1, .int .i64 2, .int .i64 0, .int .i64 3, .int .i64 739935, .int .i64 100, .int .i64 0, .int .i64 0, .int .i64 0], .int .i64 30] w fun e w' => e = .returned (.tuple #[.agg #[.int .i64 7, .int .i64 1, .int .i64 2, .int .i64 0, .int .i64 3, .int .i64 739935, .int .i64 100, .int .i64 30, .int .i64 0, .int .i64 0], .int .i64 0]) ∧ Kpt w w' :=
  deliver_ok 7 1 2 0 3 739935 100 0 0 0 30 w (by decide) (by decide) (by decide) (by decide) (by decide)
theorem fb_2 (w : World) : Calls Try.prog 47 #[.agg #[.int .i64 7, .int .i64 1, .int .i64 2, .int .i64 0, .int .i64 3, .int .i64 739935, .int .i64 100, .int .i64 30, .int .i64 0, .int .i64 0], .int .i64 50] w fun e w' => e = .returned (.tuple #[.agg #[.int .i64 7, .int .i64 1, .int .i64 2, .int .i64 0, .int .i64 3, .int .i64 739935, .int .i64 100, .int .i64 30, .int .i64 50, .int .i64 0], .int .i64 0]) ∧ Kpt w w' :=
  buy_ok 7 1 2 0 3 739935 100 30 0 0 50 w (by decide) (by decide) (by decide) (by decide) (by decide)
theorem fb_3 (w : World) : Calls Try.prog 48 #[.agg #[.int .i64 7, .int .i64 1, .int .i64 2, .int .i64 0, .int .i64 3, .int .i64 739935, .int .i64 100, .int .i64 30, .int .i64 50, .int .i64 0]] w fun e w' => e = .returned (.tuple #[.agg #[.int .i64 7, .int .i64 1, .int .i64 2, .int .i64 0, .int .i64 3, .int .i64 739935, .int .i64 100, .int .i64 30, .int .i64 50, .int .i64 20], .int .i64 20, .int .i64 0]) ∧ Kpt w w' :=
  pay_ok 7 1 2 0 3 739935 100 30 50 0 w 20 (by decide) (by decide) (by decide) (by decide) (by decide) (by decide) (by decide)
theorem fb_4 (w : World) : Calls Try.prog 26 #[.agg #[.int .i64 7, .int .i64 1, .int .i64 2, .int .i64 0, .int .i64 3, .int .i64 739935, .int .i64 100, .int .i64 30, .int .i64 50, .int .i64 0]] w fun e w' => e = .returned (.tuple #[.int .i64 20, .int .i64 0]) ∧ Kpt w w' := by
  have := fopenX_run 7 1 2 0 3 739935 100 30 50 0 w
  rwa [show openV 7 1 2 0 3 739935 100 30 50 0 = 20 by decide, show failE 7 1 2 0 3 739935 100 30 50 0 = 0 by decide] at this
theorem fb_5 (w : World) (H : Nat) (hH : w.heap.size = H) : Calls Try.prog 49 #[.slice (some ⟨H, 0, none⟩) 1 1, .int .i64 7] (w.alloc (.cells #[.int .i64 7, .int .i64 1, .int .i64 2, .int .i64 0, .int .i64 3, .int .i64 739935, .int .i64 100, .int .i64 0, .int .i64 0, .int .i64 0] 49)) fun e w' => e = .returned (.tuple #[.int .i64 0, .int .i64 0]) ∧ Kpt (w.alloc (.cells #[.int .i64 7, .int .i64 1, .int .i64 2, .int .i64 0, .int .i64 3, .int .i64 739935, .int .i64 100, .int .i64 0, .int .i64 0, .int .i64 0] 49)) w' := by
  subst hH
  have hr := readsF_made (w := w) (cs := #[.int .i64 7, .int .i64 1, .int .i64 2, .int .i64 0, .int .i64 3, .int .i64 739935, .int .i64 100, .int .i64 0, .int .i64 0, .int .i64 0]) (fs := [[7, 1, 2, 0, 3, 739935, 100, 0, 0, 0]]) (by unfold maxLen; decide) (by intro l hl; rw [List.mem_singleton.1 hl]; exact b0) (by
    intro k hk j hj
    have : k = 0 := by simp at hk; exact hk
    subst this
    rcases (show j = 0 ∨ j = 1 ∨ j = 2 ∨ j = 3 ∨ j = 4 ∨ j = 5 ∨ j = 6 ∨ j = 7 ∨ j = 8 ∨ j = 9 by omega) with rfl | rfl | rfl | rfl | rfl | rfl | rfl | rfl | rfl | rfl <;> rfl) 1
  have := (find_run _ _ 7 _ hr).2.2 (by decide +kernel) (by decide +kernel)
  rwa [show idxF 7 [[7, 1, 2, 0, 3, 739935, 100, 0, 0, 0]] 0 = 0 by decide +kernel] at this
theorem fb_6 (w : World) : Calls Try.prog 46 #[.agg #[.int .i64 7, .int .i64 1, .int .i64 2, .int .i64 0, .int .i64 3, .int .i64 739935, .int .i64 100, .int .i64 30, .int .i64 50, .int .i64 0], .int .i64 21] w fun e w' => e = .returned (.tuple #[.agg #[.int .i64 0, .int .i64 0, .int .i64 0, .int .i64 0, .int .i64 0, .int .i64 0, .int .i64 0, .int .i64 0, .int .i64 0, .int .i64 0], .int .i64 8]) ∧ Kpt w w' :=
  deliver_bad 7 1 2 0 3 739935 100 30 50 0 21 8 w (by decide) (by decide)
theorem fb_7 (w : World) : Calls Try.prog 46 #[.agg #[.int .i64 7, .int .i64 1, .int .i64 2, .int .i64 0, .int .i64 3, .int .i64 739935, .int .i64 100, .int .i64 30, .int .i64 50, .int .i64 20], .int .i64 1] w fun e w' => e = .returned (.tuple #[.agg #[.int .i64 0, .int .i64 0, .int .i64 0, .int .i64 0, .int .i64 0, .int .i64 0, .int .i64 0, .int .i64 0, .int .i64 0, .int .i64 0], .int .i64 5]) ∧ Kpt w w' :=
  deliver_bad 7 1 2 0 3 739935 100 30 50 20 1 5 w (by decide) (by decide)
theorem fb_8 (w : World) : Calls Try.prog 50 #[.agg #[.int .i64 0, .int .i64 0, .int .i64 0, .int .i64 0, .int .i64 0, .int .i64 0, .int .i64 0, .int .i64 0, .int .i64 0, .int .i64 0]] w fun e w' => e = .returned (.int .i64 3) ∧ Kpt w w' := by
  have := fcheck_run 0 0 0 0 0 0 0 0 0 0 w
  rwa [show failE 0 0 0 0 0 0 0 0 0 0 = 3 by decide] at this
theorem fb_9 (w : World) (H : Nat) (hH : w.heap.size = H) : Calls Try.prog 27 #[.slice (some ⟨H, 0, none⟩) 2 2] (w.alloc (.cells #[.int .i64 7, .int .i64 1, .int .i64 2, .int .i64 0, .int .i64 3, .int .i64 739935, .int .i64 100, .int .i64 30, .int .i64 0, .int .i64 0, .int .i64 7, .int .i64 1, .int .i64 2, .int .i64 0, .int .i64 3, .int .i64 739935, .int .i64 100, .int .i64 30, .int .i64 50, .int .i64 0] 49)) fun e w' => e = .returned (.int .i64 6) ∧ Kpt (w.alloc (.cells #[.int .i64 7, .int .i64 1, .int .i64 2, .int .i64 0, .int .i64 3, .int .i64 739935, .int .i64 100, .int .i64 30, .int .i64 0, .int .i64 0, .int .i64 7, .int .i64 1, .int .i64 2, .int .i64 0, .int .i64 3, .int .i64 739935, .int .i64 100, .int .i64 30, .int .i64 50, .int .i64 0] 49)) w' := by
  subst hH
  have hr := readsF_made (w := w) (cs := #[.int .i64 7, .int .i64 1, .int .i64 2, .int .i64 0, .int .i64 3, .int .i64 739935, .int .i64 100, .int .i64 30, .int .i64 0, .int .i64 0, .int .i64 7, .int .i64 1, .int .i64 2, .int .i64 0, .int .i64 3, .int .i64 739935, .int .i64 100, .int .i64 30, .int .i64 50, .int .i64 0]) (fs := [[7, 1, 2, 0, 3, 739935, 100, 30, 0, 0], [7, 1, 2, 0, 3, 739935, 100, 30, 50, 0]]) (by unfold maxLen; decide) (by
    intro l hl
    simp only [List.mem_cons, List.not_mem_nil, or_false] at hl
    rcases hl with rfl | rfl
    · exact b1
    · exact b2) (by
    intro k hk j hj
    rcases (show k = 0 ∨ k = 1 by simp at hk; omega) with rfl | rfl
    · rcases (show j = 0 ∨ j = 1 ∨ j = 2 ∨ j = 3 ∨ j = 4 ∨ j = 5 ∨ j = 6 ∨ j = 7 ∨ j = 8 ∨ j = 9 by omega) with rfl | rfl | rfl | rfl | rfl | rfl | rfl | rfl | rfl | rfl <;> rfl
    · rcases (show j = 0 ∨ j = 1 ∨ j = 2 ∨ j = 3 ∨ j = 4 ∨ j = 5 ∨ j = 6 ∨ j = 7 ∨ j = 8 ∨ j = 9 by omega) with rfl | rfl | rfl | rfl | rfl | rfl | rfl | rfl | rfl | rfl <;> rfl) 2
  have := checks_run _ _ _ hr
  rwa [show checksE [[7, 1, 2, 0, 3, 739935, 100, 30, 0, 0], [7, 1, 2, 0, 3, 739935, 100, 30, 50, 0]] = 6 by decide +kernel] at this

set_option maxRecDepth 100000 in
set_option maxHeartbeats 8000000 in
theorem failBegun (w : World) : Calls Try.prog 24 #[] w fun e w' => e = .returned (.bool true) ∧ Kpt w w' := by
  go_enter Try.func24, Try.ntmps24
  go_wp2_with (first
    | (go_at_call 39; (with_reducible refine (some_run _).mono ?_); rintro e w1 ⟨rfl, k1⟩; have K1 := Lib.hid (ktr (Kpt.refl w) k1); clear k1)
    | (go_at_call 46; (with_reducible refine (fb_1 _).mono ?_); rintro e w2 ⟨rfl, k1⟩; have K2 := Lib.hid (ktr K1.out k1); clear k1)
    | (refine wp_storeF rfl (.tmp 1) (.tmp 19) rfl w2.heap.size _ _ rfl rfl (Blk.made w2 #[.int .i64 0, .int .i64 0, .int .i64 0, .int .i64 0, .int .i64 0, .int .i64 0, .int .i64 0, .int .i64 0, .int .i64 0, .int .i64 0] 49) rfl rfl (by simp [Value.oneCell']) ?_; intro w3 r9 k9 o9; have K3 := Lib.hid (k9 _ _ (K2.out.alloc _) K2.out.size); have BA := Lib.hid r9; clear r9 k9 o9)
    | (refine wp_loadF rfl (.tmp 1) rfl w2.heap.size _ rfl BA.out rfl ?_)
    | (go_at_call 47; (with_reducible refine (fb_2 _).mono ?_); rintro e w4 ⟨rfl, k1⟩; have K4 := Lib.hid (ktr K3.out k1); have BA := Lib.hid (Blk.kpt BA.out k1); clear k1)
    | (refine wp_storeF rfl (.tmp 3) (.tmp 24) rfl w4.heap.size _ _ rfl rfl (Blk.made w4 #[.int .i64 0, .int .i64 0, .int .i64 0, .int .i64 0, .int .i64 0, .int .i64 0, .int .i64 0, .int .i64 0, .int .i64 0, .int .i64 0] 49) rfl rfl (by simp [Value.oneCell']) ?_; intro w5 r9 k9 o9; have K5 := Lib.hid (k9 _ _ (K4.out.alloc _) K4.out.size); have BA : Hid (Blk w5 w2.heap.size #[.int .i64 7, .int .i64 1, .int .i64 2, .int .i64 0, .int .i64 3, .int .i64 739935, .int .i64 100, .int .i64 30, .int .i64 0, .int .i64 0] 49) := Blk.block (Blk.alloc BA.out _) (o9 _ (by have := BA.out.lt; omega)); have BB := Lib.hid r9; clear r9 k9 o9)
    | (refine wp_loadF rfl (.tmp 3) rfl w4.heap.size _ rfl BB.out rfl ?_)
    | (go_at_call 48; (with_reducible refine (fb_3 _).mono ?_); rintro e w6 ⟨rfl, k1⟩; have K6 := Lib.hid (ktr K5.out k1); have BA := Lib.hid (Blk.kpt BA.out k1); have BB := Lib.hid (Blk.kpt BB.out k1); clear k1)
    | (refine wp_storeF rfl (.tmp 5) (.tmp 29) rfl w6.heap.size _ _ rfl rfl (Blk.made w6 #[.int .i64 0, .int .i64 0, .int .i64 0, .int .i64 0, .int .i64 0, .int .i64 0, .int .i64 0, .int .i64 0, .int .i64 0, .int .i64 0] 49) rfl rfl (by simp [Value.oneCell']) ?_; intro w7 r9 k9 o9; have K7 := Lib.hid (k9 _ _ (K6.out.alloc _) K6.out.size); have BA : Hid (Blk w7 w2.heap.size #[.int .i64 7, .int .i64 1, .int .i64 2, .int .i64 0, .int .i64 3, .int .i64 739935, .int .i64 100, .int .i64 30, .int .i64 0, .int .i64 0] 49) := Blk.block (Blk.alloc BA.out _) (o9 _ (by have := BA.out.lt; omega)); have BB : Hid (Blk w7 w4.heap.size #[.int .i64 7, .int .i64 1, .int .i64 2, .int .i64 0, .int .i64 3, .int .i64 739935, .int .i64 100, .int .i64 30, .int .i64 50, .int .i64 0] 49) := Blk.block (Blk.alloc BB.out _) (o9 _ (by have := BB.out.lt; omega)); have BC := Lib.hid r9; clear r9 k9 o9)
    | (refine wp_loadF rfl (.tmp 5) rfl w6.heap.size _ rfl BC.out rfl ?_)
    | (go_at_call 26; (with_reducible refine (fb_4 _).mono ?_); rintro e w8 ⟨rfl, k1⟩; have K8 := Lib.hid (ktr K7.out k1); have BA := Lib.hid (Blk.kpt BA.out k1); have BB := Lib.hid (Blk.kpt BB.out k1); have BC := Lib.hid (Blk.kpt BC.out k1); clear k1)
    | (go_at_call 39; (with_reducible refine (some_run w8).mono ?_); rintro e w9 ⟨rfl, k1⟩; have K9 := Lib.hid (ktr K8.out k1); have BA := Lib.hid (Blk.kpt BA.out k1); have BB := Lib.hid (Blk.kpt BB.out k1); have BC := Lib.hid (Blk.kpt BC.out k1); clear k1)
    | (go_at_call 49; (with_reducible refine (fb_5 w9 _ rfl).mono ?_); rintro e w10 ⟨rfl, k1⟩; have K10 := Lib.hid (ktr (K9.out.alloc _) k1); have BA := Lib.hid (Blk.kpt (Blk.alloc BA.out _) k1); have BB := Lib.hid (Blk.kpt (Blk.alloc BB.out _) k1); have BC := Lib.hid (Blk.kpt (Blk.alloc BC.out _) k1); clear k1)
    | (go_at_call 46; (with_reducible refine (fb_6 _).mono ?_); rintro e w11 ⟨rfl, k1⟩; have K11 := Lib.hid (ktr K10.out k1); have BA := Lib.hid (Blk.kpt BA.out k1); have BB := Lib.hid (Blk.kpt BB.out k1); have BC := Lib.hid (Blk.kpt BC.out k1); clear k1)
    | (refine wp_storeF rfl (.tmp 12) (.tmp 46) rfl w11.heap.size _ _ rfl rfl (Blk.made w11 #[.int .i64 0, .int .i64 0, .int .i64 0, .int .i64 0, .int .i64 0, .int .i64 0, .int .i64 0, .int .i64 0, .int .i64 0, .int .i64 0] 49) rfl rfl (by simp [Value.oneCell']) ?_; intro w12 r9 k9 o9; have K12 := Lib.hid (k9 _ _ (K11.out.alloc _) K11.out.size); have BA : Hid (Blk w12 w2.heap.size #[.int .i64 7, .int .i64 1, .int .i64 2, .int .i64 0, .int .i64 3, .int .i64 739935, .int .i64 100, .int .i64 30, .int .i64 0, .int .i64 0] 49) := Blk.block (Blk.alloc BA.out _) (o9 _ (by have := BA.out.lt; omega)); have BB : Hid (Blk w12 w4.heap.size #[.int .i64 7, .int .i64 1, .int .i64 2, .int .i64 0, .int .i64 3, .int .i64 739935, .int .i64 100, .int .i64 30, .int .i64 50, .int .i64 0] 49) := Blk.block (Blk.alloc BB.out _) (o9 _ (by have := BB.out.lt; omega)); have BC : Hid (Blk w12 w6.heap.size #[.int .i64 7, .int .i64 1, .int .i64 2, .int .i64 0, .int .i64 3, .int .i64 739935, .int .i64 100, .int .i64 30, .int .i64 50, .int .i64 20] 49) := Blk.block (Blk.alloc BC.out _) (o9 _ (by have := BC.out.lt; omega)); clear r9 k9 o9)
    | (go_at_call 46; (with_reducible refine (fb_7 _).mono ?_); rintro e w13 ⟨rfl, k1⟩; have K13 := Lib.hid (ktr K12.out k1); have BA := Lib.hid (Blk.kpt BA.out k1); have BB := Lib.hid (Blk.kpt BB.out k1); have BC := Lib.hid (Blk.kpt BC.out k1); clear k1)
    | (refine wp_storeF rfl (.tmp 14) (.tmp 51) rfl w13.heap.size _ _ rfl rfl (Blk.made w13 #[.int .i64 0, .int .i64 0, .int .i64 0, .int .i64 0, .int .i64 0, .int .i64 0, .int .i64 0, .int .i64 0, .int .i64 0, .int .i64 0] 49) rfl rfl (by simp [Value.oneCell']) ?_; intro w14 r9 k9 o9; have K14 := Lib.hid (k9 _ _ (K13.out.alloc _) K13.out.size); have BA : Hid (Blk w14 w2.heap.size #[.int .i64 7, .int .i64 1, .int .i64 2, .int .i64 0, .int .i64 3, .int .i64 739935, .int .i64 100, .int .i64 30, .int .i64 0, .int .i64 0] 49) := Blk.block (Blk.alloc BA.out _) (o9 _ (by have := BA.out.lt; omega)); have BB : Hid (Blk w14 w4.heap.size #[.int .i64 7, .int .i64 1, .int .i64 2, .int .i64 0, .int .i64 3, .int .i64 739935, .int .i64 100, .int .i64 30, .int .i64 50, .int .i64 0] 49) := Blk.block (Blk.alloc BB.out _) (o9 _ (by have := BB.out.lt; omega)); have BC : Hid (Blk w14 w6.heap.size #[.int .i64 7, .int .i64 1, .int .i64 2, .int .i64 0, .int .i64 3, .int .i64 739935, .int .i64 100, .int .i64 30, .int .i64 50, .int .i64 20] 49) := Blk.block (Blk.alloc BC.out _) (o9 _ (by have := BC.out.lt; omega)); have ca : World.cell? w14 ⟨w2.heap.size, 7, none⟩ = some (.int .i64 30) := BA.out.cell 7; have cb : World.cell? w14 ⟨w4.heap.size, 8, none⟩ = some (.int .i64 50) := BB.out.cell 8; have cc : World.cell? w14 ⟨w6.heap.size, 9, none⟩ = some (.int .i64 20) := BC.out.cell 9; clear r9 k9 o9)
    | (go_at_call 50; (with_reducible refine (fb_8 _).mono ?_); rintro e w15 ⟨rfl, k1⟩; have K15 := Lib.hid (ktr K14.out k1); have BA := Lib.hid (Blk.kpt BA.out k1); have BB := Lib.hid (Blk.kpt BB.out k1); have BC := Lib.hid (Blk.kpt BC.out k1); have x0 : World.cell? w15 ⟨w2.heap.size, 0, none⟩ = some (.int .i64 7) := BA.out.cell 0; have y0 : World.cell? w15 ⟨w4.heap.size, 0, none⟩ = some (.int .i64 7) := BB.out.cell 0; have x1 : World.cell? w15 ⟨w2.heap.size, 1, none⟩ = some (.int .i64 1) := BA.out.cell 1; have y1 : World.cell? w15 ⟨w4.heap.size, 1, none⟩ = some (.int .i64 1) := BB.out.cell 1; have x2 : World.cell? w15 ⟨w2.heap.size, 2, none⟩ = some (.int .i64 2) := BA.out.cell 2; have y2 : World.cell? w15 ⟨w4.heap.size, 2, none⟩ = some (.int .i64 2) := BB.out.cell 2; have x3 : World.cell? w15 ⟨w2.heap.size, 3, none⟩ = some (.int .i64 0) := BA.out.cell 3; have y3 : World.cell? w15 ⟨w4.heap.size, 3, none⟩ = some (.int .i64 0) := BB.out.cell 3; have x4 : World.cell? w15 ⟨w2.heap.size, 4, none⟩ = some (.int .i64 3) := BA.out.cell 4; have y4 : World.cell? w15 ⟨w4.heap.size, 4, none⟩ = some (.int .i64 3) := BB.out.cell 4; have x5 : World.cell? w15 ⟨w2.heap.size, 5, none⟩ = some (.int .i64 739935) := BA.out.cell 5; have y5 : World.cell? w15 ⟨w4.heap.size, 5, none⟩ = some (.int .i64 739935) := BB.out.cell 5; have x6 : World.cell? w15 ⟨w2.heap.size, 6, none⟩ = some (.int .i64 100) := BA.out.cell 6; have y6 : World.cell? w15 ⟨w4.heap.size, 6, none⟩ = some (.int .i64 100) := BB.out.cell 6; have x7 : World.cell? w15 ⟨w2.heap.size, 7, none⟩ = some (.int .i64 30) := BA.out.cell 7; have y7 : World.cell? w15 ⟨w4.heap.size, 7, none⟩ = some (.int .i64 30) := BB.out.cell 7; have x8 : World.cell? w15 ⟨w2.heap.size, 8, none⟩ = some (.int .i64 0) := BA.out.cell 8; have y8 : World.cell? w15 ⟨w4.heap.size, 8, none⟩ = some (.int .i64 50) := BB.out.cell 8; have x9 : World.cell? w15 ⟨w2.heap.size, 9, none⟩ = some (.int .i64 0) := BA.out.cell 9; have y9 : World.cell? w15 ⟨w4.heap.size, 9, none⟩ = some (.int .i64 0) := BB.out.cell 9; clear k1)
    | (go_at_call 27; (with_reducible refine (fb_9 w15 _ rfl).mono ?_); rintro e w16 ⟨rfl, k1⟩; have K16 := Lib.hid (ktr (K15.out.alloc _) k1); clear k1))
  go_ret
  exact ⟨rfl, K16.out⟩

end Go.Proofs.Ytklaojahocjeiaa
