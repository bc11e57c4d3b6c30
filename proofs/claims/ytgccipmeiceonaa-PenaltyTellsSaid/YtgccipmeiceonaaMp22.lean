/-
  Merged: AgeE, AgeF, AgeG.
-/
import Derived.Test.YtgccipmeiceonaaMp21
-- AgeE
namespace Go.Proofs.Ytgccipmeiceonaa
open Go.RowKit
set_option linter.unusedVariables false

/-- the stage on a day -/
def stgV (o d g1 g2 g3 q : Int) : Int := if o = 0 then 5 else if q ≤ d then 0 else if q ≤ g1 then 1 else if q ≤ g2 then 2 else if q ≤ g3 then 3 else 4
set_option maxHeartbeats 4000000 in
theorem stage_run (i f t c p d u x b y o g1 g2 g3 q : Int) (w : World) :
    Calls Try.prog 134 #[.agg #[.int .i64 i, .int .i64 f, .int .i64 t, .int .i64 c, .int .i64 p, .int .i64 d, .int .i64 u, .int .i64 x, .int .i64 b, .int .i64 y, .int .i64 o, .int .i64 g1, .int .i64 g2, .int .i64 g3], .int .i64 q] w fun z w' => z = .returned (.int .i64 (stgV o d g1 g2 g3 q)) ∧ Kpt w w' := by
  by_cases h0 : o = 0
  · have z0 : (o == 0) = true := beq_iff_eq.2 h0
    rw [show stgV o d g1 g2 g3 q = 5 by unfold stgV; rw [if_pos h0]]
    clear h0
    go_enter Try.func134, Try.ntmps134
    go_wp2
    go_ret
    exact ⟨rfl, (Kpt.refl w).alloc _⟩
  have z0 : (o == 0) = false := beq_eq_false_iff_ne.2 h0
  by_cases h1 : q ≤ d
  · have y1 : decide (q ≤ d) = true := decide_eq_true h1
    rw [show stgV o d g1 g2 g3 q = 0 by unfold stgV; rw [if_neg h0, if_pos h1]]
    clear h0
    go_enter Try.func134, Try.ntmps134
    go_wp2
    go_ret
    exact ⟨rfl, (Kpt.refl w).alloc _⟩
  have y1 : decide (q ≤ d) = false := decide_eq_false h1
  by_cases h2 : q ≤ g1
  · have y2 : decide (q ≤ g1) = true := decide_eq_true h2
    rw [show stgV o d g1 g2 g3 q = 1 by unfold stgV; rw [if_neg h0, if_neg h1, if_pos h2]]
    clear h0
    go_enter Try.func134, Try.ntmps134
    go_wp2
    go_ret
    exact ⟨rfl, (Kpt.refl w).alloc _⟩
  have y2 : decide (q ≤ g1) = false := decide_eq_false h2
  by_cases h3 : q ≤ g2
  · have y3 : decide (q ≤ g2) = true := decide_eq_true h3
    rw [show stgV o d g1 g2 g3 q = 2 by unfold stgV; rw [if_neg h0, if_neg h1, if_neg h2, if_pos h3]]
    clear h0
    go_enter Try.func134, Try.ntmps134
    go_wp2
    go_ret
    exact ⟨rfl, (Kpt.refl w).alloc _⟩
  have y3 : decide (q ≤ g2) = false := decide_eq_false h3
  by_cases h4 : q ≤ g3
  · have y4 : decide (q ≤ g3) = true := decide_eq_true h4
    rw [show stgV o d g1 g2 g3 q = 3 by unfold stgV; rw [if_neg h0, if_neg h1, if_neg h2, if_neg h3, if_pos h4]]
    clear h0
    go_enter Try.func134, Try.ntmps134
    go_wp2
    go_ret
    exact ⟨rfl, (Kpt.refl w).alloc _⟩
  have y4 : decide (q ≤ g3) = false := decide_eq_false h4
  rw [show stgV o d g1 g2 g3 q = 4 by unfold stgV; rw [if_neg h0, if_neg h1, if_neg h2, if_neg h3, if_neg h4]]
  clear h0
  go_enter Try.func134, Try.ntmps134
  go_wp2
  go_ret
  exact ⟨rfl, (Kpt.refl w).alloc _⟩

theorem look_run (W te tb td tr i f t c p d u x b y q : Int) (v : Value) (hs : List Int) (w : World) (hr : Reads w v hs) (hf : Fits hs) :
    (lkE W hs te tb td tr i f t c p d u x b y q ≠ 0 → Calls Try.prog 133 #[calV W v, .agg #[.int .i64 te, .int .i64 tb, .int .i64 td, .int .i64 tr], .agg #[.int .i64 i, .int .i64 f, .int .i64 t, .int .i64 c, .int .i64 p, .int .i64 d, .int .i64 u, .int .i64 x, .int .i64 b, .int .i64 y], .int .i64 q] w fun z w' => z = .returned (.tuple #[.agg #[.int .i64 0, .int .i64 0, .int .i64 0, .int .i64 0, .int .i64 0, .int .i64 0, .int .i64 0, .int .i64 0, .int .i64 0, .int .i64 0, .int .i64 0, .int .i64 0, .int .i64 0, .int .i64 0], .int .i64 (lkE W hs te tb td tr i f t c p d u x b y q)]) ∧ Kpt w w') ∧
    (lkE W hs te tb td tr i f t c p d u x b y q = 0 → Calls Try.prog 133 #[calV W v, .agg #[.int .i64 te, .int .i64 tb, .int .i64 td, .int .i64 tr], .agg #[.int .i64 i, .int .i64 f, .int .i64 t, .int .i64 c, .int .i64 p, .int .i64 d, .int .i64 u, .int .i64 x, .int .i64 b, .int .i64 y], .int .i64 q] w fun z w' => z = .returned (.tuple #[.agg #[.int .i64 i, .int .i64 f, .int .i64 t, .int .i64 c, .int .i64 p, .int .i64 d, .int .i64 u, .int .i64 x, .int .i64 b, .int .i64 y, .int .i64 (openV i f t c p d u x b y), .int .i64 (dayAt W hs d te tb td 1), .int .i64 (dayAt W hs d te tb td 2), .int .i64 (dayAt W hs d te tb td 3)], .int .i64 0]) ∧ Kpt w w') := by
  constructor
  · intro h
    by_cases h1 : ctE W hs te tb td tr = 0
    · by_cases h2 : failE i f t c p d u x b y = 0
      · by_cases h3 : dayB q = true
        · have e : lkE W hs te tb td tr i f t c p d u x b y q = wlkE W hs d te tb td := by unfold lkE; rw [if_pos h1, if_pos h2, if_pos h3]
          rw [e] at h ⊢
          exact look_wl W te tb td tr i f t c p d u x b y q v hs w hr hf _ h1 h2 h3 rfl h
        · have e : lkE W hs te tb td tr i f t c p d u x b y q = 3 := by unfold lkE; rw [if_pos h1, if_pos h2, if_neg h3]
          rw [e]
          exact look_day W te tb td tr i f t c p d u x b y q v hs w hr hf h1 h2 (by simpa using h3)
      · have e : lkE W hs te tb td tr i f t c p d u x b y q = failE i f t c p d u x b y := by unfold lkE; rw [if_pos h1, if_neg h2]
        rw [e]
        exact look_fl W te tb td tr i f t c p d u x b y q v hs w hr hf _ h1 rfl h2
    · have e : lkE W hs te tb td tr i f t c p d u x b y q = ctE W hs te tb td tr := by unfold lkE; rw [if_neg h1]
      rw [e]
      exact look_ct W te tb td tr i f t c p d u x b y q v hs w hr hf _ rfl h1
  · intro h
    obtain ⟨h1, h2, h3, h4⟩ := lk_0 h
    exact look_ok W te tb td tr i f t c p d u x b y q v hs w hr hf h1 h2 h3 h4

set_option maxRecDepth 100000 in
set_option maxHeartbeats 4000000 in
theorem stg_bad (W te tb td tr i f t c p d u x b y q : Int) (v : Value) (hs : List Int) (w : World) (hr : Reads w v hs) (hf : Fits hs) (E : Int) (h : lkE W hs te tb td tr i f t c p d u x b y q = E) (h0 : E ≠ 0) :
    Calls Try.prog 106 #[calV W v, .agg #[.int .i64 te, .int .i64 tb, .int .i64 td, .int .i64 tr], .agg #[.int .i64 i, .int .i64 f, .int .i64 t, .int .i64 c, .int .i64 p, .int .i64 d, .int .i64 u, .int .i64 x, .int .i64 b, .int .i64 y], .int .i64 q] w fun z w' => z = .returned (.tuple #[.int .i64 0, .int .i64 E]) ∧ Kpt w w' := by
  have LK := Lib.hid (fun w' (k : Kpt w w') => (look_run W te tb td tr i f t c p d u x b y q v hs w' (hr.kpt k) hf).1 (by rw [h]; exact h0))
  rw [h] at LK
  have z0 : (E != 0) = true := bne_iff_ne.2 h0
  have K0 : Hid (Kpt w (((w.alloc (.cells #[.int .i64 W, v] 24)).alloc (.cells #[.int .i64 te, .int .i64 tb, .int .i64 td, .int .i64 tr] 78)).alloc (.cells #[.int .i64 i, .int .i64 f, .int .i64 t, .int .i64 c, .int .i64 p, .int .i64 d, .int .i64 u, .int .i64 x, .int .i64 b, .int .i64 y] 38))) := (((Kpt.refl w).alloc _).alloc _).alloc _
  have BC : Hid (Blk (((w.alloc (.cells #[.int .i64 W, v] 24)).alloc (.cells #[.int .i64 te, .int .i64 tb, .int .i64 td, .int .i64 tr] 78)).alloc (.cells #[.int .i64 i, .int .i64 f, .int .i64 t, .int .i64 c, .int .i64 p, .int .i64 d, .int .i64 u, .int .i64 x, .int .i64 b, .int .i64 y] 38)) w.heap.size #[.int .i64 W, v] 24) := ((Blk.made w _ _).alloc _).alloc _
  obtain ⟨a, cap, rfl, -⟩ := hr
  unfold calV at *
  clear h h0
  go_enter Try.func106, Try.ntmps106
  go_wp2_with (first
    | (go_at_call 133; (with_reducible refine (LK.out _ K0.out).mono ?_); rintro z w1 ⟨rfl, k1⟩; have K1 := Lib.hid (ktr K0.out k1); have BC := Lib.hid (BC.out.kpt k1); clear k1)
    | (refine wp_storeV rfl (.tmp 10) (.tmp 18) rfl w1.heap.size _ _ rfl rfl (Blk.made w1 #[.int .i64 0, .int .i64 0, .int .i64 0, .int .i64 0, .int .i64 0, .int .i64 0, .int .i64 0, .int .i64 0, .int .i64 0, .int .i64 0, .int .i64 0, .int .i64 0, .int .i64 0, .int .i64 0] 159) rfl rfl (by simp [Value.oneCell']) ?_; intro w9 r9 k9 o9; have R9 := Lib.hid r9; have K9 : Hid (Kpt w w9) := k9 _ _ (K1.out.alloc _) K1.out.size; have BC9 : Hid (Blk w9 w.heap.size #[.int .i64 W, .slice a hs.length cap] 24) := Blk.block (BC.out.alloc _) (o9 _ (by have := BC.out.lt; omega)); have a0 : World.cell? w9 ⟨w.heap.size, 0, none⟩ = some (.int .i64 W) := BC9.out.cell 0; have a1 : World.cell? w9 ⟨w.heap.size, 1, none⟩ = some (.slice a hs.length cap) := BC9.out.cell 1; have g13 : World.cell? w9 ⟨w1.heap.size, 13, none⟩ = some (.int .i64 0) := R9.out.cell 13; clear r9 k9 o9))
  go_ret2
  exact ⟨rfl, K9.out⟩

set_option maxRecDepth 100000 in
set_option maxHeartbeats 4000000 in
theorem stg_ok (W te tb td tr i f t c p d u x b y q : Int) (v : Value) (hs : List Int) (w : World) (hr : Reads w v hs) (hf : Fits hs) (h : lkE W hs te tb td tr i f t c p d u x b y q = 0) :
    Calls Try.prog 106 #[calV W v, .agg #[.int .i64 te, .int .i64 tb, .int .i64 td, .int .i64 tr], .agg #[.int .i64 i, .int .i64 f, .int .i64 t, .int .i64 c, .int .i64 p, .int .i64 d, .int .i64 u, .int .i64 x, .int .i64 b, .int .i64 y], .int .i64 q] w fun z w' => z = .returned (.tuple #[.int .i64 (stgV (openV i f t c p d u x b y) d (dayAt W hs d te tb td 1) (dayAt W hs d te tb td 2) (dayAt W hs d te tb td 3) q), .int .i64 0]) ∧ Kpt w w' := by
  have LK := Lib.hid (fun w' (k : Kpt w w') => (look_run W te tb td tr i f t c p d u x b y q v hs w' (hr.kpt k) hf).2 h)
  have K0 : Hid (Kpt w (((w.alloc (.cells #[.int .i64 W, v] 24)).alloc (.cells #[.int .i64 te, .int .i64 tb, .int .i64 td, .int .i64 tr] 78)).alloc (.cells #[.int .i64 i, .int .i64 f, .int .i64 t, .int .i64 c, .int .i64 p, .int .i64 d, .int .i64 u, .int .i64 x, .int .i64 b, .int .i64 y] 38))) := (((Kpt.refl w).alloc _).alloc _).alloc _
  have BC : Hid (Blk (((w.alloc (.cells #[.int .i64 W, v] 24)).alloc (.cells #[.int .i64 te, .int .i64 tb, .int .i64 td, .int .i64 tr] 78)).alloc (.cells #[.int .i64 i, .int .i64 f, .int .i64 t, .int .i64 c, .int .i64 p, .int .i64 d, .int .i64 u, .int .i64 x, .int .i64 b, .int .i64 y] 38)) w.heap.size #[.int .i64 W, v] 24) := ((Blk.made w _ _).alloc _).alloc _
  obtain ⟨a, cap, rfl, -⟩ := hr
  unfold calV at *
  clear h
  generalize openV i f t c p d u x b y = o at *
  generalize dayAt W hs d te tb td 1 = g1 at *
  generalize dayAt W hs d te tb td 2 = g2 at *
  generalize dayAt W hs d te tb td 3 = g3 at *
  have SR := Lib.hid (fun w' => stage_run i f t c p d u x b y o g1 g2 g3 q w')
  generalize stgV o d g1 g2 g3 q = s at *
  go_enter Try.func106, Try.ntmps106
  go_wp2_with (first
    | (go_at_call 133; (with_reducible refine (LK.out _ K0.out).mono ?_); rintro z w1 ⟨rfl, k1⟩; have K1 := Lib.hid (ktr K0.out k1); have BC := Lib.hid (BC.out.kpt k1); clear k1)
    | (refine wp_storeV rfl (.tmp 10) (.tmp 18) rfl w1.heap.size _ _ rfl rfl (Blk.made w1 #[.int .i64 0, .int .i64 0, .int .i64 0, .int .i64 0, .int .i64 0, .int .i64 0, .int .i64 0, .int .i64 0, .int .i64 0, .int .i64 0, .int .i64 0, .int .i64 0, .int .i64 0, .int .i64 0] 159) rfl rfl (by simp [Value.oneCell']) ?_; intro w9 r9 k9 o9; have R9 := Lib.hid r9; have K9 : Hid (Kpt w w9) := k9 _ _ (K1.out.alloc _) K1.out.size; have BC9 : Hid (Blk w9 w.heap.size #[.int .i64 W, .slice a hs.length cap] 24) := Blk.block (BC.out.alloc _) (o9 _ (by have := BC.out.lt; omega)); have a0 : World.cell? w9 ⟨w.heap.size, 0, none⟩ = some (.int .i64 W) := BC9.out.cell 0; have a1 : World.cell? w9 ⟨w.heap.size, 1, none⟩ = some (.slice a hs.length cap) := BC9.out.cell 1; have g13 : World.cell? w9 ⟨w1.heap.size, 13, none⟩ = some (.int .i64 g3) := R9.out.cell 13; clear r9 k9 o9)
    | (refine wp_loadV rfl (.tmp 10) rfl w1.heap.size _ rfl R9.out rfl ?_)
    | (go_at_call 134; (with_reducible refine (SR.out _).mono ?_); rintro z w5 ⟨rfl, k1⟩; have K5 := Lib.hid (ktr K9.out k1); clear k1))
  go_ret2
  exact ⟨rfl, K5.out⟩

end Go.Proofs.Ytgccipmeiceonaa

-- AgeF
namespace Go.Proofs.Ytgccipmeiceonaa
open Go.RowKit
set_option linter.unusedVariables false

theorem someT_run (w : World) : Calls Try.prog 114 #[] w fun e w' => e = .returned (.agg #[.int .i64 4, .int .i64 7, .int .i64 2, .int .i64 100]) ∧ Kpt w w' := by
  go_enter Try.func114, Try.ntmps114
  go_wp2
  exact bodyPost_ret (v := .agg #[.int .i64 4, .int .i64 7, .int .i64 2, .int .i64 100]) (by simp [results, Try.results114, go_sem]) rfl ⟨rfl, by repeat (first | exact Kpt.refl _ | refine Kpt.alloc ?_ _ | refine Kpt.setCell ?_ (by simp) _)⟩
theorem someF_run (w : World) : Calls Try.prog 68 #[] w fun e w' => e = .returned (.agg #[.int .i64 7, .int .i64 1, .int .i64 2, .int .i64 0, .int .i64 3, .int .i64 739935, .int .i64 100, .int .i64 0, .int .i64 0, .int .i64 0]) ∧ Kpt w w' := by
  have R1 := Lib.hid (Blk.made w #[.int .i64 0, .int .i64 0, .int .i64 0, .int .i64 0, .int .i64 0, .int .i64 0, .int .i64 0, .int .i64 0, .int .i64 0, .int .i64 0] 38)
  have K1 : Hid (Kpt w (w.alloc (.cells #[.int .i64 0, .int .i64 0, .int .i64 0, .int .i64 0, .int .i64 0, .int .i64 0, .int .i64 0, .int .i64 0, .int .i64 0, .int .i64 0] 38))) := (Kpt.refl w).alloc _
  go_enter Try.func68, Try.ntmps68
  go_wp2_with (refine wp_storeF rfl (.tmp 0) (.tmp 1) rfl w.heap.size _ _ rfl rfl R1.out rfl rfl (by simp [Value.oneCell']) ?_; intro w9 r9 k9 _; have R9 := Lib.hid r9; have K9 : Hid (Kpt w w9) := k9 _ _ K1.out (Nat.le_refl _); clear r9 k9)
  exact bodyPost_ret (v := .agg #[.int .i64 7, .int .i64 1, .int .i64 2, .int .i64 0, .int .i64 3, .int .i64 739935, .int .i64 100, .int .i64 0, .int .i64 0, .int .i64 0]) (results_cell_row Try.results68 _ _ w.heap.size _ _ _ _ rfl R9.out Try.underlying38 rfl Try.sizeFail) rfl ⟨rfl, K9.out⟩

theorem ab_cal : calE 96 wkH = 0 := by decide +kernel
theorem ab_ct : ctE 96 wkH 4 7 2 100 = 0 := by unfold ctE; rw [if_pos ab_cal]; decide
theorem ab_s1 : steR 96 wkH 739935 4 = 739942 ∧ steE 96 wkH 739935 4 = 0 := ste_up ab_cal (by decide) (by decide) (by decide) (by decide) (by decide) (by decide +kernel) (by decide +kernel)
theorem ab_s2 : steR 96 wkH 739942 7 = 739951 ∧ steE 96 wkH 739942 7 = 0 := ste_up ab_cal (by decide) (by decide) (by decide) (by decide) (by decide) (by decide +kernel) (by decide +kernel)
theorem ab_s3 : steR 96 wkH 739951 2 = 739953 ∧ steE 96 wkH 739951 2 = 0 := ste_up ab_cal (by decide) (by decide) (by decide) (by decide) (by decide) (by decide +kernel) (by decide +kernel)
theorem ab_d1 : dayAt 96 wkH 739935 4 7 2 1 = 739942 := ab_s1.1
theorem ab_d2 : dayAt 96 wkH 739935 4 7 2 2 = 739951 := by
  show steR 96 wkH (dayAt 96 wkH 739935 4 7 2 1) 7 = 739951
  rw [ab_d1]; exact ab_s2.1
theorem ab_d3 : dayAt 96 wkH 739935 4 7 2 3 = 739953 := by
  show steR 96 wkH (dayAt 96 wkH 739935 4 7 2 2) 2 = 739953
  rw [ab_d2]; exact ab_s3.1
theorem ab_w : wlkE 96 wkH 739935 4 7 2 = 0 := by
  refine wlk_no fun j hj => ?_
  rcases (show j = 0 ∨ j = 1 ∨ j = 2 by omega) with rfl | rfl | rfl
  · exact ab_s1.2
  · show steE 96 wkH (dayAt 96 wkH 739935 4 7 2 1) 7 = 0
    rw [ab_d1]; exact ab_s2.2
  · show steE 96 wkH (dayAt 96 wkH 739935 4 7 2 2) 2 = 0
    rw [ab_d2]; exact ab_s3.2
theorem ab_lk (q : Int) (h : dayB q = true) : lkE 96 wkH 4 7 2 100 7 1 2 0 3 739935 100 0 0 0 q = 0 := by
  unfold lkE
  rw [if_pos ab_ct, if_pos (by decide), if_pos h]; exact ab_w
theorem ab_1 (v : Value) (w : World) (hr : Reads w v wkH) : Calls Try.prog 147 #[calV 96 v, .agg #[.int .i64 4, .int .i64 7, .int .i64 2, .int .i64 100], .int .i64 739935] w fun z w' => z = .returned (.tuple #[.int .i64 739942, .int .i64 739951, .int .i64 739953, .int .i64 0]) ∧ Kpt w w' := by
  have := days_run 96 739935 4 7 2 100 v wkH w hr wk_fits
  have hE : agE 96 wkH 4 7 2 100 739935 = 0 := by unfold agE; rw [if_pos ab_ct]; exact ab_w
  unfold agD at this
  rwa [hE, if_pos rfl, if_pos rfl, if_pos rfl, ab_d1, ab_d2, ab_d3] at this
theorem ab_st (q s : Int) (hq : dayB q = true) (hs : stgV 100 739935 739942 739951 739953 q = s) (v : Value) (w : World) (hr : Reads w v wkH) : Calls Try.prog 106 #[calV 96 v, .agg #[.int .i64 4, .int .i64 7, .int .i64 2, .int .i64 100], .agg #[.int .i64 7, .int .i64 1, .int .i64 2, .int .i64 0, .int .i64 3, .int .i64 739935, .int .i64 100, .int .i64 0, .int .i64 0, .int .i64 0], .int .i64 q] w fun z w' => z = .returned (.tuple #[.int .i64 s, .int .i64 0]) ∧ Kpt w w' := by
  have := stg_ok 96 4 7 2 100 7 1 2 0 3 739935 100 0 0 0 q v wkH w hr wk_fits (ab_lk q hq)
  rwa [ab_d1, ab_d2, ab_d3, show openV 7 1 2 0 3 739935 100 0 0 0 = 100 by decide, hs] at this
theorem ab_5 (v : Value) (w : World) (hr : Reads w v wkH) : Calls Try.prog 106 #[calV 96 v, .agg #[.int .i64 0, .int .i64 101, .int .i64 0, .int .i64 0], .agg #[.int .i64 7, .int .i64 1, .int .i64 2, .int .i64 0, .int .i64 3, .int .i64 739935, .int .i64 100, .int .i64 0, .int .i64 0, .int .i64 0], .int .i64 1] w fun z w' => z = .returned (.tuple #[.int .i64 0, .int .i64 3]) ∧ Kpt w w' := by
  refine stg_bad 96 0 101 0 0 7 1 2 0 3 739935 100 0 0 0 1 v wkH w hr wk_fits 3 ?_ (by decide)
  unfold lkE
  have : ctE 96 wkH 0 101 0 0 = 3 := by unfold ctE; rw [if_pos ab_cal]; decide
  rw [if_neg (by rw [this]; decide), this]

end Go.Proofs.Ytgccipmeiceonaa

-- AgeG
namespace Go.Proofs.Ytgccipmeiceonaa
open Go.RowKit
set_option linter.unusedVariables false

def stgR (W : Int) (hs : List Int) (te tb td tr i f t c p d u x b y q : Int) : Int := if lkE W hs te tb td tr i f t c p d u x b y q = 0 then stgV (openV i f t c p d u x b y) d (dayAt W hs d te tb td 1) (dayAt W hs d te tb td 2) (dayAt W hs d te tb td 3) q else 0
theorem stage_any (W te tb td tr i f t c p d u x b y q : Int) (v : Value) (hs : List Int) (w : World) (hr : Reads w v hs) (hf : Fits hs) :
    Calls Try.prog 106 #[calV W v, .agg #[.int .i64 te, .int .i64 tb, .int .i64 td, .int .i64 tr], .agg #[.int .i64 i, .int .i64 f, .int .i64 t, .int .i64 c, .int .i64 p, .int .i64 d, .int .i64 u, .int .i64 x, .int .i64 b, .int .i64 y], .int .i64 q] w fun z w' => z = .returned (.tuple #[.int .i64 (stgR W hs te tb td tr i f t c p d u x b y q), .int .i64 (lkE W hs te tb td tr i f t c p d u x b y q)]) ∧ Kpt w w' := by
  unfold stgR
  by_cases h : lkE W hs te tb td tr i f t c p d u x b y q = 0
  · rw [if_pos h, h]; exact stg_ok W te tb td tr i f t c p d u x b y q v hs w hr hf h
  · rw [if_neg h]; exact stg_bad W te tb td tr i f t c p d u x b y q v hs w hr hf _ rfl h
/-- of a later day no step leads to an earlier one -/
theorem ste_mono {W : Int} {hs : List Int} {n n' m : Int} (hm : 0 ≤ m) (hn : n ≤ n') (h1 : steE W hs n m = 0) (h2 : steE W hs n' m = 0) : steR W hs n m ≤ steR W hs n' m := by
  rcases ste_cases W hs n m with ⟨_, _, _, _, _, _, _, _, c1⟩ | ⟨e, _⟩
  · rcases ste_cases W hs n' m with ⟨_, _, _, _, _, _, _, _, c2⟩ | ⟨e, _⟩
    · rcases c1 with ⟨_, e1⟩ | ⟨p1, l1, b1, k1⟩ | ⟨p1, _⟩
      · rcases c2 with ⟨_, e2⟩ | ⟨p2, l2, _⟩ | ⟨p2, _⟩
        · omega
        · omega
        · omega
      · rcases c2 with ⟨p2, e2⟩ | ⟨p2, l2, b2, k2⟩ | ⟨p2, _⟩
        · omega
        · rcases Int.lt_or_le (steR W hs n' m) (steR W hs n m) with g | g
          · exfalso
            have a1 := cnt_add (bizB W hs) (show n ≤ n' from hn) (show n' ≤ steR W hs n m by omega)
            have a2 := cnt_add (bizB W hs) (show n' ≤ steR W hs n' m by omega) (show steR W hs n' m ≤ steR W hs n m by omega)
            have a3 := cnt_pos (β := bizB W hs) (a := steR W hs n' m) (b := steR W hs n m) g (Int.le_refl _) b1
            omega
          · exact g
        · omega
      · omega
    · exact absurd h2 e
  · exact absurd h1 e
/-- no step leads back -/
theorem ste_ge {W : Int} {hs : List Int} {n m : Int} (hm : 0 ≤ m) (h1 : steE W hs n m = 0) : n ≤ steR W hs n m := by
  rcases ste_cases W hs n m with ⟨_, _, _, _, _, _, _, _, c1⟩ | ⟨e, _⟩
  · rcases c1 with ⟨_, e1⟩ | ⟨p1, l1, b1, k1⟩ | ⟨p1, _⟩ <;> omega
  · exact absurd h1 e
theorem three_nn {e b d : Int} (he : 0 ≤ e) (hb : 0 ≤ b) (hd : 0 ≤ d) {k : Nat} (hk : k < 3) : 0 ≤ three e b d k := by
  rcases (show k = 0 ∨ k = 1 ∨ k = 2 by omega) with rfl | rfl | rfl
  · exact he
  · exact hb
  · exact hd
theorem day_mono {W : Int} {hs : List Int} {n n' e b d : Int} (he : 0 ≤ e) (hb : 0 ≤ b) (hd : 0 ≤ d) (hn : n ≤ n') (h1 : wlkE W hs n e b d = 0) (h2 : wlkE W hs n' e b d = 0) (k : Nat) (hk : k ≤ 3) : dayAt W hs n e b d k ≤ dayAt W hs n' e b d k := by
  induction k with
  | zero => exact hn
  | succ k ih => exact ste_mono (three_nn he hb hd (by omega)) (ih (by omega)) (wlk_0 h1 k (by omega)) (wlk_0 h2 k (by omega))
theorem day_up {W : Int} {hs : List Int} {n e b d : Int} (he : 0 ≤ e) (hb : 0 ≤ b) (hd : 0 ≤ d) (h1 : wlkE W hs n e b d = 0) : n ≤ dayAt W hs n e b d 1 ∧ dayAt W hs n e b d 1 ≤ dayAt W hs n e b d 2 ∧ dayAt W hs n e b d 2 ≤ dayAt W hs n e b d 3 :=
  ⟨ste_ge he (wlk_0 h1 0 (by omega)), ste_ge hb (wlk_0 h1 1 (by omega)), ste_ge hd (wlk_0 h1 2 (by omega))⟩
theorem ct_0 {W : Int} {hs : List Int} {e b d r : Int} (h : ctE W hs e b d r = 0) : calE W hs = 0 ∧ (0 ≤ e ∧ e ≤ 100) ∧ (0 ≤ b ∧ b ≤ 100) ∧ (0 ≤ d ∧ d ≤ 100) ∧ 0 ≤ r ∧ r ≤ 1000000 := by
  unfold ctE at h
  split at h
  · next h1 => exact ⟨h1, term_0 h⟩
  · next h1 => exact absurd h h1
theorem stg_done (d g1 g2 g3 q : Int) : stgV 0 d g1 g2 g3 q = 5 := by unfold stgV; rw [if_pos rfl]
theorem stg_lt {o d g1 g2 g3 q : Int} (h : o ≠ 0) : 0 ≤ stgV o d g1 g2 g3 q ∧ stgV o d g1 g2 g3 q ≤ 4 := by
  unfold stgV; rw [if_neg h]
  repeat' split
  all_goals omega
theorem stg_same {o o' d g1 g2 g3 q : Int} (h : o ≠ 0) (h' : o' ≠ 0) : stgV o d g1 g2 g3 q = stgV o' d g1 g2 g3 q := by
  unfold stgV; rw [if_neg h, if_neg h']
theorem stg_mono {o d g1 g2 g3 q q' : Int} (h : o ≠ 0) (hq : q ≤ q') : stgV o d g1 g2 g3 q ≤ stgV o d g1 g2 g3 q' := by
  unfold stgV; rw [if_neg h, if_neg h]
  repeat' split
  all_goals omega
theorem stg_four {o d g1 g2 g3 q : Int} (h : o ≠ 0) (h1 : d ≤ g1) (h2 : g1 ≤ g2) (h3 : g2 ≤ g3) : stgV o d g1 g2 g3 q = 4 ↔ g3 < q := by
  unfold stgV; rw [if_neg h]
  constructor
  · intro e
    repeat' split at e
    all_goals omega
  · intro e
    rw [if_neg (by omega), if_neg (by omega), if_neg (by omega), if_neg (by omega)]

end Go.Proofs.Ytgccipmeiceonaa
