/-
  What stage, Stage and Left of package age do.
-/
import Derived.Test.YtbidafbllnhmnaaAgeD
namespace Go.Proofs.Ytbidafbllnhmnaa
open Go.RowKit
set_option linter.unusedVariables false

/-- the stage on a day -/
def stgV (o d g1 g2 g3 q : Int) : Int := if o = 0 then 5 else if q ≤ d then 0 else if q ≤ g1 then 1 else if q ≤ g2 then 2 else if q ≤ g3 then 3 else 4
set_option maxHeartbeats 4000000 in
theorem stage_run (i f t c p d u x b y o g1 g2 g3 q : Int) (w : World) :
    Calls Try.prog 71 #[.agg #[.int .i64 i, .int .i64 f, .int .i64 t, .int .i64 c, .int .i64 p, .int .i64 d, .int .i64 u, .int .i64 x, .int .i64 b, .int .i64 y, .int .i64 o, .int .i64 g1, .int .i64 g2, .int .i64 g3], .int .i64 q] w fun z w' => z = .returned (.int .i64 (stgV o d g1 g2 g3 q)) ∧ Kpt w w' := by
  by_cases h0 : o = 0
  · have z0 : (o == 0) = true := beq_iff_eq.2 h0
    rw [show stgV o d g1 g2 g3 q = 5 by unfold stgV; rw [if_pos h0]]
    clear h0
    go_enter Try.func71, Try.ntmps71
    go_wp2
    go_ret
    exact ⟨rfl, (Kpt.refl w).alloc _⟩
  have z0 : (o == 0) = false := beq_eq_false_iff_ne.2 h0
  by_cases h1 : q ≤ d
  · have y1 : decide (q ≤ d) = true := decide_eq_true h1
    rw [show stgV o d g1 g2 g3 q = 0 by unfold stgV; rw [if_neg h0, if_pos h1]]
    clear h0
    go_enter Try.func71, Try.ntmps71
    go_wp2
    go_ret
    exact ⟨rfl, (Kpt.refl w).alloc _⟩
  have y1 : decide (q ≤ d) = false := decide_eq_false h1
  by_cases h2 : q ≤ g1
  · have y2 : decide (q ≤ g1) = true := decide_eq_true h2
    rw [show stgV o d g1 g2 g3 q = 1 by unfold stgV; rw [if_neg h0, if_neg h1, if_pos h2]]
    clear h0
    go_enter Try.func71, Try.ntmps71
    go_wp2
    go_ret
    exact ⟨rfl, (Kpt.refl w).alloc _⟩
  have y2 : decide (q ≤ g1) = false := decide_eq_false h2
  by_cases h3 : q ≤ g2
  · have y3 : decide (q ≤ g2) = true := decide_eq_true h3
    rw [show stgV o d g1 g2 g3 q = 2 by unfold stgV; rw [if_neg h0, if_neg h1, if_neg h2, if_pos h3]]
    clear h0
    go_enter Try.func71, Try.ntmps71
    go_wp2
    go_ret
    exact ⟨rfl, (Kpt.refl w).alloc _⟩
  have y3 : decide (q ≤ g2) = false := decide_eq_false h3
  by_cases h4 : q ≤ g3
  · have y4 : decide (q ≤ g3) = true := decide_eq_true h4
    rw [show stgV o d g1 g2 g3 q = 3 by unfold stgV; rw [if_neg h0, if_neg h1, if_neg h2, if_neg h3, if_pos h4]]
    clear h0
    go_enter Try.func71, Try.ntmps71
    go_wp2
    go_ret
    exact ⟨rfl, (Kpt.refl w).alloc _⟩
  have y4 : decide (q ≤ g3) = false := decide_eq_false h4
  rw [show stgV o d g1 g2 g3 q = 4 by unfold stgV; rw [if_neg h0, if_neg h1, if_neg h2, if_neg h3, if_neg h4]]
  clear h0
  go_enter Try.func71, Try.ntmps71
  go_wp2
  go_ret
  exact ⟨rfl, (Kpt.refl w).alloc _⟩

theorem look_run (W te tb td tr i f t c p d u x b y q : Int) (v : Value) (hs : List Int) (w : World) (hr : Reads w v hs) (hf : Fits hs) :
    (lkE W hs te tb td tr i f t c p d u x b y q ≠ 0 → Calls Try.prog 70 #[calV W v, .agg #[.int .i64 te, .int .i64 tb, .int .i64 td, .int .i64 tr], .agg #[.int .i64 i, .int .i64 f, .int .i64 t, .int .i64 c, .int .i64 p, .int .i64 d, .int .i64 u, .int .i64 x, .int .i64 b, .int .i64 y], .int .i64 q] w fun z w' => z = .returned (.tuple #[.agg #[.int .i64 0, .int .i64 0, .int .i64 0, .int .i64 0, .int .i64 0, .int .i64 0, .int .i64 0, .int .i64 0, .int .i64 0, .int .i64 0, .int .i64 0, .int .i64 0, .int .i64 0, .int .i64 0], .int .i64 (lkE W hs te tb td tr i f t c p d u x b y q)]) ∧ Kpt w w') ∧
    (lkE W hs te tb td tr i f t c p d u x b y q = 0 → Calls Try.prog 70 #[calV W v, .agg #[.int .i64 te, .int .i64 tb, .int .i64 td, .int .i64 tr], .agg #[.int .i64 i, .int .i64 f, .int .i64 t, .int .i64 c, .int .i64 p, .int .i64 d, .int .i64 u, .int .i64 x, .int .i64 b, .int .i64 y], .int .i64 q] w fun z w' => z = .returned (.tuple #[.agg #[.int .i64 i, .int .i64 f, .int .i64 t, .int .i64 c, .int .i64 p, .int .i64 d, .int .i64 u, .int .i64 x, .int .i64 b, .int .i64 y, .int .i64 (openV i f t c p d u x b y), .int .i64 (dayAt W hs d te tb td 1), .int .i64 (dayAt W hs d te tb td 2), .int .i64 (dayAt W hs d te tb td 3)], .int .i64 0]) ∧ Kpt w w') := by
  constructor
  · intro h
    by_cases h1 : ctE W hs te tb td tr = 0
    · by_cases h2 : failE i f t c p d u x b y = 0
      · by_cases h3 : dayB q = true
        · have e : lkE W hs te tb td tr i f t c p d u x b y q = wlkE W hs d te tb td := by unfold lkE; rw [if_pos h1, if_pos h2, if_pos h3]
          rw [e] at h ⊢
          exact look_wl W te tb td tr i f t c p d u x b y q v hs w hr hf _ h1 h2 h3 rfl h
        · have e : lkE W hs te tb td tr i f t c p d u x b y q = 3 := by unfold lkE; rw [if_pos h1, if_pos h2, if_neg h3]
          rw [e]
          exact look_day W te tb td tr i f t c p d u x b y q v hs w hr hf h1 h2 (by simpa using h3)
      · have e : lkE W hs te tb td tr i f t c p d u x b y q = failE i f t c p d u x b y := by unfold lkE; rw [if_pos h1, if_neg h2]
        rw [e]
        exact look_fl W te tb td tr i f t c p d u x b y q v hs w hr hf _ h1 rfl h2
    · have e : lkE W hs te tb td tr i f t c p d u x b y q = ctE W hs te tb td tr := by unfold lkE; rw [if_neg h1]
      rw [e]
      exact look_ct W te tb td tr i f t c p d u x b y q v hs w hr hf _ rfl h1
  · intro h
    obtain ⟨h1, h2, h3, h4⟩ := lk_0 h
    exact look_ok W te tb td tr i f t c p d u x b y q v hs w hr hf h1 h2 h3 h4

set_option maxRecDepth 100000 in
set_option maxHeartbeats 4000000 in
theorem stg_bad (W te tb td tr i f t c p d u x b y q : Int) (v : Value) (hs : List Int) (w : World) (hr : Reads w v hs) (hf : Fits hs) (E : Int) (h : lkE W hs te tb td tr i f t c p d u x b y q = E) (h0 : E ≠ 0) :
    Calls Try.prog 23 #[calV W v, .agg #[.int .i64 te, .int .i64 tb, .int .i64 td, .int .i64 tr], .agg #[.int .i64 i, .int .i64 f, .int .i64 t, .int .i64 c, .int .i64 p, .int .i64 d, .int .i64 u, .int .i64 x, .int .i64 b, .int .i64 y], .int .i64 q] w fun z w' => z = .returned (.tuple #[.int .i64 0, .int .i64 E]) ∧ Kpt w w' := by
  have LK := Lib.hid (fun w' (k : Kpt w w') => (look_run W te tb td tr i f t c p d u x b y q v hs w' (hr.kpt k) hf).1 (by rw [h]; exact h0))
  rw [h] at LK
  have z0 : (E != 0) = true := bne_iff_ne.2 h0
  have K0 : Hid (Kpt w (((w.alloc (.cells #[.int .i64 W, v] 24)).alloc (.cells #[.int .i64 te, .int .i64 tb, .int .i64 td, .int .i64 tr] 41)).alloc (.cells #[.int .i64 i, .int .i64 f, .int .i64 t, .int .i64 c, .int .i64 p, .int .i64 d, .int .i64 u, .int .i64 x, .int .i64 b, .int .i64 y] 43))) := (((Kpt.refl w).alloc _).alloc _).alloc _
  have BC : Hid (Blk (((w.alloc (.cells #[.int .i64 W, v] 24)).alloc (.cells #[.int .i64 te, .int .i64 tb, .int .i64 td, .int .i64 tr] 41)).alloc (.cells #[.int .i64 i, .int .i64 f, .int .i64 t, .int .i64 c, .int .i64 p, .int .i64 d, .int .i64 u, .int .i64 x, .int .i64 b, .int .i64 y] 43)) w.heap.size #[.int .i64 W, v] 24) := ((Blk.made w _ _).alloc _).alloc _
  obtain ⟨a, cap, rfl, -⟩ := hr
  unfold calV at *
  clear h h0
  go_enter Try.func23, Try.ntmps23
  go_wp2_with (first
    | (go_at_call 70; (with_reducible refine (LK.out _ K0.out).mono ?_); rintro z w1 ⟨rfl, k1⟩; have K1 := Lib.hid (ktr K0.out k1); have BC := Lib.hid (BC.out.kpt k1); clear k1)
    | (refine wp_storeV rfl (.tmp 10) (.tmp 18) rfl w1.heap.size _ _ rfl rfl (Blk.made w1 #[.int .i64 0, .int .i64 0, .int .i64 0, .int .i64 0, .int .i64 0, .int .i64 0, .int .i64 0, .int .i64 0, .int .i64 0, .int .i64 0, .int .i64 0, .int .i64 0, .int .i64 0, .int .i64 0] 102) rfl rfl (by simp [Value.oneCell']) ?_; intro w9 r9 k9 o9; have R9 := Lib.hid r9; have K9 : Hid (Kpt w w9) := k9 _ _ (K1.out.alloc _) K1.out.size; have BC9 : Hid (Blk w9 w.heap.size #[.int .i64 W, .slice a hs.length cap] 24) := Blk.block (BC.out.alloc _) (o9 _ (by have := BC.out.lt; omega)); have a0 : World.cell? w9 ⟨w.heap.size, 0, none⟩ = some (.int .i64 W) := BC9.out.cell 0; have a1 : World.cell? w9 ⟨w.heap.size, 1, none⟩ = some (.slice a hs.length cap) := BC9.out.cell 1; have g13 : World.cell? w9 ⟨w1.heap.size, 13, none⟩ = some (.int .i64 0) := R9.out.cell 13; clear r9 k9 o9))
  go_ret2
  exact ⟨rfl, K9.out⟩

set_option maxRecDepth 100000 in
set_option maxHeartbeats 4000000 in
theorem stg_ok (W te tb td tr i f t c p d u x b y q : Int) (v : Value) (hs : List Int) (w : World) (hr : Reads w v hs) (hf : Fits hs) (h : lkE W hs te tb td tr i f t c p d u x b y q = 0) :
    Calls Try.prog 23 #[calV W v, .agg #[.int .i64 te, .int .i64 tb, .int .i64 td, .int .i64 tr], .agg #[.int .i64 i, .int .i64 f, .int .i64 t, .int .i64 c, .int .i64 p, .int .i64 d, .int .i64 u, .int .i64 x, .int .i64 b, .int .i64 y], .int .i64 q] w fun z w' => z = .returned (.tuple #[.int .i64 (stgV (openV i f t c p d u x b y) d (dayAt W hs d te tb td 1) (dayAt W hs d te tb td 2) (dayAt W hs d te tb td 3) q), .int .i64 0]) ∧ Kpt w w' := by
  have LK := Lib.hid (fun w' (k : Kpt w w') => (look_run W te tb td tr i f t c p d u x b y q v hs w' (hr.kpt k) hf).2 h)
  have K0 : Hid (Kpt w (((w.alloc (.cells #[.int .i64 W, v] 24)).alloc (.cells #[.int .i64 te, .int .i64 tb, .int .i64 td, .int .i64 tr] 41)).alloc (.cells #[.int .i64 i, .int .i64 f, .int .i64 t, .int .i64 c, .int .i64 p, .int .i64 d, .int .i64 u, .int .i64 x, .int .i64 b, .int .i64 y] 43))) := (((Kpt.refl w).alloc _).alloc _).alloc _
  have BC : Hid (Blk (((w.alloc (.cells #[.int .i64 W, v] 24)).alloc (.cells #[.int .i64 te, .int .i64 tb, .int .i64 td, .int .i64 tr] 41)).alloc (.cells #[.int .i64 i, .int .i64 f, .int .i64 t, .int .i64 c, .int .i64 p, .int .i64 d, .int .i64 u, .int .i64 x, .int .i64 b, .int .i64 y] 43)) w.heap.size #[.int .i64 W, v] 24) := ((Blk.made w _ _).alloc _).alloc _
  obtain ⟨a, cap, rfl, -⟩ := hr
  unfold calV at *
  clear h
  generalize openV i f t c p d u x b y = o at *
  generalize dayAt W hs d te tb td 1 = g1 at *
  generalize dayAt W hs d te tb td 2 = g2 at *
  generalize dayAt W hs d te tb td 3 = g3 at *
  have SR := Lib.hid (fun w' => stage_run i f t c p d u x b y o g1 g2 g3 q w')
  generalize stgV o d g1 g2 g3 q = s at *
  go_enter Try.func23, Try.ntmps23
  go_wp2_with (first
    | (go_at_call 70; (with_reducible refine (LK.out _ K0.out).mono ?_); rintro z w1 ⟨rfl, k1⟩; have K1 := Lib.hid (ktr K0.out k1); have BC := Lib.hid (BC.out.kpt k1); clear k1)
    | (refine wp_storeV rfl (.tmp 10) (.tmp 18) rfl w1.heap.size _ _ rfl rfl (Blk.made w1 #[.int .i64 0, .int .i64 0, .int .i64 0, .int .i64 0, .int .i64 0, .int .i64 0, .int .i64 0, .int .i64 0, .int .i64 0, .int .i64 0, .int .i64 0, .int .i64 0, .int .i64 0, .int .i64 0] 102) rfl rfl (by simp [Value.oneCell']) ?_; intro w9 r9 k9 o9; have R9 := Lib.hid r9; have K9 : Hid (Kpt w w9) := k9 _ _ (K1.out.alloc _) K1.out.size; have BC9 : Hid (Blk w9 w.heap.size #[.int .i64 W, .slice a hs.length cap] 24) := Blk.block (BC.out.alloc _) (o9 _ (by have := BC.out.lt; omega)); have a0 : World.cell? w9 ⟨w.heap.size, 0, none⟩ = some (.int .i64 W) := BC9.out.cell 0; have a1 : World.cell? w9 ⟨w.heap.size, 1, none⟩ = some (.slice a hs.length cap) := BC9.out.cell 1; have g13 : World.cell? w9 ⟨w1.heap.size, 13, none⟩ = some (.int .i64 g3) := R9.out.cell 13; clear r9 k9 o9)
    | (refine wp_loadV rfl (.tmp 10) rfl w1.heap.size _ rfl R9.out rfl ?_)
    | (go_at_call 71; (with_reducible refine (SR.out _).mono ?_); rintro z w5 ⟨rfl, k1⟩; have K5 := Lib.hid (ktr K9.out k1); clear k1))
  go_ret2
  exact ⟨rfl, K5.out⟩

set_option maxRecDepth 100000 in
set_option maxHeartbeats 4000000 in
theorem lft_bad (W te tb td tr i f t c p d u x b y q : Int) (v : Value) (hs : List Int) (w : World) (hr : Reads w v hs) (hf : Fits hs) (E : Int) (h : lkE W hs te tb td tr i f t c p d u x b y q = E) (h0 : E ≠ 0) :
    Calls Try.prog 69 #[calV W v, .agg #[.int .i64 te, .int .i64 tb, .int .i64 td, .int .i64 tr], .agg #[.int .i64 i, .int .i64 f, .int .i64 t, .int .i64 c, .int .i64 p, .int .i64 d, .int .i64 u, .int .i64 x, .int .i64 b, .int .i64 y], .int .i64 q] w fun z w' => z = .returned (.tuple #[.int .i64 0, .int .i64 E]) ∧ Kpt w w' := by
  have LK := Lib.hid (fun w' (k : Kpt w w') => (look_run W te tb td tr i f t c p d u x b y q v hs w' (hr.kpt k) hf).1 (by rw [h]; exact h0))
  rw [h] at LK
  have z0 : (E != 0) = true := bne_iff_ne.2 h0
  have K0 : Hid (Kpt w (((w.alloc (.cells #[.int .i64 W, v] 24)).alloc (.cells #[.int .i64 te, .int .i64 tb, .int .i64 td, .int .i64 tr] 41)).alloc (.cells #[.int .i64 i, .int .i64 f, .int .i64 t, .int .i64 c, .int .i64 p, .int .i64 d, .int .i64 u, .int .i64 x, .int .i64 b, .int .i64 y] 43))) := (((Kpt.refl w).alloc _).alloc _).alloc _
  have BC : Hid (Blk (((w.alloc (.cells #[.int .i64 W, v] 24)).alloc (.cells #[.int .i64 te, .int .i64 tb, .int .i64 td, .int .i64 tr] 41)).alloc (.cells #[.int .i64 i, .int .i64 f, .int .i64 t, .int .i64 c, .int .i64 p, .int .i64 d, .int .i64 u, .int .i64 x, .int .i64 b, .int .i64 y] 43)) w.heap.size #[.int .i64 W, v] 24) := ((Blk.made w _ _).alloc _).alloc _
  obtain ⟨a, cap, rfl, -⟩ := hr
  unfold calV at *
  clear h h0
  go_enter Try.func69, Try.ntmps69
  go_wp2_with (first
    | (go_at_call 70; (with_reducible refine (LK.out _ K0.out).mono ?_); rintro z w1 ⟨rfl, k1⟩; have K1 := Lib.hid (ktr K0.out k1); have BC := Lib.hid (BC.out.kpt k1); clear k1)
    | (refine wp_storeV rfl (.tmp 10) (.tmp 18) rfl w1.heap.size _ _ rfl rfl (Blk.made w1 #[.int .i64 0, .int .i64 0, .int .i64 0, .int .i64 0, .int .i64 0, .int .i64 0, .int .i64 0, .int .i64 0, .int .i64 0, .int .i64 0, .int .i64 0, .int .i64 0, .int .i64 0, .int .i64 0] 102) rfl rfl (by simp [Value.oneCell']) ?_; intro w9 r9 k9 o9; have R9 := Lib.hid r9; have K9 : Hid (Kpt w w9) := k9 _ _ (K1.out.alloc _) K1.out.size; have BC9 : Hid (Blk w9 w.heap.size #[.int .i64 W, .slice a hs.length cap] 24) := Blk.block (BC.out.alloc _) (o9 _ (by have := BC.out.lt; omega)); have a0 : World.cell? w9 ⟨w.heap.size, 0, none⟩ = some (.int .i64 W) := BC9.out.cell 0; have a1 : World.cell? w9 ⟨w.heap.size, 1, none⟩ = some (.slice a hs.length cap) := BC9.out.cell 1; have g13 : World.cell? w9 ⟨w1.heap.size, 13, none⟩ = some (.int .i64 0) := R9.out.cell 13; clear r9 k9 o9))
  go_ret2
  exact ⟨rfl, K9.out⟩

set_option maxRecDepth 100000 in
set_option maxHeartbeats 4000000 in
theorem lft_past (W te tb td tr i f t c p d u x b y q : Int) (v : Value) (hs : List Int) (w : World) (hr : Reads w v hs) (hf : Fits hs) (h : lkE W hs te tb td tr i f t c p d u x b y q = 0) (hp : dayAt W hs d te tb td 3 < q) :
    Calls Try.prog 69 #[calV W v, .agg #[.int .i64 te, .int .i64 tb, .int .i64 td, .int .i64 tr], .agg #[.int .i64 i, .int .i64 f, .int .i64 t, .int .i64 c, .int .i64 p, .int .i64 d, .int .i64 u, .int .i64 x, .int .i64 b, .int .i64 y], .int .i64 q] w fun z w' => z = .returned (.tuple #[.int .i64 0, .int .i64 0]) ∧ Kpt w w' := by
  have LK := Lib.hid (fun w' (k : Kpt w w') => (look_run W te tb td tr i f t c p d u x b y q v hs w' (hr.kpt k) hf).2 h)
  have K0 : Hid (Kpt w (((w.alloc (.cells #[.int .i64 W, v] 24)).alloc (.cells #[.int .i64 te, .int .i64 tb, .int .i64 td, .int .i64 tr] 41)).alloc (.cells #[.int .i64 i, .int .i64 f, .int .i64 t, .int .i64 c, .int .i64 p, .int .i64 d, .int .i64 u, .int .i64 x, .int .i64 b, .int .i64 y] 43))) := (((Kpt.refl w).alloc _).alloc _).alloc _
  have BC : Hid (Blk (((w.alloc (.cells #[.int .i64 W, v] 24)).alloc (.cells #[.int .i64 te, .int .i64 tb, .int .i64 td, .int .i64 tr] 41)).alloc (.cells #[.int .i64 i, .int .i64 f, .int .i64 t, .int .i64 c, .int .i64 p, .int .i64 d, .int .i64 u, .int .i64 x, .int .i64 b, .int .i64 y] 43)) w.heap.size #[.int .i64 W, v] 24) := ((Blk.made w _ _).alloc _).alloc _
  obtain ⟨a, cap, rfl, -⟩ := hr
  unfold calV at *
  clear h
  generalize openV i f t c p d u x b y = o at *
  generalize dayAt W hs d te tb td 1 = g1 at *
  generalize dayAt W hs d te tb td 2 = g2 at *
  generalize dayAt W hs d te tb td 3 = g3 at *
  have y0 : decide (g3 < q) = true := decide_eq_true hp
  go_enter Try.func69, Try.ntmps69
  go_wp2_with (first
    | (go_at_call 70; (with_reducible refine (LK.out _ K0.out).mono ?_); rintro z w1 ⟨rfl, k1⟩; have K1 := Lib.hid (ktr K0.out k1); have BC := Lib.hid (BC.out.kpt k1); clear k1)
    | (refine wp_storeV rfl (.tmp 10) (.tmp 18) rfl w1.heap.size _ _ rfl rfl (Blk.made w1 #[.int .i64 0, .int .i64 0, .int .i64 0, .int .i64 0, .int .i64 0, .int .i64 0, .int .i64 0, .int .i64 0, .int .i64 0, .int .i64 0, .int .i64 0, .int .i64 0, .int .i64 0, .int .i64 0] 102) rfl rfl (by simp [Value.oneCell']) ?_; intro w9 r9 k9 o9; have R9 := Lib.hid r9; have K9 : Hid (Kpt w w9) := k9 _ _ (K1.out.alloc _) K1.out.size; have BC9 : Hid (Blk w9 w.heap.size #[.int .i64 W, .slice a hs.length cap] 24) := Blk.block (BC.out.alloc _) (o9 _ (by have := BC.out.lt; omega)); have a0 : World.cell? w9 ⟨w.heap.size, 0, none⟩ = some (.int .i64 W) := BC9.out.cell 0; have a1 : World.cell? w9 ⟨w.heap.size, 1, none⟩ = some (.slice a hs.length cap) := BC9.out.cell 1; have g13 : World.cell? w9 ⟨w1.heap.size, 13, none⟩ = some (.int .i64 g3) := R9.out.cell 13; clear r9 k9 o9))
  go_ret2
  exact ⟨rfl, K9.out⟩

set_option maxRecDepth 100000 in
set_option maxHeartbeats 4000000 in
theorem lft_ok (W te tb td tr i f t c p d u x b y q : Int) (v : Value) (hs : List Int) (w : World) (hr : Reads w v hs) (hf : Fits hs) (h : lkE W hs te tb td tr i f t c p d u x b y q = 0) (hp : ¬ dayAt W hs d te tb td 3 < q) :
    Calls Try.prog 69 #[calV W v, .agg #[.int .i64 te, .int .i64 tb, .int .i64 td, .int .i64 tr], .agg #[.int .i64 i, .int .i64 f, .int .i64 t, .int .i64 c, .int .i64 p, .int .i64 d, .int .i64 u, .int .i64 x, .int .i64 b, .int .i64 y], .int .i64 q] w fun z w' => z = .returned (.tuple #[.int .i64 (couR W hs q (dayAt W hs d te tb td 3)), .int .i64 (couE W hs q (dayAt W hs d te tb td 3))]) ∧ Kpt w w' := by
  have LK := Lib.hid (fun w' (k : Kpt w w') => (look_run W te tb td tr i f t c p d u x b y q v hs w' (hr.kpt k) hf).2 h)
  have CO := Lib.hid (fun w' (k : Kpt w w') => count_any W q (dayAt W hs d te tb td 3) v hs w' (hr.kpt k) hf)
  have K0 : Hid (Kpt w (((w.alloc (.cells #[.int .i64 W, v] 24)).alloc (.cells #[.int .i64 te, .int .i64 tb, .int .i64 td, .int .i64 tr] 41)).alloc (.cells #[.int .i64 i, .int .i64 f, .int .i64 t, .int .i64 c, .int .i64 p, .int .i64 d, .int .i64 u, .int .i64 x, .int .i64 b, .int .i64 y] 43))) := (((Kpt.refl w).alloc _).alloc _).alloc _
  have BC : Hid (Blk (((w.alloc (.cells #[.int .i64 W, v] 24)).alloc (.cells #[.int .i64 te, .int .i64 tb, .int .i64 td, .int .i64 tr] 41)).alloc (.cells #[.int .i64 i, .int .i64 f, .int .i64 t, .int .i64 c, .int .i64 p, .int .i64 d, .int .i64 u, .int .i64 x, .int .i64 b, .int .i64 y] 43)) w.heap.size #[.int .i64 W, v] 24) := ((Blk.made w _ _).alloc _).alloc _
  obtain ⟨a, cap, rfl, -⟩ := hr
  unfold calV at *
  clear h
  generalize openV i f t c p d u x b y = o at *
  generalize dayAt W hs d te tb td 1 = g1 at *
  generalize dayAt W hs d te tb td 2 = g2 at *
  generalize dayAt W hs d te tb td 3 = g3 at *
  have y0 : decide (g3 < q) = false := decide_eq_false hp
  generalize couR W hs q g3 = cr at *
  generalize couE W hs q g3 = ce at *
  go_enter Try.func69, Try.ntmps69
  go_wp2_with (first
    | (go_at_call 70; (with_reducible refine (LK.out _ K0.out).mono ?_); rintro z w1 ⟨rfl, k1⟩; have K1 := Lib.hid (ktr K0.out k1); have BC := Lib.hid (BC.out.kpt k1); clear k1)
    | (refine wp_storeV rfl (.tmp 10) (.tmp 18) rfl w1.heap.size _ _ rfl rfl (Blk.made w1 #[.int .i64 0, .int .i64 0, .int .i64 0, .int .i64 0, .int .i64 0, .int .i64 0, .int .i64 0, .int .i64 0, .int .i64 0, .int .i64 0, .int .i64 0, .int .i64 0, .int .i64 0, .int .i64 0] 102) rfl rfl (by simp [Value.oneCell']) ?_; intro w9 r9 k9 o9; have R9 := Lib.hid r9; have K9 : Hid (Kpt w w9) := k9 _ _ (K1.out.alloc _) K1.out.size; have BC9 : Hid (Blk w9 w.heap.size #[.int .i64 W, .slice a hs.length cap] 24) := Blk.block (BC.out.alloc _) (o9 _ (by have := BC.out.lt; omega)); have a0 : World.cell? w9 ⟨w.heap.size, 0, none⟩ = some (.int .i64 W) := BC9.out.cell 0; have a1 : World.cell? w9 ⟨w.heap.size, 1, none⟩ = some (.slice a hs.length cap) := BC9.out.cell 1; have g13 : World.cell? w9 ⟨w1.heap.size, 13, none⟩ = some (.int .i64 g3) := R9.out.cell 13; clear r9 k9 o9)
    | (go_at_call 108; (with_reducible refine (CO.out _ K9.out).mono ?_); rintro z w5 ⟨rfl, k1⟩; have K5 := Lib.hid (ktr K9.out k1); clear k1))
  go_ret2
  exact ⟨rfl, K5.out⟩

end Go.Proofs.Ytbidafbllnhmnaa
