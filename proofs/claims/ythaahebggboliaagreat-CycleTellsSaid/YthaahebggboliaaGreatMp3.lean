/-
  Merged: PenC, PenF, DueApp, QuietK, PenG.
-/
import Derived.Test.YthaahebggboliaaGreatMp2
import Derived.Test.YthaahebggboliaaGreatTrip
import Derived.Test.YthaahebggboliaaGreatOwn
import Derived.Test.YthaahebggboliaaGreatKept
import Derived.Deep.QuietTactic
import Derived.BigQuiet
-- PenC
namespace Go.Proofs.YthaahebggboliaaGreat
open Go.RowKit
set_option linter.unusedVariables false

set_option maxRecDepth 100000 in
set_option maxHeartbeats 4000000 in
theorem cost_bad (W te tb td tr i f t c p d u x b y z q : Int) (v : Value) (hs : List Int) (w : World) (hr : Reads w v hs) (hf : Fits hs) (E : Int) (h : (lkE W hs te tb td tr i f t c p d u x b y q) = E) (h0 : E ≠ 0) :
    Calls Tryz.prog 151 #[calV W v, .agg #[.int .i64 te, .int .i64 tb, .int .i64 td, .int .i64 tr], .agg #[.int .i64 i, .int .i64 f, .int .i64 t, .int .i64 c, .int .i64 p, .int .i64 d, .int .i64 u, .int .i64 x, .int .i64 b, .int .i64 y], .int .i64 z, .int .i64 q] w fun e w' => e = .returned (.tuple #[.int .i64 0, .int .i64 E]) ∧ Kpt w w' := by
  have SG := Lib.hid (fun w' (k : Kpt w w') => stage_any W te tb td tr i f t c p d u x b y q v hs w' (hr.kpt k) hf)
  rw [h] at SG
  have z0 : (E != 0) = true := bne_iff_ne.2 h0
  have K0 : Hid (Kpt w (((w.alloc (.cells #[.int .i64 W, v] 24)).alloc (.cells #[.int .i64 te, .int .i64 tb, .int .i64 td, .int .i64 tr] 60)).alloc (.cells #[.int .i64 i, .int .i64 f, .int .i64 t, .int .i64 c, .int .i64 p, .int .i64 d, .int .i64 u, .int .i64 x, .int .i64 b, .int .i64 y] 42))) := (((Kpt.refl w).alloc _).alloc _).alloc _
  obtain ⟨a, cap, rfl, -⟩ := hr
  unfold calV at *
  clear h h0
  generalize (stgR W hs te tb td tr i f t c p d u x b y q) = S at *
  go_enter Tryz.func151, Tryz.ntmps151
  go_wp2_with (first
    | (go_at_call 31; (with_reducible refine (SG.out _ K0.out).mono ?_); rintro e w1 ⟨rfl, k1⟩; have K1 := Lib.hid (ktr K0.out k1); clear k1))
  go_ret2
  exact ⟨rfl, K1.out⟩

set_option maxRecDepth 100000 in
set_option maxHeartbeats 4000000 in
theorem cost_nil (W te tb td tr i f t c p d u x b y z q : Int) (v : Value) (hs : List Int) (w : World) (hr : Reads w v hs) (hf : Fits hs) (h : (lkE W hs te tb td tr i f t c p d u x b y q) = 0) (hs0 : (stgR W hs te tb td tr i f t c p d u x b y q) = 0) :
    Calls Tryz.prog 151 #[calV W v, .agg #[.int .i64 te, .int .i64 tb, .int .i64 td, .int .i64 tr], .agg #[.int .i64 i, .int .i64 f, .int .i64 t, .int .i64 c, .int .i64 p, .int .i64 d, .int .i64 u, .int .i64 x, .int .i64 b, .int .i64 y], .int .i64 z, .int .i64 q] w fun e w' => e = .returned (.tuple #[.int .i64 0, .int .i64 0]) ∧ Kpt w w' := by
  have SG := Lib.hid (fun w' (k : Kpt w w') => stage_any W te tb td tr i f t c p d u x b y q v hs w' (hr.kpt k) hf)
  rw [h, hs0] at SG
  have K0 : Hid (Kpt w (((w.alloc (.cells #[.int .i64 W, v] 24)).alloc (.cells #[.int .i64 te, .int .i64 tb, .int .i64 td, .int .i64 tr] 60)).alloc (.cells #[.int .i64 i, .int .i64 f, .int .i64 t, .int .i64 c, .int .i64 p, .int .i64 d, .int .i64 u, .int .i64 x, .int .i64 b, .int .i64 y] 42))) := (((Kpt.refl w).alloc _).alloc _).alloc _
  obtain ⟨a, cap, rfl, -⟩ := hr
  unfold calV at *
  clear h hs0
  go_enter Tryz.func151, Tryz.ntmps151
  go_wp2_with (first
    | (go_at_call 31; (with_reducible refine (SG.out _ K0.out).mono ?_); rintro e w1 ⟨rfl, k1⟩; have K1 := Lib.hid (ktr K0.out k1); clear k1))
  go_ret2
  exact ⟨rfl, K1.out⟩

set_option maxRecDepth 100000 in
set_option maxHeartbeats 4000000 in
theorem cost_done (W te tb td tr i f t c p d u x b y z q : Int) (v : Value) (hs : List Int) (w : World) (hr : Reads w v hs) (hf : Fits hs) (h : (lkE W hs te tb td tr i f t c p d u x b y q) = 0) (hs0 : (stgR W hs te tb td tr i f t c p d u x b y q) = 5) :
    Calls Tryz.prog 151 #[calV W v, .agg #[.int .i64 te, .int .i64 tb, .int .i64 td, .int .i64 tr], .agg #[.int .i64 i, .int .i64 f, .int .i64 t, .int .i64 c, .int .i64 p, .int .i64 d, .int .i64 u, .int .i64 x, .int .i64 b, .int .i64 y], .int .i64 z, .int .i64 q] w fun e w' => e = .returned (.tuple #[.int .i64 0, .int .i64 0]) ∧ Kpt w w' := by
  have SG := Lib.hid (fun w' (k : Kpt w w') => stage_any W te tb td tr i f t c p d u x b y q v hs w' (hr.kpt k) hf)
  rw [h, hs0] at SG
  have K0 : Hid (Kpt w (((w.alloc (.cells #[.int .i64 W, v] 24)).alloc (.cells #[.int .i64 te, .int .i64 tb, .int .i64 td, .int .i64 tr] 60)).alloc (.cells #[.int .i64 i, .int .i64 f, .int .i64 t, .int .i64 c, .int .i64 p, .int .i64 d, .int .i64 u, .int .i64 x, .int .i64 b, .int .i64 y] 42))) := (((Kpt.refl w).alloc _).alloc _).alloc _
  obtain ⟨a, cap, rfl, -⟩ := hr
  unfold calV at *
  clear h hs0
  go_enter Tryz.func151, Tryz.ntmps151
  go_wp2_with (first
    | (go_at_call 31; (with_reducible refine (SG.out _ K0.out).mono ?_); rintro e w1 ⟨rfl, k1⟩; have K1 := Lib.hid (ktr K0.out k1); clear k1))
  go_ret2
  exact ⟨rfl, K1.out⟩

set_option maxRecDepth 100000 in
set_option maxHeartbeats 4000000 in
theorem cost_ok (W te tb td tr i f t c p d u x b y z q : Int) (v : Value) (hs : List Int) (w : World) (hr : Reads w v hs) (hf : Fits hs) (h : (lkE W hs te tb td tr i f t c p d u x b y q) = 0) (h0 : (stgR W hs te tb td tr i f t c p d u x b y q) ≠ 0) (h5 : (stgR W hs te tb td tr i f t c p d u x b y q) ≠ 5) (hp : prcB z = true) :
    Calls Tryz.prog 151 #[calV W v, .agg #[.int .i64 te, .int .i64 tb, .int .i64 td, .int .i64 tr], .agg #[.int .i64 i, .int .i64 f, .int .i64 t, .int .i64 c, .int .i64 p, .int .i64 d, .int .i64 u, .int .i64 x, .int .i64 b, .int .i64 y], .int .i64 z, .int .i64 q] w fun e w' => e = .returned (.tuple #[.int .i64 (dlyQ (openV i f t c p d u x b y) z tr), .int .i64 0]) ∧ Kpt w w' := by
  have SG := Lib.hid (fun w' (k : Kpt w w') => stage_any W te tb td tr i f t c p d u x b y q v hs w' (hr.kpt k) hf)
  rw [h] at SG
  have h2 := (lk_0 h).2.1
  have bd := fail_bd h2
  have bc := ct_0 (lk_0 h).1
  have hop : (openV i f t c p d u x b y) = u - x - b - y := by unfold openV; rw [if_pos h2]
  have hde : dlyE (openV i f t c p d u x b y) z tr = 0 := by
    unfold dlyE
    rw [if_pos (dly_mk (by omega) bc.2.2.2.2 (prc_t hp))]
  clear hop
  have OX := Lib.hid (fun w' => fopenX_run i f t c p d u x b y w')
  rw [h2] at OX
  have DY := Lib.hid (fun w' => daily_any (openV i f t c p d u x b y) z tr w')
  rw [hde] at DY
  have K0 : Hid (Kpt w (((w.alloc (.cells #[.int .i64 W, v] 24)).alloc (.cells #[.int .i64 te, .int .i64 tb, .int .i64 td, .int .i64 tr] 60)).alloc (.cells #[.int .i64 i, .int .i64 f, .int .i64 t, .int .i64 c, .int .i64 p, .int .i64 d, .int .i64 u, .int .i64 x, .int .i64 b, .int .i64 y] 42))) := (((Kpt.refl w).alloc _).alloc _).alloc _
  have BT : Hid (Blk (((w.alloc (.cells #[.int .i64 W, v] 24)).alloc (.cells #[.int .i64 te, .int .i64 tb, .int .i64 td, .int .i64 tr] 60)).alloc (.cells #[.int .i64 i, .int .i64 f, .int .i64 t, .int .i64 c, .int .i64 p, .int .i64 d, .int .i64 u, .int .i64 x, .int .i64 b, .int .i64 y] 42)) (w.heap.size + 1) #[.int .i64 te, .int .i64 tb, .int .i64 td, .int .i64 tr] 60) := by
    have := (Blk.made (w.alloc (.cells #[.int .i64 W, v] 24)) #[.int .i64 te, .int .i64 tb, .int .i64 td, .int .i64 tr] 60).alloc (.cells #[.int .i64 i, .int .i64 f, .int .i64 t, .int .i64 c, .int .i64 p, .int .i64 d, .int .i64 u, .int .i64 x, .int .i64 b, .int .i64 y] 42)
    simp only [World.size_alloc] at this
    exact this
  have BF : Hid (Blk (((w.alloc (.cells #[.int .i64 W, v] 24)).alloc (.cells #[.int .i64 te, .int .i64 tb, .int .i64 td, .int .i64 tr] 60)).alloc (.cells #[.int .i64 i, .int .i64 f, .int .i64 t, .int .i64 c, .int .i64 p, .int .i64 d, .int .i64 u, .int .i64 x, .int .i64 b, .int .i64 y] 42)) (w.heap.size + 2) #[.int .i64 i, .int .i64 f, .int .i64 t, .int .i64 c, .int .i64 p, .int .i64 d, .int .i64 u, .int .i64 x, .int .i64 b, .int .i64 y] 42) := by
    have := Blk.made ((w.alloc (.cells #[.int .i64 W, v] 24)).alloc (.cells #[.int .i64 te, .int .i64 tb, .int .i64 td, .int .i64 tr] 60)) #[.int .i64 i, .int .i64 f, .int .i64 t, .int .i64 c, .int .i64 p, .int .i64 d, .int .i64 u, .int .i64 x, .int .i64 b, .int .i64 y] 42
    simp only [World.size_alloc] at this
    exact this
  obtain ⟨a, cap, rfl, -⟩ := hr
  unfold calV at *
  clear h hde h2 hp bd bc
  generalize (stgR W hs te tb td tr i f t c p d u x b y q) = S at *
  have y0 : (S == 0) = false := by simpa using h0
  have y5 : (S == 5) = false := by simpa using h5
  have x0 : decide (S = 0) = false := by simpa using h0
  have x5 : decide (S = 5) = false := by simpa using h5
  have n0 : (S != 0) = true := by simpa using h0
  have n5 : (S != 5) = true := by simpa using h5
  clear h0 h5
  generalize dlyQ (openV i f t c p d u x b y) z tr = D at *
  generalize (openV i f t c p d u x b y) = o at *
  go_enter Tryz.func151, Tryz.ntmps151
  go_wp2_with (first
    | (go_at_call 31; (with_reducible refine (SG.out _ K0.out).mono ?_); rintro e w1 ⟨rfl, k1⟩; have K1 := Lib.hid (ktr K0.out k1); have BT := Lib.hid (BT.out.kpt k1); have BF := Lib.hid (BF.out.kpt k1); clear k1)
    | (go_at_call 34; (with_reducible refine (OX.out _).mono ?_); rintro e w2 ⟨rfl, k1⟩; have K2 := Lib.hid (ktr K1.out k1); have BT := Lib.hid (BT.out.kpt k1); have a0 : World.cell? w2 ⟨w.heap.size + 1, 3, none⟩ = some (.int .i64 tr) := BT.out.cell 3; clear k1)
    | (go_at_call 171; (with_reducible refine (DY.out _).mono ?_); rintro e w4 ⟨rfl, k1⟩; have K4 := Lib.hid (ktr K2.out k1); clear k1)
    | (refine wp_loadF rfl (.tmp 7) rfl (w.heap.size + 2) _ rfl BF.out rfl ?_))
  go_ret2
  exact ⟨rfl, K4.out⟩

/-- what a fail costs, whatever it is -/
theorem cost_all (W te tb td tr i f t c p d u x b y z q : Int) (v : Value) (hs : List Int) (w : World) (hr : Reads w v hs) (hf : Fits hs) (hp : prcB z = true) :
    Calls Tryz.prog 151 #[calV W v, .agg #[.int .i64 te, .int .i64 tb, .int .i64 td, .int .i64 tr], .agg #[.int .i64 i, .int .i64 f, .int .i64 t, .int .i64 c, .int .i64 p, .int .i64 d, .int .i64 u, .int .i64 x, .int .i64 b, .int .i64 y], .int .i64 z, .int .i64 q] w fun e w' => e = .returned (.tuple #[.int .i64 (if (lkE W hs te tb td tr i f t c p d u x b y q) = 0 then (if (stgR W hs te tb td tr i f t c p d u x b y q) = 0 ∨ (stgR W hs te tb td tr i f t c p d u x b y q) = 5 then 0 else dlyQ (openV i f t c p d u x b y) z tr) else 0), .int .i64 (lkE W hs te tb td tr i f t c p d u x b y q)]) ∧ Kpt w w' := by
  by_cases h : (lkE W hs te tb td tr i f t c p d u x b y q) = 0
  · rw [if_pos h, h]
    by_cases h0 : (stgR W hs te tb td tr i f t c p d u x b y q) = 0
    · rw [if_pos (Or.inl h0)]; exact cost_nil W te tb td tr i f t c p d u x b y z q v hs w hr hf h h0
    · by_cases h5 : (stgR W hs te tb td tr i f t c p d u x b y q) = 5
      · rw [if_pos (Or.inr h5)]; exact cost_done W te tb td tr i f t c p d u x b y z q v hs w hr hf h h5
      · rw [if_neg (by omega)]; exact cost_ok W te tb td tr i f t c p d u x b y z q v hs w hr hf h h0 h5 hp
  · rw [if_neg h]; exact cost_bad W te tb td tr i f t c p d u x b y z q v hs w hr hf _ rfl h

end Go.Proofs.YthaahebggboliaaGreat

-- PenF
namespace Go.Proofs.YthaahebggboliaaGreat
open Go.RowKit
set_option linter.unusedVariables false

theorem clo1 (W : Int) (v : Value) (hs : List Int) (B : Nat) (w : World) (hb : Blk w B #[.int .i64 W, v] 24) (hr : Reads w v hs) (hf : Fits hs) :
    Calls Tryz.prog 143 #[.pointer (some ⟨B, 0, none⟩)] w fun e w' => e = .returned (.int .i64 (calE W hs)) ∧ Kpt w w' := by
  have CC := Lib.hid (fun w' (k : Kpt w w') => calCheck_any W v hs w' (hr.kpt k) hf)
  have a0 : w.cell? ⟨B, 0, none⟩ = some (.int .i64 W) := hb.cell 0
  have a1 : w.cell? ⟨B, 1, none⟩ = some v := hb.cell 1
  obtain ⟨a, cap, rfl, -⟩ := hr
  unfold calV at *
  clear hb
  go_enter Tryz.func143, Tryz.ntmps143
  go_wp2_with (go_at_call 50; (with_reducible refine (CC.out _ (Kpt.refl _)).mono ?_); rintro x w1 ⟨rfl, k1⟩)
  go_ret
  exact ⟨rfl, k1.kpt⟩
theorem clo2 (v : Value) (ts : List (List Int)) (B : Nat) (w : World) (hb : Blk w B #[v] 25) (hr : ReadsT w v ts) :
    Calls Tryz.prog 144 #[.pointer (some ⟨B, 0, none⟩)] w fun e w' => e = .returned (.int .i64 (clsE ts)) ∧ Kpt w w' := by
  have CC := Lib.hid (cls_run v ts w hr)
  have a0 : w.cell? ⟨B, 0, none⟩ = some v := hb.cell 0
  obtain ⟨a, cap, rfl, -⟩ := hr
  clear hb
  go_enter Tryz.func144, Tryz.ntmps144
  go_wp2_with (go_at_call 145; (with_reducible refine CC.out.mono ?_); rintro x w1 ⟨rfl, k1⟩)
  go_ret
  exact ⟨rfl, k1⟩
theorem clo3 (v : Value) (fs : List (List Int)) (B : Nat) (w : World) (hb : Blk w B #[v] 28) (hr : ReadsF w v fs) :
    Calls Tryz.prog 146 #[.pointer (some ⟨B, 0, none⟩)] w fun e w' => e = .returned (.int .i64 (checksE fs)) ∧ Kpt w w' := by
  have CC := Lib.hid (checks_run v fs w hr)
  have a0 : w.cell? ⟨B, 0, none⟩ = some v := hb.cell 0
  obtain ⟨a, cap, rfl, -⟩ := hr
  clear hb
  go_enter Tryz.func146, Tryz.ntmps146
  go_wp2_with (go_at_call 56; (with_reducible refine CC.out.mono ?_); rintro x w1 ⟨rfl, k1⟩)
  go_ret
  exact ⟨rfl, k1⟩
theorem clo4 (v : Value) (ps : List Int) (B : Nat) (w : World) (hb : Blk w B #[v] 22) (hr : Reads w v ps) :
    Calls Tryz.prog 147 #[.pointer (some ⟨B, 0, none⟩)] w fun e w' => e = .returned (.int .i64 (prsE ps)) ∧ Kpt w w' := by
  have CC := Lib.hid (prices_run v ps w hr)
  have a0 : w.cell? ⟨B, 0, none⟩ = some v := hb.cell 0
  obtain ⟨a, cap, rfl, -⟩ := hr
  clear hb
  go_enter Tryz.func147, Tryz.ntmps147
  go_wp2_with (go_at_call 148; (with_reducible refine CC.out.mono ?_); rintro x w1 ⟨rfl, k1⟩)
  go_ret
  exact ⟨rfl, k1 ▸ Kpt.refl _⟩
theorem clo5 (W q : Int) (v : Value) (hs : List Int) (B D : Nat) (w : World) (hb : Blk w B #[.int .i64 W, v] 24) (hd : Blk w D #[.int .i64 q] 3) (hr : Reads w v hs) (hf : Fits hs) :
    Calls Tryz.prog 149 #[.pointer (some ⟨B, 0, none⟩), .pointer (some ⟨D, 0, none⟩)] w fun e w' => e = .returned (.int .i64 (tdyE W hs q)) ∧ Kpt w w' := by
  have CC := Lib.hid (fun w' (k : Kpt w w') => today_run W q v hs w' (hr.kpt k) hf)
  have a0 : w.cell? ⟨B, 0, none⟩ = some (.int .i64 W) := hb.cell 0
  have a1 : w.cell? ⟨B, 1, none⟩ = some v := hb.cell 1
  have a2 : w.cell? ⟨D, 0, none⟩ = some (.int .i64 q) := hd.cell 0
  obtain ⟨a, cap, rfl, -⟩ := hr
  unfold calV at *
  clear hb hd
  go_enter Tryz.func149, Tryz.ntmps149
  go_wp2_with (go_at_call 150; (with_reducible refine (CC.out _ (Kpt.refl _)).mono ?_); rintro x w1 ⟨rfl, k1⟩)
  go_ret
  exact ⟨rfl, k1⟩

/-- the first error of those from the k-th on -/
def tl5 (E1 E2 E3 E4 E5 : Int) : Nat → Int
  | 0 => orE E1 (orE E2 (orE E3 (orE E4 E5)))
  | 1 => orE E2 (orE E3 (orE E4 E5))
  | 2 => orE E3 (orE E4 E5)
  | 3 => orE E4 E5
  | 4 => E5
  | _ => 0
set_option maxHeartbeats 4000000 in
theorem first_run (g cap B1 B2 B3 B4 B5 : Nat) (E1 E2 E3 E4 E5 : Int) (w : World)
    (c0 : w.cell? ⟨g, 0, none⟩ = some (.func (.func 143) #[] #[.pointer (some ⟨B1, 0, none⟩)]))
    (c1 : w.cell? ⟨g, 1, none⟩ = some (.func (.func 144) #[] #[.pointer (some ⟨B2, 0, none⟩)]))
    (c2 : w.cell? ⟨g, 2, none⟩ = some (.func (.func 146) #[] #[.pointer (some ⟨B3, 0, none⟩)]))
    (c3 : w.cell? ⟨g, 3, none⟩ = some (.func (.func 147) #[] #[.pointer (some ⟨B4, 0, none⟩)]))
    (c4 : w.cell? ⟨g, 4, none⟩ = some (.func (.func 149) #[] #[.pointer (some ⟨B1, 0, none⟩), .pointer (some ⟨B5, 0, none⟩)]))
    (H0 : ∀ w', Kpt w w' → Calls Tryz.prog 143 #[.pointer (some ⟨B1, 0, none⟩)] w' fun e w'' => e = .returned (.int .i64 E1) ∧ Kpt w' w'')
    (H1 : ∀ w', Kpt w w' → Calls Tryz.prog 144 #[.pointer (some ⟨B2, 0, none⟩)] w' fun e w'' => e = .returned (.int .i64 E2) ∧ Kpt w' w'')
    (H2 : ∀ w', Kpt w w' → Calls Tryz.prog 146 #[.pointer (some ⟨B3, 0, none⟩)] w' fun e w'' => e = .returned (.int .i64 E3) ∧ Kpt w' w'')
    (H3 : ∀ w', Kpt w w' → Calls Tryz.prog 147 #[.pointer (some ⟨B4, 0, none⟩)] w' fun e w'' => e = .returned (.int .i64 E4) ∧ Kpt w' w'')
    (H4 : ∀ w', Kpt w w' → Calls Tryz.prog 149 #[.pointer (some ⟨B1, 0, none⟩), .pointer (some ⟨B5, 0, none⟩)] w' fun e w'' => e = .returned (.int .i64 E5) ∧ Kpt w' w'')
    : Calls Tryz.prog 142 #[.slice (some ⟨g, 0, none⟩) 5 cap] w fun e w' => e = .returned (.int .i64 (orE E1 (orE E2 (orE E3 (orE E4 E5))))) ∧ Kpt w w' := by
  have C0 := Lib.hid c0
  have F0 := Lib.hid H0
  clear c0 H0
  have C1 := Lib.hid c1
  have F1 := Lib.hid H1
  clear c1 H1
  have C2 := Lib.hid c2
  have F2 := Lib.hid H2
  clear c2 H2
  have C3 := Lib.hid c3
  have F3 := Lib.hid H3
  clear c3 H3
  have C4 := Lib.hid c4
  have F4 := Lib.hid H4
  clear c4 H4
  have HX : Hid (orE E1 (orE E2 (orE E3 (orE E4 E5))) = tl5 E1 E2 E3 E4 E5 0) := rfl
  generalize orE E1 (orE E2 (orE E3 (orE E4 E5))) = X at HX ⊢
  go_enter Tryz.func142, Tryz.ntmps142
  go_wp2
  go_loopw [8] (fun ii wr => ∃ z : Int, ii = .int .i64 z ∧ ((z = 0 ∧ Hid (X = tl5 E1 E2 E3 E4 E5 0)) ∨ (z = 1 ∧ Hid (X = tl5 E1 E2 E3 E4 E5 1)) ∨ (z = 2 ∧ Hid (X = tl5 E1 E2 E3 E4 E5 2)) ∨ (z = 3 ∧ Hid (X = tl5 E1 E2 E3 E4 E5 3)) ∨ (z = 4 ∧ Hid (X = tl5 E1 E2 E3 E4 E5 4)) ∨ (z = 5 ∧ Hid (X = tl5 E1 E2 E3 E4 E5 5))) ∧ Hid (Kpt w wr)) (fun ii _ => 5 - (intOf ii).toNat)
  case atStart => exact ⟨0, rfl, .inl ⟨rfl, HX⟩, Kpt.refl _⟩
  case round =>
    obtain ⟨z, rfl, HD, HK⟩ := hrel
    rcases HD with ⟨rfl, HE⟩ | ⟨rfl, HE⟩ | ⟨rfl, HE⟩ | ⟨rfl, HE⟩ | ⟨rfl, HE⟩ | ⟨rfl, HE⟩
    · have cc : wr.cell? ⟨g, 0, none⟩ = _ := HK.out.cell C0.out
      have FC := Lib.hid (fun w' (k : Kpt wr w') => F0.out w' (ktr HK.out k))
      by_cases hE : E1 = 0
      · have HE2 : Hid (X = tl5 E1 E2 E3 E4 E5 1) := HE.out.trans (orE_r hE)
        rw [hE] at FC
        clear hE HE
        go_wp2_with (go_at_call 143; (with_reducible refine (FC.out _ (Kpt.refl _)).mono ?_); rintro x w2 ⟨rfl, k2⟩; have K2 : Hid (Kpt w w2) := ktr HK.out k2; clear k2)
        go_roundw
        case rel => exact ⟨1, by go_num, .inr (.inl ⟨rfl, HE2⟩), K2.out⟩
        case measure => simp [intOf]
      · have HE2 : Hid (X = E1) := HE.out.trans (orE_l _ hE)
        have z0 : (E1 != 0) = true := bne_iff_ne.2 hE
        clear hE HE
        go_wp2_with (go_at_call 143; (with_reducible refine (FC.out _ (Kpt.refl _)).mono ?_); rintro x w2 ⟨rfl, k2⟩; have K2 : Hid (Kpt w w2) := ktr HK.out k2; clear k2)
        go_ret
        exact ⟨ret_int HE2.out.symm, K2.out⟩
    · have cc : wr.cell? ⟨g, 1, none⟩ = _ := HK.out.cell C1.out
      have FC := Lib.hid (fun w' (k : Kpt wr w') => F1.out w' (ktr HK.out k))
      by_cases hE : E2 = 0
      · have HE2 : Hid (X = tl5 E1 E2 E3 E4 E5 2) := HE.out.trans (orE_r hE)
        rw [hE] at FC
        clear hE HE
        go_wp2_with (go_at_call 144; (with_reducible refine (FC.out _ (Kpt.refl _)).mono ?_); rintro x w2 ⟨rfl, k2⟩; have K2 : Hid (Kpt w w2) := ktr HK.out k2; clear k2)
        go_roundw
        case rel => exact ⟨2, by go_num, .inr (.inr (.inl ⟨rfl, HE2⟩)), K2.out⟩
        case measure => simp [intOf]
      · have HE2 : Hid (X = E2) := HE.out.trans (orE_l _ hE)
        have z0 : (E2 != 0) = true := bne_iff_ne.2 hE
        clear hE HE
        go_wp2_with (go_at_call 144; (with_reducible refine (FC.out _ (Kpt.refl _)).mono ?_); rintro x w2 ⟨rfl, k2⟩; have K2 : Hid (Kpt w w2) := ktr HK.out k2; clear k2)
        go_ret
        exact ⟨ret_int HE2.out.symm, K2.out⟩
    · have cc : wr.cell? ⟨g, 2, none⟩ = _ := HK.out.cell C2.out
      have FC := Lib.hid (fun w' (k : Kpt wr w') => F2.out w' (ktr HK.out k))
      by_cases hE : E3 = 0
      · have HE2 : Hid (X = tl5 E1 E2 E3 E4 E5 3) := HE.out.trans (orE_r hE)
        rw [hE] at FC
        clear hE HE
        go_wp2_with (go_at_call 146; (with_reducible refine (FC.out _ (Kpt.refl _)).mono ?_); rintro x w2 ⟨rfl, k2⟩; have K2 : Hid (Kpt w w2) := ktr HK.out k2; clear k2)
        go_roundw
        case rel => exact ⟨3, by go_num, .inr (.inr (.inr (.inl ⟨rfl, HE2⟩))), K2.out⟩
        case measure => simp [intOf]
      · have HE2 : Hid (X = E3) := HE.out.trans (orE_l _ hE)
        have z0 : (E3 != 0) = true := bne_iff_ne.2 hE
        clear hE HE
        go_wp2_with (go_at_call 146; (with_reducible refine (FC.out _ (Kpt.refl _)).mono ?_); rintro x w2 ⟨rfl, k2⟩; have K2 : Hid (Kpt w w2) := ktr HK.out k2; clear k2)
        go_ret
        exact ⟨ret_int HE2.out.symm, K2.out⟩
    · have cc : wr.cell? ⟨g, 3, none⟩ = _ := HK.out.cell C3.out
      have FC := Lib.hid (fun w' (k : Kpt wr w') => F3.out w' (ktr HK.out k))
      by_cases hE : E4 = 0
      · have HE2 : Hid (X = tl5 E1 E2 E3 E4 E5 4) := HE.out.trans (orE_r hE)
        rw [hE] at FC
        clear hE HE
        go_wp2_with (go_at_call 147; (with_reducible refine (FC.out _ (Kpt.refl _)).mono ?_); rintro x w2 ⟨rfl, k2⟩; have K2 : Hid (Kpt w w2) := ktr HK.out k2; clear k2)
        go_roundw
        case rel => exact ⟨4, by go_num, .inr (.inr (.inr (.inr (.inl ⟨rfl, HE2⟩)))), K2.out⟩
        case measure => simp [intOf]
      · have HE2 : Hid (X = E4) := HE.out.trans (orE_l _ hE)
        have z0 : (E4 != 0) = true := bne_iff_ne.2 hE
        clear hE HE
        go_wp2_with (go_at_call 147; (with_reducible refine (FC.out _ (Kpt.refl _)).mono ?_); rintro x w2 ⟨rfl, k2⟩; have K2 : Hid (Kpt w w2) := ktr HK.out k2; clear k2)
        go_ret
        exact ⟨ret_int HE2.out.symm, K2.out⟩
    · have cc : wr.cell? ⟨g, 4, none⟩ = _ := HK.out.cell C4.out
      have FC := Lib.hid (fun w' (k : Kpt wr w') => F4.out w' (ktr HK.out k))
      by_cases hE : E5 = 0
      · have HE2 : Hid (X = tl5 E1 E2 E3 E4 E5 5) := HE.out.trans hE
        rw [hE] at FC
        clear hE HE
        go_wp2_with (go_at_call 149; (with_reducible refine (FC.out _ (Kpt.refl _)).mono ?_); rintro x w2 ⟨rfl, k2⟩; have K2 : Hid (Kpt w w2) := ktr HK.out k2; clear k2)
        go_roundw
        case rel => exact ⟨5, by go_num, .inr (.inr (.inr (.inr (.inr (⟨rfl, HE2⟩))))), K2.out⟩
        case measure => simp [intOf]
      · have HE2 : Hid (X = E5) := HE.out
        have z0 : (E5 != 0) = true := bne_iff_ne.2 hE
        clear hE HE
        go_wp2_with (go_at_call 149; (with_reducible refine (FC.out _ (Kpt.refl _)).mono ?_); rintro x w2 ⟨rfl, k2⟩; have K2 : Hid (Kpt w w2) := ktr HK.out k2; clear k2)
        go_ret
        exact ⟨ret_int HE2.out.symm, K2.out⟩
    · go_wp2
      go_ret
      exact ⟨ret_int HE.out.symm, HK.out⟩

end Go.Proofs.YthaahebggboliaaGreat

-- DueApp
namespace Go.Proofs.YthaahebggboliaaGreat
open Go.RowKit
set_option linter.unusedVariables false

theorem Tryz.infoDue : (Tryz.prog.info? 130).map (fun i => (i.zero, i.size, i.bytes)) = some (some (.agg #[.int .i64 0, .int .i64 0, .int .i64 0]), 3, 24) := by kernel_rfl
theorem OwnsT.block_lt {T : TypeId} {w : World} {base : Nat} {v : Value} {ps : List (Int × Int × Int)} (h : OwnsT T w base v ps) : ∀ k, v.ownBlock = some k → k < w.heap.size := by
  intro k hk
  rcases h.2 with ⟨rfl, _⟩ | ⟨g, cap, cur, rfl, hg, hh, _⟩
  · simp [Value.ownBlock] at hk
  · simp [Value.ownBlock] at hk; subst hk; exact heap_lt hh
theorem OwnsT.other {T : TypeId} {w w' : World} {base : Nat} {u : Value} {ps : List (Int × Int × Int)} {row : Option Nat} (h : OwnsT T w base u ps) (g : w.grownBy w' row) (hr : u.ownBlock = none ∨ u.ownBlock ≠ row) : OwnsT T w' base u ps := by
  obtain ⟨h1, h2⟩ := h
  refine ⟨h1, ?_⟩
  rcases h2 with h2 | ⟨k, cap, cur, rfl, hk, hh, r⟩
  · exact .inl h2
  · refine .inr ⟨k, cap, cur, rfl, hk, (g.block k (heap_lt hh) ?_).trans hh, r⟩
    rcases hr with hr | hr
    · simp [Value.ownBlock] at hr
    · simpa [Value.ownBlock] using hr
theorem wp_appendD {ops : Array Oper} {rest : List Oper} {o : Oper} {a : Act} {Q : Exit → Act → World → Prop} (hgd : o.guard = none) (s x : Operand)
    (ho : o.op = .call { callee := .builtin .append, args := #[s, x], argTypes := #[78, 78] })
    (base : Nat) (v : Value) (ps : List (Int × Int × Int)) (f t n : Int) (w : World) (hs : a.eval s = v) (hown : OwnsT 130 w base v ps) (hx : a.eval x = .slice (some ⟨w.heap.size, 0, none⟩) 1 1)
    (hlen : ps.length + 1 ≤ 100000) (hbase : base ≤ w.heap.size) (u : Value) (us : List (Int × Int × Int)) (hu : OwnsT 130 w base u us) (huv : Apart u v)
    (h : ∀ v' w', OwnsT 130 w' base v' (ps ++ [(f, t, n)]) → Below base w w' → OwnsT 130 w' base u us → Apart u v' → Apart v' u → wpList Tryz.prog ops Q rest (a.put o.dst v') w') : wpList Tryz.prog ops Q (o :: rest) a (w.alloc (.cells #[.int .i64 f, .int .i64 t, .int .i64 n] 130)) := by
  obtain ⟨i0, hi, hz0, hz1, hz2⟩ := info_parts Tryz.infoDue
  refine wpList_append_lies _ hgd s x 78 ho base 130 i0 (.agg #[.int .i64 0, .int .i64 0, .int .i64 0]) 3 24 Tryz.underlying78 hi hz0 hz1 hz2 rfl (by decide) v _ _ hs (hown.alloc _) ⟨w.heap.size, 0, none⟩ 1 1 [.int .i64 f, .int .i64 t, .int .i64 n] hx rfl (World.news_of_block (heap_alloc_new w _)) ?_ (by decide) ?_ ?_ ?_ (w.heap.size + 1) (by simp) ?_
  · intro u hu
    simp at hu
    rcases hu with rfl | rfl | rfl <;> rfl
  · unfold maxLen; omega
  · omega
  · rw [World.size_alloc]; omega
  · intro g cap w' h1 h2 h3 h4
    have hlt := hu.block_lt
    have ap : u.ownBlock = none ∨ u.ownBlock ≠ some g := by
      rcases huv with e | e
      · exact .inl e
      · rcases h3 with e' | e'
        · rw [e'] at e; exact .inr e
        · refine .inr fun e'' => ?_
          have := hlt g e''
          omega
    refine h _ w' ?_ ?_ ((hu.alloc _).other h2 huv) ap ?_
    · unfold OwnsT
      rw [List.length_append, flatP_append]
      exact h1
    · exact ((Below.refl base w).alloc hbase _).grown h2 (by rw [World.size_alloc]; omega) hown.ge
    · refine .inr fun e => ?_
      rcases ap with e' | e'
      · rw [e'] at e; simp [Value.ownBlock] at e
      · exact e' e.symm

end Go.Proofs.YthaahebggboliaaGreat

-- QuietK
namespace Go.Proofs.YthaahebggboliaaGreat
open Go.RowKit
set_option linter.unusedVariables false

structure KptTo (q : World) where
  w : World
  h : Kpt q w
instance (q : World) : Inhabited (KptTo q) := ⟨⟨q, Kpt.refl q⟩⟩
theorem quiet_k {P : Program} {id : Nat} {Q : Exit → Act → World → Prop} {a : Act} {q : World} {l : List Oper} (hm : P.follows .mixedOrders = true) (hB : Region.lexB .any l.toArray = true)
    (h : wpQuiet P l.toArray (fun w' => ∃ p : KptTo q, w' = p.w) (fun a' => ∀ w', (∃ p : KptTo q, w' = p.w) → Q .normal a' w') l a) : (Code.region id l.toArray true).wp P Q a q :=
  wp_region_quiet (C := fun w' => ∃ p : KptTo q, w' = p.w) hm hB ⟨⟨_, (Kpt.refl q).drewN 1⟩, rfl⟩ (by simpa using h)
theorem cell_k {q : World} {a : Addr} {v : Value} (h : q.cell? a = some v) (p : KptTo q) : p.w.cell? a = some v := p.h.cell h
theorem calls_k {P : Program} {f : FuncId} {args : Array Value} {q : World} {p : KptTo q} {v : Value} (h : Calls P f args p.w fun e w' => e = .returned v ∧ Kpt p.w w') : Calls P f args p.w fun e w'' => e = .returned v ∧ ∃ p' : KptTo q, w'' = p'.w :=
  h.mono fun _ w' ⟨he, hk⟩ => ⟨he, ⟨w', ktr p.h hk⟩, rfl⟩
theorem calls_same {P : Program} {f : FuncId} {args : Array Value} {q : World} {p : KptTo q} {v : Value} (h : Calls P f args p.w fun e w' => e = .returned v ∧ p.w = w') : Calls P f args p.w fun e w'' => e = .returned v ∧ ∃ p' : KptTo q, w'' = p'.w :=
  h.mono fun _ w' ⟨he, hk⟩ => ⟨he, p, hk.symm⟩

end Go.Proofs.YthaahebggboliaaGreat

-- PenG
namespace Go.Proofs.YthaahebggboliaaGreat
open Go.RowKit
set_option linter.unusedVariables false

theorem idsE_fl {ids : List Int} {fs : List (List Int)} (h : idsE ids fs = 0) : ∀ l ∈ fs, failEL l = 0 := by
  induction fs generalizing ids with
  | nil => intro l hl; cases hl
  | cons l fs ih =>
    unfold idsE at h
    by_cases h1 : failEL l = 0
    · rw [if_neg (by simpa using h1)] at h
      split at h
      · cases h
      · intro k hk
        rcases List.mem_cons.1 hk with rfl | hk
        · exact h1
        · exact ih h k hk
    · rw [if_pos h1] at h; exact absurd h h1
theorem checksE_0 {fs : List (List Int)} (h : checksE fs = 0) : fs.length ≤ 60 ∧ ∀ l ∈ fs, failEL l = 0 := by
  unfold checksE at h
  split at h
  · cases h
  · exact ⟨by omega, idsE_fl h⟩
theorem fl_cls {l : List Int} (h : failEL l = 0) : (0 ≤ l.getD 3 0 ∧ l.getD 3 0 ≤ 5) ∧ 1 ≤ l.getD 4 0 ∧ l.getD 4 0 ≤ 20 := by
  unfold failEL at h
  have := fail_bd h
  omega
theorem clsE_0 {ts : List (List Int)} (h : clsE ts = 0) : ts.length = 6 := by
  unfold clsE at h; split at h
  · assumption
  · cases h
theorem prsE_0 {ps : List Int} (h : prsE ps = 0) : ps.length = 20 ∧ ∀ p ∈ ps, prcB p = true := by
  unfold prsE at h; split at h
  · exact ⟨by assumption, prs_0 h⟩
  · cases h
theorem day_B {W : Int} {hs : List Int} {ts fs : List (List Int)} {ps : List Int} {q : Int} (h : preE W hs ts fs ps q = 0) : dayE W hs ts fs ps q = pdE W hs ts q fs ∧ dayD W hs ts fs ps q = if pdE W hs ts q fs = 0 then dueL W hs ts ps q fs else [] := by
  have e : dayE W hs ts fs ps q = pdE W hs ts q fs := orE_r h
  refine ⟨e, ?_⟩
  unfold dayD; rw [e]
theorem day_A {W : Int} {hs : List Int} {ts fs : List (List Int)} {ps : List Int} {q : Int} (h : preE W hs ts fs ps q ≠ 0) : dayE W hs ts fs ps q = preE W hs ts fs ps q ∧ dayD W hs ts fs ps q = [] := by
  have e : dayE W hs ts fs ps q = preE W hs ts fs ps q := orE_l _ h
  refine ⟨e, ?_⟩
  unfold dayD; rw [e, if_neg h]
theorem pd_0 {W : Int} {hs : List Int} {ts : List (List Int)} {q : Int} {l : List Int} {fs : List (List Int)} (h : lkL W hs (tlOf ts l) l q = 0) : pdE W hs ts q (l :: fs) = pdE W hs ts q fs := orE_r h
theorem pd_1 {W : Int} {hs : List Int} {ts : List (List Int)} {q : Int} {l : List Int} {fs : List (List Int)} (h : lkL W hs (tlOf ts l) l q ≠ 0) : pdE W hs ts q (l :: fs) = lkL W hs (tlOf ts l) l q := orE_l _ h
theorem csV_0 {W : Int} {hs tl l : List Int} {p q : Int} (h : lkL W hs tl l q = 0) : csV W hs tl l p q = csL W hs tl l p q := if_pos h
theorem dueL_p {W : Int} {hs : List Int} {ts : List (List Int)} {ps : List Int} {q : Int} {l : List Int} {fs : List (List Int)} (h : lkL W hs (tlOf ts l) l q = 0) (h0 : 0 < csV W hs (tlOf ts l) l (prOf ps l) q) : dueL W hs ts ps q (l :: fs) = [(l.getD 1 0, l.getD 2 0, csV W hs (tlOf ts l) l (prOf ps l) q)] ++ dueL W hs ts ps q fs := by
  rw [csV_0 h] at h0 ⊢
  rw [dueL, if_pos h0]; rfl
theorem dueL_n {W : Int} {hs : List Int} {ts : List (List Int)} {ps : List Int} {q : Int} {l : List Int} {fs : List (List Int)} (h : lkL W hs (tlOf ts l) l q = 0) (h0 : ¬ 0 < csV W hs (tlOf ts l) l (prOf ps l) q) : dueL W hs ts ps q (l :: fs) = dueL W hs ts ps q fs := by
  rw [csV_0 h] at h0
  rw [dueL, if_neg h0]
/-- costOf, its terms and its fail told as lists -/
theorem cost_L (W z q : Int) (tl l : List Int) (v : Value) (hs : List Int) (w : World) (hr : Reads w v hs) (hf : Fits hs) (hp : prcB z = true) :
    Calls Tryz.prog 151 #[calV W v, .agg #[.int .i64 (tl.getD 0 0), .int .i64 (tl.getD 1 0), .int .i64 (tl.getD 2 0), .int .i64 (tl.getD 3 0)], .agg #[.int .i64 (l.getD 0 0), .int .i64 (l.getD 1 0), .int .i64 (l.getD 2 0), .int .i64 (l.getD 3 0), .int .i64 (l.getD 4 0), .int .i64 (l.getD 5 0), .int .i64 (l.getD 6 0), .int .i64 (l.getD 7 0), .int .i64 (l.getD 8 0), .int .i64 (l.getD 9 0)], .int .i64 z, .int .i64 q] w fun e w' => e = .returned (.tuple #[.int .i64 (csV W hs tl l z q), .int .i64 (lkL W hs tl l q)]) ∧ Kpt w w' :=
  cost_all W _ _ _ _ _ _ _ _ _ _ _ _ _ _ z q v hs w hr hf hp

def DayRes (w : World) (E : Int) (ds : List (Int × Int × Int)) (e : Ending) (w' : World) : Prop := ∃ dv, e = .returned (.tuple #[dv, .int .i64 E]) ∧ OwnsT 130 w' w.heap.size dv ds ∧ Kpt w w'
def ifD (X : Int) (D : List (Int × Int × Int)) : List (Int × Int × Int) := if X = 0 then D else []
theorem dayRes_nil {w w' : World} {E X : Int} {ds : List (Int × Int × Int)} (h : E = X) (hd : ds = []) (k : Kpt w w') : DayRes w X ds (.returned (.tuple #[.slice none 0 0, .int .i64 E])) w' := by
  subst h; subst hd
  exact ⟨_, rfl, OwnsT.nil _ _ _, k⟩
theorem dayRes_ok {w w' : World} {M : Nat} {X : Int} {dv : Value} {ds es : List (Int × Int × Int)} (h : X = 0) (hd : es = ds) (ho : OwnsT 130 w' M dv ds) (hM : w.heap.size ≤ M) (k : Kpt w w') : DayRes w X es (.returned (.tuple #[dv, .int .i64 0])) w' := by
  subst h; subst hd
  exact ⟨_, rfl, ho.base hM, k⟩

theorem apart_nil (v : Value) : Apart (.slice none 0 0) v := .inl rfl

set_option maxRecDepth 100000 in
set_option maxHeartbeats 8000000 in
theorem day_no (W q : Int) (v tv lv pv : Value) (hs : List Int) (ts fs : List (List Int)) (ps : List Int) (w : World) (hr : Reads w v hs) (hf : Fits hs) (ht : ReadsT w tv ts) (hl : ReadsF w lv fs) (hp : Reads w pv ps) (hE : preE W hs ts fs ps q ≠ 0) :
    Calls Tryz.prog 122 #[calV W v, tv, lv, pv, .int .i64 q] w (DayRes w (preE W hs ts fs ps q) []) := by
  have hmf : ∀ fn first cap w, (Instr.makeFunc fn first cap).run Tryz.prog w = .ok (.func fn first cap) w := fun _ _ _ _ => rfl
  obtain ⟨a, cap, rfl, ha⟩ := id hr
  obtain ⟨at1, ct, rfl, hmt, hct⟩ := id ht
  obtain ⟨al, cl, rfl, hml, hbl, hcl⟩ := id hl
  obtain ⟨ap, cp, rfl, hmp⟩ := id hp
  have K6 : Hid (Kpt w ((((((w.alloc (.cells #[.int .i64 W, .slice a hs.length cap] 24)).alloc (.cells #[.slice at1 ts.length ct] 25)).alloc (.cells #[.slice al fs.length cl] 28)).alloc (.cells #[.slice ap ps.length cp] 22)).alloc (.cells #[.int .i64 q] 3)).alloc (.cells #[.func (.func 143) #[] #[.pointer (some ⟨w.heap.size, 0, none⟩)], .func (.func 144) #[] #[.pointer (some ⟨w.heap.size + 1, 0, none⟩)], .func (.func 146) #[] #[.pointer (some ⟨w.heap.size + 2, 0, none⟩)], .func (.func 147) #[] #[.pointer (some ⟨w.heap.size + 3, 0, none⟩)], .func (.func 149) #[] #[.pointer (some ⟨w.heap.size, 0, none⟩), .pointer (some ⟨w.heap.size + 4, 0, none⟩)]] 176))) := ((((((Kpt.refl w).alloc _).alloc _).alloc _).alloc _).alloc _).alloc _
  have BC : Hid (Blk ((((((w.alloc (.cells #[.int .i64 W, .slice a hs.length cap] 24)).alloc (.cells #[.slice at1 ts.length ct] 25)).alloc (.cells #[.slice al fs.length cl] 28)).alloc (.cells #[.slice ap ps.length cp] 22)).alloc (.cells #[.int .i64 q] 3)).alloc (.cells #[.func (.func 143) #[] #[.pointer (some ⟨w.heap.size, 0, none⟩)], .func (.func 144) #[] #[.pointer (some ⟨w.heap.size + 1, 0, none⟩)], .func (.func 146) #[] #[.pointer (some ⟨w.heap.size + 2, 0, none⟩)], .func (.func 147) #[] #[.pointer (some ⟨w.heap.size + 3, 0, none⟩)], .func (.func 149) #[] #[.pointer (some ⟨w.heap.size, 0, none⟩), .pointer (some ⟨w.heap.size + 4, 0, none⟩)]] 176)) (w.heap.size) #[.int .i64 W, .slice a hs.length cap] 24) := by
    have := ((((((Blk.made w #[.int .i64 W, .slice a hs.length cap] 24).alloc (.cells #[.slice at1 ts.length ct] 25)).alloc (.cells #[.slice al fs.length cl] 28)).alloc (.cells #[.slice ap ps.length cp] 22)).alloc (.cells #[.int .i64 q] 3)).alloc (.cells #[.func (.func 143) #[] #[.pointer (some ⟨w.heap.size, 0, none⟩)], .func (.func 144) #[] #[.pointer (some ⟨w.heap.size + 1, 0, none⟩)], .func (.func 146) #[] #[.pointer (some ⟨w.heap.size + 2, 0, none⟩)], .func (.func 147) #[] #[.pointer (some ⟨w.heap.size + 3, 0, none⟩)], .func (.func 149) #[] #[.pointer (some ⟨w.heap.size, 0, none⟩), .pointer (some ⟨w.heap.size + 4, 0, none⟩)]] 176))
    unfold Hid; simpa using this
  have BT : Hid (Blk ((((((w.alloc (.cells #[.int .i64 W, .slice a hs.length cap] 24)).alloc (.cells #[.slice at1 ts.length ct] 25)).alloc (.cells #[.slice al fs.length cl] 28)).alloc (.cells #[.slice ap ps.length cp] 22)).alloc (.cells #[.int .i64 q] 3)).alloc (.cells #[.func (.func 143) #[] #[.pointer (some ⟨w.heap.size, 0, none⟩)], .func (.func 144) #[] #[.pointer (some ⟨w.heap.size + 1, 0, none⟩)], .func (.func 146) #[] #[.pointer (some ⟨w.heap.size + 2, 0, none⟩)], .func (.func 147) #[] #[.pointer (some ⟨w.heap.size + 3, 0, none⟩)], .func (.func 149) #[] #[.pointer (some ⟨w.heap.size, 0, none⟩), .pointer (some ⟨w.heap.size + 4, 0, none⟩)]] 176)) (w.heap.size + 1) #[.slice at1 ts.length ct] 25) := by
    have := (((((Blk.made (w.alloc (.cells #[.int .i64 W, .slice a hs.length cap] 24)) #[.slice at1 ts.length ct] 25).alloc (.cells #[.slice al fs.length cl] 28)).alloc (.cells #[.slice ap ps.length cp] 22)).alloc (.cells #[.int .i64 q] 3)).alloc (.cells #[.func (.func 143) #[] #[.pointer (some ⟨w.heap.size, 0, none⟩)], .func (.func 144) #[] #[.pointer (some ⟨w.heap.size + 1, 0, none⟩)], .func (.func 146) #[] #[.pointer (some ⟨w.heap.size + 2, 0, none⟩)], .func (.func 147) #[] #[.pointer (some ⟨w.heap.size + 3, 0, none⟩)], .func (.func 149) #[] #[.pointer (some ⟨w.heap.size, 0, none⟩), .pointer (some ⟨w.heap.size + 4, 0, none⟩)]] 176))
    unfold Hid; simpa using this
  have BL : Hid (Blk ((((((w.alloc (.cells #[.int .i64 W, .slice a hs.length cap] 24)).alloc (.cells #[.slice at1 ts.length ct] 25)).alloc (.cells #[.slice al fs.length cl] 28)).alloc (.cells #[.slice ap ps.length cp] 22)).alloc (.cells #[.int .i64 q] 3)).alloc (.cells #[.func (.func 143) #[] #[.pointer (some ⟨w.heap.size, 0, none⟩)], .func (.func 144) #[] #[.pointer (some ⟨w.heap.size + 1, 0, none⟩)], .func (.func 146) #[] #[.pointer (some ⟨w.heap.size + 2, 0, none⟩)], .func (.func 147) #[] #[.pointer (some ⟨w.heap.size + 3, 0, none⟩)], .func (.func 149) #[] #[.pointer (some ⟨w.heap.size, 0, none⟩), .pointer (some ⟨w.heap.size + 4, 0, none⟩)]] 176)) (w.heap.size + 2) #[.slice al fs.length cl] 28) := by
    have := ((((Blk.made ((w.alloc (.cells #[.int .i64 W, .slice a hs.length cap] 24)).alloc (.cells #[.slice at1 ts.length ct] 25)) #[.slice al fs.length cl] 28).alloc (.cells #[.slice ap ps.length cp] 22)).alloc (.cells #[.int .i64 q] 3)).alloc (.cells #[.func (.func 143) #[] #[.pointer (some ⟨w.heap.size, 0, none⟩)], .func (.func 144) #[] #[.pointer (some ⟨w.heap.size + 1, 0, none⟩)], .func (.func 146) #[] #[.pointer (some ⟨w.heap.size + 2, 0, none⟩)], .func (.func 147) #[] #[.pointer (some ⟨w.heap.size + 3, 0, none⟩)], .func (.func 149) #[] #[.pointer (some ⟨w.heap.size, 0, none⟩), .pointer (some ⟨w.heap.size + 4, 0, none⟩)]] 176))
    unfold Hid; simpa using this
  have BP : Hid (Blk ((((((w.alloc (.cells #[.int .i64 W, .slice a hs.length cap] 24)).alloc (.cells #[.slice at1 ts.length ct] 25)).alloc (.cells #[.slice al fs.length cl] 28)).alloc (.cells #[.slice ap ps.length cp] 22)).alloc (.cells #[.int .i64 q] 3)).alloc (.cells #[.func (.func 143) #[] #[.pointer (some ⟨w.heap.size, 0, none⟩)], .func (.func 144) #[] #[.pointer (some ⟨w.heap.size + 1, 0, none⟩)], .func (.func 146) #[] #[.pointer (some ⟨w.heap.size + 2, 0, none⟩)], .func (.func 147) #[] #[.pointer (some ⟨w.heap.size + 3, 0, none⟩)], .func (.func 149) #[] #[.pointer (some ⟨w.heap.size, 0, none⟩), .pointer (some ⟨w.heap.size + 4, 0, none⟩)]] 176)) (w.heap.size + 3) #[.slice ap ps.length cp] 22) := by
    have := (((Blk.made (((w.alloc (.cells #[.int .i64 W, .slice a hs.length cap] 24)).alloc (.cells #[.slice at1 ts.length ct] 25)).alloc (.cells #[.slice al fs.length cl] 28)) #[.slice ap ps.length cp] 22).alloc (.cells #[.int .i64 q] 3)).alloc (.cells #[.func (.func 143) #[] #[.pointer (some ⟨w.heap.size, 0, none⟩)], .func (.func 144) #[] #[.pointer (some ⟨w.heap.size + 1, 0, none⟩)], .func (.func 146) #[] #[.pointer (some ⟨w.heap.size + 2, 0, none⟩)], .func (.func 147) #[] #[.pointer (some ⟨w.heap.size + 3, 0, none⟩)], .func (.func 149) #[] #[.pointer (some ⟨w.heap.size, 0, none⟩), .pointer (some ⟨w.heap.size + 4, 0, none⟩)]] 176))
    unfold Hid; simpa using this
  have BQ : Hid (Blk ((((((w.alloc (.cells #[.int .i64 W, .slice a hs.length cap] 24)).alloc (.cells #[.slice at1 ts.length ct] 25)).alloc (.cells #[.slice al fs.length cl] 28)).alloc (.cells #[.slice ap ps.length cp] 22)).alloc (.cells #[.int .i64 q] 3)).alloc (.cells #[.func (.func 143) #[] #[.pointer (some ⟨w.heap.size, 0, none⟩)], .func (.func 144) #[] #[.pointer (some ⟨w.heap.size + 1, 0, none⟩)], .func (.func 146) #[] #[.pointer (some ⟨w.heap.size + 2, 0, none⟩)], .func (.func 147) #[] #[.pointer (some ⟨w.heap.size + 3, 0, none⟩)], .func (.func 149) #[] #[.pointer (some ⟨w.heap.size, 0, none⟩), .pointer (some ⟨w.heap.size + 4, 0, none⟩)]] 176)) (w.heap.size + 4) #[.int .i64 q] 3) := by
    have := ((Blk.made ((((w.alloc (.cells #[.int .i64 W, .slice a hs.length cap] 24)).alloc (.cells #[.slice at1 ts.length ct] 25)).alloc (.cells #[.slice al fs.length cl] 28)).alloc (.cells #[.slice ap ps.length cp] 22)) #[.int .i64 q] 3).alloc (.cells #[.func (.func 143) #[] #[.pointer (some ⟨w.heap.size, 0, none⟩)], .func (.func 144) #[] #[.pointer (some ⟨w.heap.size + 1, 0, none⟩)], .func (.func 146) #[] #[.pointer (some ⟨w.heap.size + 2, 0, none⟩)], .func (.func 147) #[] #[.pointer (some ⟨w.heap.size + 3, 0, none⟩)], .func (.func 149) #[] #[.pointer (some ⟨w.heap.size, 0, none⟩), .pointer (some ⟨w.heap.size + 4, 0, none⟩)]] 176))
    unfold Hid; simpa using this
  have BN : Hid (Blk ((((((w.alloc (.cells #[.int .i64 W, .slice a hs.length cap] 24)).alloc (.cells #[.slice at1 ts.length ct] 25)).alloc (.cells #[.slice al fs.length cl] 28)).alloc (.cells #[.slice ap ps.length cp] 22)).alloc (.cells #[.int .i64 q] 3)).alloc (.cells #[.func (.func 143) #[] #[.pointer (some ⟨w.heap.size, 0, none⟩)], .func (.func 144) #[] #[.pointer (some ⟨w.heap.size + 1, 0, none⟩)], .func (.func 146) #[] #[.pointer (some ⟨w.heap.size + 2, 0, none⟩)], .func (.func 147) #[] #[.pointer (some ⟨w.heap.size + 3, 0, none⟩)], .func (.func 149) #[] #[.pointer (some ⟨w.heap.size, 0, none⟩), .pointer (some ⟨w.heap.size + 4, 0, none⟩)]] 176)) (w.heap.size + 5) #[.func (.func 143) #[] #[.pointer (some ⟨w.heap.size, 0, none⟩)], .func (.func 144) #[] #[.pointer (some ⟨w.heap.size + 1, 0, none⟩)], .func (.func 146) #[] #[.pointer (some ⟨w.heap.size + 2, 0, none⟩)], .func (.func 147) #[] #[.pointer (some ⟨w.heap.size + 3, 0, none⟩)], .func (.func 149) #[] #[.pointer (some ⟨w.heap.size, 0, none⟩), .pointer (some ⟨w.heap.size + 4, 0, none⟩)]] 176) := by
    have := (Blk.made (((((w.alloc (.cells #[.int .i64 W, .slice a hs.length cap] 24)).alloc (.cells #[.slice at1 ts.length ct] 25)).alloc (.cells #[.slice al fs.length cl] 28)).alloc (.cells #[.slice ap ps.length cp] 22)).alloc (.cells #[.int .i64 q] 3)) #[.func (.func 143) #[] #[.pointer (some ⟨w.heap.size, 0, none⟩)], .func (.func 144) #[] #[.pointer (some ⟨w.heap.size + 1, 0, none⟩)], .func (.func 146) #[] #[.pointer (some ⟨w.heap.size + 2, 0, none⟩)], .func (.func 147) #[] #[.pointer (some ⟨w.heap.size + 3, 0, none⟩)], .func (.func 149) #[] #[.pointer (some ⟨w.heap.size, 0, none⟩), .pointer (some ⟨w.heap.size + 4, 0, none⟩)]] 176)
    unfold Hid; simpa using this
  have FR := Lib.hid (first_run (w.heap.size + 5) 5 w.heap.size (w.heap.size + 1) (w.heap.size + 2) (w.heap.size + 3) (w.heap.size + 4) (calE W hs) (clsE ts) (checksE fs) (prsE ps) (tdyE W hs q) ((((((w.alloc (.cells #[.int .i64 W, .slice a hs.length cap] 24)).alloc (.cells #[.slice at1 ts.length ct] 25)).alloc (.cells #[.slice al fs.length cl] 28)).alloc (.cells #[.slice ap ps.length cp] 22)).alloc (.cells #[.int .i64 q] 3)).alloc (.cells #[.func (.func 143) #[] #[.pointer (some ⟨w.heap.size, 0, none⟩)], .func (.func 144) #[] #[.pointer (some ⟨w.heap.size + 1, 0, none⟩)], .func (.func 146) #[] #[.pointer (some ⟨w.heap.size + 2, 0, none⟩)], .func (.func 147) #[] #[.pointer (some ⟨w.heap.size + 3, 0, none⟩)], .func (.func 149) #[] #[.pointer (some ⟨w.heap.size, 0, none⟩), .pointer (some ⟨w.heap.size + 4, 0, none⟩)]] 176))
    (BN.out.cell 0) (BN.out.cell 1) (BN.out.cell 2) (BN.out.cell 3) (BN.out.cell 4)
    (fun w' k => clo1 W _ hs _ w' (BC.out.kpt k) (hr.kpt (ktr K6.out k)) hf)
    (fun w' k => clo2 _ ts _ w' (BT.out.kpt k) (ht.kpt (ktr K6.out k)))
    (fun w' k => clo3 _ fs _ w' (BL.out.kpt k) (hl.kpt (ktr K6.out k)))
    (fun w' k => clo4 _ ps _ w' (BP.out.kpt k) (hp.kpt (ktr K6.out k)))
    (fun w' k => clo5 W q _ hs _ _ w' (BC.out.kpt k) (BQ.out.kpt k) (hr.kpt (ktr K6.out k)) hf))
  unfold calV at *
  have HX : Hid (orE (calE W hs) (orE (clsE ts) (orE (checksE fs) (orE (prsE ps) (tdyE W hs q)))) = preE W hs ts fs ps q) := rfl
  rw [HX.out] at FR
  have z0 : (preE W hs ts fs ps q != 0) = true := bne_iff_ne.2 hE
  generalize preE W hs ts fs ps q = E at *
  clear ha hct hcl hmp hr ht hl hp hE HX BC BT BL BP BQ BN hbl
  go_enter Tryz.func122, Tryz.ntmps122
  go_wp2_with (go_at_call 142; (with_reducible refine FR.out.mono ?_); rintro e w1 ⟨rfl, k1⟩; have K1 := Lib.hid (ktr K6.out k1); clear k1)
  go_ret2
  exact dayRes_nil rfl rfl K1.out

set_option maxRecDepth 100000 in
set_option maxHeartbeats 8000000 in
theorem day_ok (W q : Int) (v tv lv pv : Value) (hs : List Int) (ts fs : List (List Int)) (ps : List Int) (w : World) (hr : Reads w v hs) (hf : Fits hs) (ht : ReadsT w tv ts) (hl : ReadsF w lv fs) (hp : Reads w pv ps) (hE : preE W hs ts fs ps q = 0) :
    Calls Tryz.prog 122 #[calV W v, tv, lv, pv, .int .i64 q] w (DayRes w (pdE W hs ts q fs) (ifD (pdE W hs ts q fs) (dueL W hs ts ps q fs))) := by
  have hmf : ∀ fn first cap w, (Instr.makeFunc fn first cap).run Tryz.prog w = .ok (.func fn first cap) w := fun _ _ _ _ => rfl
  obtain ⟨a, cap, rfl, ha⟩ := id hr
  obtain ⟨at1, ct, rfl, hmt, hct⟩ := id ht
  obtain ⟨al, cl, rfl, hml, hbl, hcl⟩ := id hl
  obtain ⟨ap, cp, rfl, hmp⟩ := id hp
  have K6 : Hid (Kpt w ((((((w.alloc (.cells #[.int .i64 W, .slice a hs.length cap] 24)).alloc (.cells #[.slice at1 ts.length ct] 25)).alloc (.cells #[.slice al fs.length cl] 28)).alloc (.cells #[.slice ap ps.length cp] 22)).alloc (.cells #[.int .i64 q] 3)).alloc (.cells #[.func (.func 143) #[] #[.pointer (some ⟨w.heap.size, 0, none⟩)], .func (.func 144) #[] #[.pointer (some ⟨w.heap.size + 1, 0, none⟩)], .func (.func 146) #[] #[.pointer (some ⟨w.heap.size + 2, 0, none⟩)], .func (.func 147) #[] #[.pointer (some ⟨w.heap.size + 3, 0, none⟩)], .func (.func 149) #[] #[.pointer (some ⟨w.heap.size, 0, none⟩), .pointer (some ⟨w.heap.size + 4, 0, none⟩)]] 176))) := ((((((Kpt.refl w).alloc _).alloc _).alloc _).alloc _).alloc _).alloc _
  have BC : Hid (Blk ((((((w.alloc (.cells #[.int .i64 W, .slice a hs.length cap] 24)).alloc (.cells #[.slice at1 ts.length ct] 25)).alloc (.cells #[.slice al fs.length cl] 28)).alloc (.cells #[.slice ap ps.length cp] 22)).alloc (.cells #[.int .i64 q] 3)).alloc (.cells #[.func (.func 143) #[] #[.pointer (some ⟨w.heap.size, 0, none⟩)], .func (.func 144) #[] #[.pointer (some ⟨w.heap.size + 1, 0, none⟩)], .func (.func 146) #[] #[.pointer (some ⟨w.heap.size + 2, 0, none⟩)], .func (.func 147) #[] #[.pointer (some ⟨w.heap.size + 3, 0, none⟩)], .func (.func 149) #[] #[.pointer (some ⟨w.heap.size, 0, none⟩), .pointer (some ⟨w.heap.size + 4, 0, none⟩)]] 176)) (w.heap.size) #[.int .i64 W, .slice a hs.length cap] 24) := by
    have := ((((((Blk.made w #[.int .i64 W, .slice a hs.length cap] 24).alloc (.cells #[.slice at1 ts.length ct] 25)).alloc (.cells #[.slice al fs.length cl] 28)).alloc (.cells #[.slice ap ps.length cp] 22)).alloc (.cells #[.int .i64 q] 3)).alloc (.cells #[.func (.func 143) #[] #[.pointer (some ⟨w.heap.size, 0, none⟩)], .func (.func 144) #[] #[.pointer (some ⟨w.heap.size + 1, 0, none⟩)], .func (.func 146) #[] #[.pointer (some ⟨w.heap.size + 2, 0, none⟩)], .func (.func 147) #[] #[.pointer (some ⟨w.heap.size + 3, 0, none⟩)], .func (.func 149) #[] #[.pointer (some ⟨w.heap.size, 0, none⟩), .pointer (some ⟨w.heap.size + 4, 0, none⟩)]] 176))
    unfold Hid; simpa using this
  have BT : Hid (Blk ((((((w.alloc (.cells #[.int .i64 W, .slice a hs.length cap] 24)).alloc (.cells #[.slice at1 ts.length ct] 25)).alloc (.cells #[.slice al fs.length cl] 28)).alloc (.cells #[.slice ap ps.length cp] 22)).alloc (.cells #[.int .i64 q] 3)).alloc (.cells #[.func (.func 143) #[] #[.pointer (some ⟨w.heap.size, 0, none⟩)], .func (.func 144) #[] #[.pointer (some ⟨w.heap.size + 1, 0, none⟩)], .func (.func 146) #[] #[.pointer (some ⟨w.heap.size + 2, 0, none⟩)], .func (.func 147) #[] #[.pointer (some ⟨w.heap.size + 3, 0, none⟩)], .func (.func 149) #[] #[.pointer (some ⟨w.heap.size, 0, none⟩), .pointer (some ⟨w.heap.size + 4, 0, none⟩)]] 176)) (w.heap.size + 1) #[.slice at1 ts.length ct] 25) := by
    have := (((((Blk.made (w.alloc (.cells #[.int .i64 W, .slice a hs.length cap] 24)) #[.slice at1 ts.length ct] 25).alloc (.cells #[.slice al fs.length cl] 28)).alloc (.cells #[.slice ap ps.length cp] 22)).alloc (.cells #[.int .i64 q] 3)).alloc (.cells #[.func (.func 143) #[] #[.pointer (some ⟨w.heap.size, 0, none⟩)], .func (.func 144) #[] #[.pointer (some ⟨w.heap.size + 1, 0, none⟩)], .func (.func 146) #[] #[.pointer (some ⟨w.heap.size + 2, 0, none⟩)], .func (.func 147) #[] #[.pointer (some ⟨w.heap.size + 3, 0, none⟩)], .func (.func 149) #[] #[.pointer (some ⟨w.heap.size, 0, none⟩), .pointer (some ⟨w.heap.size + 4, 0, none⟩)]] 176))
    unfold Hid; simpa using this
  have BL : Hid (Blk ((((((w.alloc (.cells #[.int .i64 W, .slice a hs.length cap] 24)).alloc (.cells #[.slice at1 ts.length ct] 25)).alloc (.cells #[.slice al fs.length cl] 28)).alloc (.cells #[.slice ap ps.length cp] 22)).alloc (.cells #[.int .i64 q] 3)).alloc (.cells #[.func (.func 143) #[] #[.pointer (some ⟨w.heap.size, 0, none⟩)], .func (.func 144) #[] #[.pointer (some ⟨w.heap.size + 1, 0, none⟩)], .func (.func 146) #[] #[.pointer (some ⟨w.heap.size + 2, 0, none⟩)], .func (.func 147) #[] #[.pointer (some ⟨w.heap.size + 3, 0, none⟩)], .func (.func 149) #[] #[.pointer (some ⟨w.heap.size, 0, none⟩), .pointer (some ⟨w.heap.size + 4, 0, none⟩)]] 176)) (w.heap.size + 2) #[.slice al fs.length cl] 28) := by
    have := ((((Blk.made ((w.alloc (.cells #[.int .i64 W, .slice a hs.length cap] 24)).alloc (.cells #[.slice at1 ts.length ct] 25)) #[.slice al fs.length cl] 28).alloc (.cells #[.slice ap ps.length cp] 22)).alloc (.cells #[.int .i64 q] 3)).alloc (.cells #[.func (.func 143) #[] #[.pointer (some ⟨w.heap.size, 0, none⟩)], .func (.func 144) #[] #[.pointer (some ⟨w.heap.size + 1, 0, none⟩)], .func (.func 146) #[] #[.pointer (some ⟨w.heap.size + 2, 0, none⟩)], .func (.func 147) #[] #[.pointer (some ⟨w.heap.size + 3, 0, none⟩)], .func (.func 149) #[] #[.pointer (some ⟨w.heap.size, 0, none⟩), .pointer (some ⟨w.heap.size + 4, 0, none⟩)]] 176))
    unfold Hid; simpa using this
  have BP : Hid (Blk ((((((w.alloc (.cells #[.int .i64 W, .slice a hs.length cap] 24)).alloc (.cells #[.slice at1 ts.length ct] 25)).alloc (.cells #[.slice al fs.length cl] 28)).alloc (.cells #[.slice ap ps.length cp] 22)).alloc (.cells #[.int .i64 q] 3)).alloc (.cells #[.func (.func 143) #[] #[.pointer (some ⟨w.heap.size, 0, none⟩)], .func (.func 144) #[] #[.pointer (some ⟨w.heap.size + 1, 0, none⟩)], .func (.func 146) #[] #[.pointer (some ⟨w.heap.size + 2, 0, none⟩)], .func (.func 147) #[] #[.pointer (some ⟨w.heap.size + 3, 0, none⟩)], .func (.func 149) #[] #[.pointer (some ⟨w.heap.size, 0, none⟩), .pointer (some ⟨w.heap.size + 4, 0, none⟩)]] 176)) (w.heap.size + 3) #[.slice ap ps.length cp] 22) := by
    have := (((Blk.made (((w.alloc (.cells #[.int .i64 W, .slice a hs.length cap] 24)).alloc (.cells #[.slice at1 ts.length ct] 25)).alloc (.cells #[.slice al fs.length cl] 28)) #[.slice ap ps.length cp] 22).alloc (.cells #[.int .i64 q] 3)).alloc (.cells #[.func (.func 143) #[] #[.pointer (some ⟨w.heap.size, 0, none⟩)], .func (.func 144) #[] #[.pointer (some ⟨w.heap.size + 1, 0, none⟩)], .func (.func 146) #[] #[.pointer (some ⟨w.heap.size + 2, 0, none⟩)], .func (.func 147) #[] #[.pointer (some ⟨w.heap.size + 3, 0, none⟩)], .func (.func 149) #[] #[.pointer (some ⟨w.heap.size, 0, none⟩), .pointer (some ⟨w.heap.size + 4, 0, none⟩)]] 176))
    unfold Hid; simpa using this
  have BQ : Hid (Blk ((((((w.alloc (.cells #[.int .i64 W, .slice a hs.length cap] 24)).alloc (.cells #[.slice at1 ts.length ct] 25)).alloc (.cells #[.slice al fs.length cl] 28)).alloc (.cells #[.slice ap ps.length cp] 22)).alloc (.cells #[.int .i64 q] 3)).alloc (.cells #[.func (.func 143) #[] #[.pointer (some ⟨w.heap.size, 0, none⟩)], .func (.func 144) #[] #[.pointer (some ⟨w.heap.size + 1, 0, none⟩)], .func (.func 146) #[] #[.pointer (some ⟨w.heap.size + 2, 0, none⟩)], .func (.func 147) #[] #[.pointer (some ⟨w.heap.size + 3, 0, none⟩)], .func (.func 149) #[] #[.pointer (some ⟨w.heap.size, 0, none⟩), .pointer (some ⟨w.heap.size + 4, 0, none⟩)]] 176)) (w.heap.size + 4) #[.int .i64 q] 3) := by
    have := ((Blk.made ((((w.alloc (.cells #[.int .i64 W, .slice a hs.length cap] 24)).alloc (.cells #[.slice at1 ts.length ct] 25)).alloc (.cells #[.slice al fs.length cl] 28)).alloc (.cells #[.slice ap ps.length cp] 22)) #[.int .i64 q] 3).alloc (.cells #[.func (.func 143) #[] #[.pointer (some ⟨w.heap.size, 0, none⟩)], .func (.func 144) #[] #[.pointer (some ⟨w.heap.size + 1, 0, none⟩)], .func (.func 146) #[] #[.pointer (some ⟨w.heap.size + 2, 0, none⟩)], .func (.func 147) #[] #[.pointer (some ⟨w.heap.size + 3, 0, none⟩)], .func (.func 149) #[] #[.pointer (some ⟨w.heap.size, 0, none⟩), .pointer (some ⟨w.heap.size + 4, 0, none⟩)]] 176))
    unfold Hid; simpa using this
  have BN : Hid (Blk ((((((w.alloc (.cells #[.int .i64 W, .slice a hs.length cap] 24)).alloc (.cells #[.slice at1 ts.length ct] 25)).alloc (.cells #[.slice al fs.length cl] 28)).alloc (.cells #[.slice ap ps.length cp] 22)).alloc (.cells #[.int .i64 q] 3)).alloc (.cells #[.func (.func 143) #[] #[.pointer (some ⟨w.heap.size, 0, none⟩)], .func (.func 144) #[] #[.pointer (some ⟨w.heap.size + 1, 0, none⟩)], .func (.func 146) #[] #[.pointer (some ⟨w.heap.size + 2, 0, none⟩)], .func (.func 147) #[] #[.pointer (some ⟨w.heap.size + 3, 0, none⟩)], .func (.func 149) #[] #[.pointer (some ⟨w.heap.size, 0, none⟩), .pointer (some ⟨w.heap.size + 4, 0, none⟩)]] 176)) (w.heap.size + 5) #[.func (.func 143) #[] #[.pointer (some ⟨w.heap.size, 0, none⟩)], .func (.func 144) #[] #[.pointer (some ⟨w.heap.size + 1, 0, none⟩)], .func (.func 146) #[] #[.pointer (some ⟨w.heap.size + 2, 0, none⟩)], .func (.func 147) #[] #[.pointer (some ⟨w.heap.size + 3, 0, none⟩)], .func (.func 149) #[] #[.pointer (some ⟨w.heap.size, 0, none⟩), .pointer (some ⟨w.heap.size + 4, 0, none⟩)]] 176) := by
    have := (Blk.made (((((w.alloc (.cells #[.int .i64 W, .slice a hs.length cap] 24)).alloc (.cells #[.slice at1 ts.length ct] 25)).alloc (.cells #[.slice al fs.length cl] 28)).alloc (.cells #[.slice ap ps.length cp] 22)).alloc (.cells #[.int .i64 q] 3)) #[.func (.func 143) #[] #[.pointer (some ⟨w.heap.size, 0, none⟩)], .func (.func 144) #[] #[.pointer (some ⟨w.heap.size + 1, 0, none⟩)], .func (.func 146) #[] #[.pointer (some ⟨w.heap.size + 2, 0, none⟩)], .func (.func 147) #[] #[.pointer (some ⟨w.heap.size + 3, 0, none⟩)], .func (.func 149) #[] #[.pointer (some ⟨w.heap.size, 0, none⟩), .pointer (some ⟨w.heap.size + 4, 0, none⟩)]] 176)
    unfold Hid; simpa using this
  have FR := Lib.hid (first_run (w.heap.size + 5) 5 w.heap.size (w.heap.size + 1) (w.heap.size + 2) (w.heap.size + 3) (w.heap.size + 4) (calE W hs) (clsE ts) (checksE fs) (prsE ps) (tdyE W hs q) ((((((w.alloc (.cells #[.int .i64 W, .slice a hs.length cap] 24)).alloc (.cells #[.slice at1 ts.length ct] 25)).alloc (.cells #[.slice al fs.length cl] 28)).alloc (.cells #[.slice ap ps.length cp] 22)).alloc (.cells #[.int .i64 q] 3)).alloc (.cells #[.func (.func 143) #[] #[.pointer (some ⟨w.heap.size, 0, none⟩)], .func (.func 144) #[] #[.pointer (some ⟨w.heap.size + 1, 0, none⟩)], .func (.func 146) #[] #[.pointer (some ⟨w.heap.size + 2, 0, none⟩)], .func (.func 147) #[] #[.pointer (some ⟨w.heap.size + 3, 0, none⟩)], .func (.func 149) #[] #[.pointer (some ⟨w.heap.size, 0, none⟩), .pointer (some ⟨w.heap.size + 4, 0, none⟩)]] 176))
    (BN.out.cell 0) (BN.out.cell 1) (BN.out.cell 2) (BN.out.cell 3) (BN.out.cell 4)
    (fun w' k => clo1 W _ hs _ w' (BC.out.kpt k) (hr.kpt (ktr K6.out k)) hf)
    (fun w' k => clo2 _ ts _ w' (BT.out.kpt k) (ht.kpt (ktr K6.out k)))
    (fun w' k => clo3 _ fs _ w' (BL.out.kpt k) (hl.kpt (ktr K6.out k)))
    (fun w' k => clo4 _ ps _ w' (BP.out.kpt k) (hp.kpt (ktr K6.out k)))
    (fun w' k => clo5 W q _ hs _ _ w' (BC.out.kpt k) (BQ.out.kpt k) (hr.kpt (ktr K6.out k)) hf))
  unfold calV at *
  have HX : Hid (orE (calE W hs) (orE (clsE ts) (orE (checksE fs) (orE (prsE ps) (tdyE W hs q)))) = 0) := hE
  rw [HX.out] at FR
  unfold preE at hE
  obtain ⟨-, hE⟩ := orE_0 hE
  obtain ⟨hE2, hE⟩ := orE_0 hE
  obtain ⟨hE3, hE⟩ := orE_0 hE
  obtain ⟨hE4, -⟩ := orE_0 hE
  clear hE
  have t6 := clsE_0 hE2
  obtain ⟨p20, pOK⟩ := prsE_0 hE4
  have T6 := Lib.hid t6
  have P20 := Lib.hid p20
  obtain ⟨f60, fOK⟩ := checksE_0 hE3
  have HR := Lib.hid hr
  have HF := Lib.hid hf
  have HT := Lib.hid hct
  have HC := Lib.hid hcl
  have HP := Lib.hid hmp.2
  have DR := Lib.hid (fun k (h : k < fs.length) => drop_at h)
  have DA : Hid (fs.drop fs.length = []) := List.drop_length
  have FB := Lib.hid (fun k (h : k < fs.length) => fl_cls (fOK _ (getF_mem h)))
  have PB := Lib.hid (fun (j : Nat) (h : j < ps.length) => pOK (ps.getD j 0) (by rw [List.getD_eq_getElem?_getD, List.getElem?_eq_getElem h]; simp))
  clear t6 p20 hE2 hE3 hE4 pOK fOK HX ha hct hcl hmp hr ht hl hp hf hbl BN hml
  generalize hX : pdE W hs ts q fs = X
  have HE0 : Hid (X = pdE W hs ts q (fs.drop 0)) := by rw [List.drop_zero]; exact hX.symm
  generalize hD : dueL W hs ts ps q fs = D
  have HD0 : Hid (D = [] ++ dueL W hs ts ps q (fs.drop 0)) := by rw [List.drop_zero]; exact hD.symm
  clear hX hD
  go_enter Tryz.func122, Tryz.ntmps122
  go_wp2_with (go_at_call 142; (with_reducible refine FR.out.mono ?_); rintro e w1 ⟨rfl, k1⟩; have KW := Lib.hid (ktr K6.out k1); have XC := Lib.hid (BC.out.kpt k1); have XT := Lib.hid (BT.out.kpt k1); have XP := Lib.hid (BP.out.kpt k1); have XQ := Lib.hid (BQ.out.kpt k1); have XL := Lib.hid (BL.out.kpt k1); have bf0 : World.cell? w1 ⟨w.heap.size + 2, 0, none⟩ = some (.slice al fs.length cl) := XL.out.cell 0; clear k1)
  clear bf0 XL FR BC BT BP BQ BL K6
  have BC := XC
  have BT := XT
  have BP := XP
  have BQ := XQ
  clear XC XT XP XQ
  have K0 : Hid (Kpt w1 w1) := Kpt.refl w1
  have O0 : Hid (OwnsT 130 w1 w1.heap.size (.slice none 0 0) []) := OwnsT.nil _ _ _
  have MW : Hid (w.heap.size ≤ w1.heap.size) := KW.out.size
  go_loopw [13, 30] (fun dv ii wr => ∃ (k : Nat) (es : List (Int × Int × Int)), k ≤ fs.length ∧ ii = .int .i64 (k : Int) ∧ Hid (es.length ≤ k) ∧ Hid (OwnsT 130 wr w1.heap.size dv es) ∧ Hid (X = pdE W hs ts q (fs.drop k)) ∧ Hid (D = es ++ dueL W hs ts ps q (fs.drop k)) ∧ Hid (Kpt w1 wr)) (fun _ ii _ => fs.length - (intOf ii).toNat)
  case atStart => exact ⟨0, [], Nat.zero_le _, rfl, Nat.le_refl _, O0.out, HE0.out, HD0.out, K0.out⟩
  case round =>
    obtain ⟨k, es, hk, rfl, HS, HO, HE, HD, HK⟩ := hrel
    by_cases hlt : k < fs.length
    · obtain ⟨g, off, rfl, hfl⟩ := HC.out k hlt
      have hfl := hfl.kpt (ktr KW.out HK.out)
      have fb := FB.out k hlt
      have t6 := T6.out
      have p20 := P20.out
      have pz := PB.out ((fs.getD k []).getD 4 0 - 1).toNat (by omega)
      obtain ⟨g2, off2, rfl, htc⟩ := HT.out ((fs.getD k []).getD 3 0).toNat (by omega)
      obtain ⟨g3, off3, rfl, hpc⟩ := HP.out ((fs.getD k []).getD 4 0 - 1).toNat (by omega)
      have dr := DR.out k hlt
      have he := HE.out
      rw [dr] at he
      have hd := HD.out
      rw [dr] at hd
      have hs1 := HS.out
      have e1000 : es.length + 1 ≤ 100000 := by omega
      clear HE HD
      have c0 : wr.cell? ⟨g, off + k * 10, none⟩ = _ := hfl 0 (by omega)
      have c1 : wr.cell? ⟨g, off + k * 10 + 1, none⟩ = _ := hfl 1 (by omega)
      have c2 : wr.cell? ⟨g, off + k * 10 + 2, none⟩ = _ := hfl 2 (by omega)
      have c3 : wr.cell? ⟨g, off + k * 10 + 3, none⟩ = _ := hfl 3 (by omega)
      have c4 : wr.cell? ⟨g, off + k * 10 + 4, none⟩ = _ := hfl 4 (by omega)
      have c5 : wr.cell? ⟨g, off + k * 10 + 5, none⟩ = _ := hfl 5 (by omega)
      have c6 : wr.cell? ⟨g, off + k * 10 + 6, none⟩ = _ := hfl 6 (by omega)
      have c7 : wr.cell? ⟨g, off + k * 10 + 7, none⟩ = _ := hfl 7 (by omega)
      have c8 : wr.cell? ⟨g, off + k * 10 + 8, none⟩ = _ := hfl 8 (by omega)
      have c9 : wr.cell? ⟨g, off + k * 10 + 9, none⟩ = _ := hfl 9 (by omega)
      generalize fs.getD k [] = l at *
      have CL := Lib.hid (fun w' (kk : Kpt w w') => cost_L W (prOf ps l) q (tlOf ts l) l _ hs w' (HR.out.kpt kk) HF.out pz)
      unfold calV at CL
      have hpc : w.cell? ⟨g3, off3 + (l.getD 4 0 - 1).toNat, none⟩ = some (.int .i64 (prOf ps l)) := hpc
      have h0 : w.cell? ⟨g2, off2 + (l.getD 3 0).toNat * 4, none⟩ = some (.int .i64 ((tlOf ts l).getD 0 0)) := htc 0 (by omega)
      have h1 : w.cell? ⟨g2, off2 + (l.getD 3 0).toNat * 4 + 1, none⟩ = some (.int .i64 ((tlOf ts l).getD 1 0)) := htc 1 (by omega)
      have h2 : w.cell? ⟨g2, off2 + (l.getD 3 0).toNat * 4 + 2, none⟩ = some (.int .i64 ((tlOf ts l).getD 2 0)) := htc 2 (by omega)
      have h3 : w.cell? ⟨g2, off2 + (l.getD 3 0).toNat * 4 + 3, none⟩ = some (.int .i64 ((tlOf ts l).getD 3 0)) := htc 3 (by omega)
      clear htc hfl pz dr t6 p20
      have ZB : Hid (Blk (wr.alloc (.cells #[.int .i64 0, .int .i64 0, .int .i64 0, .int .i64 0, .int .i64 0, .int .i64 0, .int .i64 0, .int .i64 0, .int .i64 0, .int .i64 0] 42)) wr.heap.size #[.int .i64 0, .int .i64 0, .int .i64 0, .int .i64 0, .int .i64 0, .int .i64 0, .int .i64 0, .int .i64 0, .int .i64 0, .int .i64 0] 42) := Blk.made _ _ _
      have KZ : Hid (Kpt wr (wr.alloc (.cells #[.int .i64 0, .int .i64 0, .int .i64 0, .int .i64 0, .int .i64 0, .int .i64 0, .int .i64 0, .int .i64 0, .int .i64 0, .int .i64 0] 42))) := (Kpt.refl _).alloc _
      have KQ : Hid (Kpt w wr) := ktr KW.out HK.out
      by_cases hL : lkL W hs (tlOf ts l) l q = 0
      · rw [pd_0 hL] at he
        rw [hL] at CL
        by_cases hC0 : 0 < csV W hs (tlOf ts l) l (prOf ps l) q
        · rw [dueL_p hL hC0, ← List.append_assoc] at hd
          have HE2 := Lib.hid he
          have HD2 := Lib.hid hd
          clear he hd hL
          generalize csV W hs (tlOf ts l) l (prOf ps l) q = C at *
          generalize prOf ps l = z at *
          generalize (tlOf ts l).getD 0 0 = te at *
          generalize (tlOf ts l).getD 1 0 = tb at *
          generalize (tlOf ts l).getD 2 0 = td at *
          generalize (tlOf ts l).getD 3 0 = tr at *
          generalize l.getD 0 0 = i at *
          generalize l.getD 1 0 = f at *
          generalize l.getD 2 0 = t at *
          generalize l.getD 3 0 = c at *
          generalize l.getD 4 0 = p at *
          generalize l.getD 5 0 = d at *
          generalize l.getD 6 0 = u at *
          generalize l.getD 7 0 = x at *
          generalize l.getD 8 0 = b at *
          generalize l.getD 9 0 = y at *
          go_wp2_with (refine wp_storeF rfl (.tmp 15) (.tmp 33) rfl wr.heap.size _ _ rfl rfl ZB.out rfl rfl (by simp [Value.oneCell']) ?_; intro w9 r9 k9 o9; have R9 := Lib.hid r9; have K9 : Hid (Kpt wr w9) := k9 _ _ KZ.out (Nat.le_refl _); clear r9 k9 o9)
          have KM9 : Hid (Kpt w1 w9) := ktr HK.out K9.out
          have KW9 : Hid (Kpt w w9) := ktr KQ.out K9.out
          have O9 := Lib.hid (HO.out.kpt K9.out)
          clear c0 c1 c2 c3 c4 c5 c6 c7 c8 c9
          have b0 := cell_k (q := w9) (a := ⟨w.heap.size, 0, none⟩) (v := .int .i64 W) ((BC.out.kpt KM9.out).cell 0)
          have b1 := cell_k (q := w9) (a := ⟨w.heap.size, 1, none⟩) (v := .slice a hs.length cap) ((BC.out.kpt KM9.out).cell 1)
          have b2 := cell_k (q := w9) (a := ⟨(w.heap.size + 1), 0, none⟩) (v := .slice (some ⟨g2, off2, none⟩) ts.length ct) ((BT.out.kpt KM9.out).cell 0)
          have b3 := cell_k (q := w9) (a := ⟨(w.heap.size + 3), 0, none⟩) (v := .slice (some ⟨g3, off3, none⟩) ps.length cp) ((BP.out.kpt KM9.out).cell 0)
          have b4 := cell_k (q := w9) (a := ⟨(w.heap.size + 4), 0, none⟩) (v := .int .i64 q) ((BQ.out.kpt KM9.out).cell 0)
          have t0 := cell_k (q := w9) (a := ⟨g2, off2 + c.toNat * 4, none⟩) (v := .int .i64 te) (KW9.out.cell h0)
          have t1 := cell_k (q := w9) (a := ⟨g2, off2 + c.toNat * 4 + 1, none⟩) (v := .int .i64 tb) (KW9.out.cell h1)
          have t2 := cell_k (q := w9) (a := ⟨g2, off2 + c.toNat * 4 + 2, none⟩) (v := .int .i64 td) (KW9.out.cell h2)
          have t3 := cell_k (q := w9) (a := ⟨g2, off2 + c.toNat * 4 + 3, none⟩) (v := .int .i64 tr) (KW9.out.cell h3)
          obtain ⟨pj, epj⟩ : ∃ pj, (p - 1).toNat = pj := ⟨_, rfl⟩
          have p0 := cell_k (q := w9) (a := ⟨g3, off3 + pj, none⟩) (v := .int .i64 z) (by rw [← epj]; exact KW9.out.cell hpc)
          have r0 := cell_k (q := w9) (a := ⟨wr.heap.size, 0, none⟩) (v := .int .i64 i) (R9.out.cell 0)
          have r1 := cell_k (q := w9) (a := ⟨wr.heap.size, 1, none⟩) (v := .int .i64 f) (R9.out.cell 1)
          have r2 := cell_k (q := w9) (a := ⟨wr.heap.size, 2, none⟩) (v := .int .i64 t) (R9.out.cell 2)
          have r3 := cell_k (q := w9) (a := ⟨wr.heap.size, 3, none⟩) (v := .int .i64 c) (R9.out.cell 3)
          have r4 := cell_k (q := w9) (a := ⟨wr.heap.size, 4, none⟩) (v := .int .i64 p) (R9.out.cell 4)
          have r5 := cell_k (q := w9) (a := ⟨wr.heap.size, 5, none⟩) (v := .int .i64 d) (R9.out.cell 5)
          have r6 := cell_k (q := w9) (a := ⟨wr.heap.size, 6, none⟩) (v := .int .i64 u) (R9.out.cell 6)
          have r7 := cell_k (q := w9) (a := ⟨wr.heap.size, 7, none⟩) (v := .int .i64 x) (R9.out.cell 7)
          have r8 := cell_k (q := w9) (a := ⟨wr.heap.size, 8, none⟩) (v := .int .i64 b) (R9.out.cell 8)
          have r9 := cell_k (q := w9) (a := ⟨wr.heap.size, 9, none⟩) (v := .int .i64 y) (R9.out.cell 9)
          have CK := Lib.hid (fun (p : KptTo w9) => CL.out p.w (ktr KW9.out p.h))
          have n1 : 0 ≤ c := fb.1.1
          have n2 : c < (ts.length : Int) := by have := T6.out; omega
          have n3 : 0 ≤ p - 1 := by omega
          have n4 : p - 1 < (ps.length : Int) := by have := P20.out; omega
          have n5 : -9223372036854775808 ≤ p - 1 := by omega
          have n6 : p - 1 ≤ 9223372036854775807 := by omega
          have n7 : IntKind.i64.wrap (p - 1) = p - 1 := IntWalk.i64_in _ (by omega)
          have mixed : Tryz.prog.follows .mixedOrders = true := by kernel_rfl
          refine quiet_k (q := w9) mixed (by kernel_rfl) ?_
          repeat (quiet_step (first | (go_at_call 151; with_reducible refine calls_k (CK.out _))))
          refine wpQuiet_nil ?_
          intro w8 hw1
          obtain ⟨⟨wz, kz⟩, hw2⟩ := hw1
          have hw3 : w8 = wz := hw2
          clear hw2
          subst hw3
          clear b0 b1 b2 b3 b4 t0 t1 t2 t3 p0 r0 r1 r2 r3 r4 r5 r6 r7 r8 r9 CK
          have O8 := Lib.hid (O9.out.kpt kz)
          have KM8 := Lib.hid (ktr KM9.out kz)
          have KW8 := Lib.hid (ktr KW9.out kz)
          have R8 := Lib.hid (R9.out.kpt kz)
          have r1 : World.cell? w8 ⟨wr.heap.size, 1, none⟩ = some (.int .i64 f) := R8.out.cell 1
          have r2 : World.cell? w8 ⟨wr.heap.size, 2, none⟩ = some (.int .i64 t) := R8.out.cell 2
          have y1 : decide (0 < C) = true := decide_eq_true hC0
          go_wp2_with (first | (refine wp_appendD rfl (.tmp 57) (.tmp 64) rfl w1.heap.size _ es _ _ _ _ rfl O8.out rfl e1000 KM8.out.size (.slice none 0 0) [] (OwnsT.nil _ _ _) (.inl rfl) ?_; intro dv2 w5 o5 b5 _ _ _; have O5 := Lib.hid o5; have K5 : Hid (Kpt w1 w5) := Below.trans KM8.out b5; clear o5 b5))
          go_roundw
          case rel => exact ⟨k + 1, es ++ [(f, t, C)], by omega, by go_num, by simp; omega, O5.out, HE2.out, HD2.out, K5.out⟩
          case measure => simp [intOf]; omega
        · rw [dueL_n hL hC0] at hd
          have HE2 := Lib.hid he
          have HD2 := Lib.hid hd
          clear he hd hL
          generalize csV W hs (tlOf ts l) l (prOf ps l) q = C at *
          generalize prOf ps l = z at *
          generalize (tlOf ts l).getD 0 0 = te at *
          generalize (tlOf ts l).getD 1 0 = tb at *
          generalize (tlOf ts l).getD 2 0 = td at *
          generalize (tlOf ts l).getD 3 0 = tr at *
          generalize l.getD 0 0 = i at *
          generalize l.getD 1 0 = f at *
          generalize l.getD 2 0 = t at *
          generalize l.getD 3 0 = c at *
          generalize l.getD 4 0 = p at *
          generalize l.getD 5 0 = d at *
          generalize l.getD 6 0 = u at *
          generalize l.getD 7 0 = x at *
          generalize l.getD 8 0 = b at *
          generalize l.getD 9 0 = y at *
          go_wp2_with (refine wp_storeF rfl (.tmp 15) (.tmp 33) rfl wr.heap.size _ _ rfl rfl ZB.out rfl rfl (by simp [Value.oneCell']) ?_; intro w9 r9 k9 o9; have R9 := Lib.hid r9; have K9 : Hid (Kpt wr w9) := k9 _ _ KZ.out (Nat.le_refl _); clear r9 k9 o9)
          have KM9 : Hid (Kpt w1 w9) := ktr HK.out K9.out
          have KW9 : Hid (Kpt w w9) := ktr KQ.out K9.out
          have O9 := Lib.hid (HO.out.kpt K9.out)
          clear c0 c1 c2 c3 c4 c5 c6 c7 c8 c9
          have b0 := cell_k (q := w9) (a := ⟨w.heap.size, 0, none⟩) (v := .int .i64 W) ((BC.out.kpt KM9.out).cell 0)
          have b1 := cell_k (q := w9) (a := ⟨w.heap.size, 1, none⟩) (v := .slice a hs.length cap) ((BC.out.kpt KM9.out).cell 1)
          have b2 := cell_k (q := w9) (a := ⟨(w.heap.size + 1), 0, none⟩) (v := .slice (some ⟨g2, off2, none⟩) ts.length ct) ((BT.out.kpt KM9.out).cell 0)
          have b3 := cell_k (q := w9) (a := ⟨(w.heap.size + 3), 0, none⟩) (v := .slice (some ⟨g3, off3, none⟩) ps.length cp) ((BP.out.kpt KM9.out).cell 0)
          have b4 := cell_k (q := w9) (a := ⟨(w.heap.size + 4), 0, none⟩) (v := .int .i64 q) ((BQ.out.kpt KM9.out).cell 0)
          have t0 := cell_k (q := w9) (a := ⟨g2, off2 + c.toNat * 4, none⟩) (v := .int .i64 te) (KW9.out.cell h0)
          have t1 := cell_k (q := w9) (a := ⟨g2, off2 + c.toNat * 4 + 1, none⟩) (v := .int .i64 tb) (KW9.out.cell h1)
          have t2 := cell_k (q := w9) (a := ⟨g2, off2 + c.toNat * 4 + 2, none⟩) (v := .int .i64 td) (KW9.out.cell h2)
          have t3 := cell_k (q := w9) (a := ⟨g2, off2 + c.toNat * 4 + 3, none⟩) (v := .int .i64 tr) (KW9.out.cell h3)
          obtain ⟨pj, epj⟩ : ∃ pj, (p - 1).toNat = pj := ⟨_, rfl⟩
          have p0 := cell_k (q := w9) (a := ⟨g3, off3 + pj, none⟩) (v := .int .i64 z) (by rw [← epj]; exact KW9.out.cell hpc)
          have r0 := cell_k (q := w9) (a := ⟨wr.heap.size, 0, none⟩) (v := .int .i64 i) (R9.out.cell 0)
          have r1 := cell_k (q := w9) (a := ⟨wr.heap.size, 1, none⟩) (v := .int .i64 f) (R9.out.cell 1)
          have r2 := cell_k (q := w9) (a := ⟨wr.heap.size, 2, none⟩) (v := .int .i64 t) (R9.out.cell 2)
          have r3 := cell_k (q := w9) (a := ⟨wr.heap.size, 3, none⟩) (v := .int .i64 c) (R9.out.cell 3)
          have r4 := cell_k (q := w9) (a := ⟨wr.heap.size, 4, none⟩) (v := .int .i64 p) (R9.out.cell 4)
          have r5 := cell_k (q := w9) (a := ⟨wr.heap.size, 5, none⟩) (v := .int .i64 d) (R9.out.cell 5)
          have r6 := cell_k (q := w9) (a := ⟨wr.heap.size, 6, none⟩) (v := .int .i64 u) (R9.out.cell 6)
          have r7 := cell_k (q := w9) (a := ⟨wr.heap.size, 7, none⟩) (v := .int .i64 x) (R9.out.cell 7)
          have r8 := cell_k (q := w9) (a := ⟨wr.heap.size, 8, none⟩) (v := .int .i64 b) (R9.out.cell 8)
          have r9 := cell_k (q := w9) (a := ⟨wr.heap.size, 9, none⟩) (v := .int .i64 y) (R9.out.cell 9)
          have CK := Lib.hid (fun (p : KptTo w9) => CL.out p.w (ktr KW9.out p.h))
          have n1 : 0 ≤ c := fb.1.1
          have n2 : c < (ts.length : Int) := by have := T6.out; omega
          have n3 : 0 ≤ p - 1 := by omega
          have n4 : p - 1 < (ps.length : Int) := by have := P20.out; omega
          have n5 : -9223372036854775808 ≤ p - 1 := by omega
          have n6 : p - 1 ≤ 9223372036854775807 := by omega
          have n7 : IntKind.i64.wrap (p - 1) = p - 1 := IntWalk.i64_in _ (by omega)
          have mixed : Tryz.prog.follows .mixedOrders = true := by kernel_rfl
          refine quiet_k (q := w9) mixed (by kernel_rfl) ?_
          repeat (quiet_step (first | (go_at_call 151; with_reducible refine calls_k (CK.out _))))
          refine wpQuiet_nil ?_
          intro w8 hw1
          obtain ⟨⟨wz, kz⟩, hw2⟩ := hw1
          have hw3 : w8 = wz := hw2
          clear hw2
          subst hw3
          clear b0 b1 b2 b3 b4 t0 t1 t2 t3 p0 r0 r1 r2 r3 r4 r5 r6 r7 r8 r9 CK
          have O8 := Lib.hid (O9.out.kpt kz)
          have KM8 := Lib.hid (ktr KM9.out kz)
          have KW8 := Lib.hid (ktr KW9.out kz)
          have R8 := Lib.hid (R9.out.kpt kz)
          have r1 : World.cell? w8 ⟨wr.heap.size, 1, none⟩ = some (.int .i64 f) := R8.out.cell 1
          have r2 : World.cell? w8 ⟨wr.heap.size, 2, none⟩ = some (.int .i64 t) := R8.out.cell 2
          have y1 : decide (0 < C) = false := decide_eq_false (by omega)
          go_wp2
          go_roundw
          case rel => exact ⟨k + 1, es, by omega, by go_num, by unfold Hid; omega, O8.out, HE2.out, HD2.out, KM8.out⟩
          case measure => simp [intOf]; omega
      · rw [pd_1 hL] at he
        have hT : True := trivial
        have z0 : (lkL W hs (tlOf ts l) l q != 0) = true := bne_iff_ne.2 hL
        have HE2 := Lib.hid he
        have HD2 := Lib.hid hd
        have hL := Lib.hid hL
        clear he hd
        generalize lkL W hs (tlOf ts l) l q = E at *
        generalize csV W hs (tlOf ts l) l (prOf ps l) q = C at *
        generalize prOf ps l = z at *
        generalize (tlOf ts l).getD 0 0 = te at *
        generalize (tlOf ts l).getD 1 0 = tb at *
        generalize (tlOf ts l).getD 2 0 = td at *
        generalize (tlOf ts l).getD 3 0 = tr at *
        generalize l.getD 0 0 = i at *
        generalize l.getD 1 0 = f at *
        generalize l.getD 2 0 = t at *
        generalize l.getD 3 0 = c at *
        generalize l.getD 4 0 = p at *
        generalize l.getD 5 0 = d at *
        generalize l.getD 6 0 = u at *
        generalize l.getD 7 0 = x at *
        generalize l.getD 8 0 = b at *
        generalize l.getD 9 0 = y at *
        go_wp2_with (refine wp_storeF rfl (.tmp 15) (.tmp 33) rfl wr.heap.size _ _ rfl rfl ZB.out rfl rfl (by simp [Value.oneCell']) ?_; intro w9 r9 k9 o9; have R9 := Lib.hid r9; have K9 : Hid (Kpt wr w9) := k9 _ _ KZ.out (Nat.le_refl _); clear r9 k9 o9)
        have KM9 : Hid (Kpt w1 w9) := ktr HK.out K9.out
        have KW9 : Hid (Kpt w w9) := ktr KQ.out K9.out
        have O9 := Lib.hid (HO.out.kpt K9.out)
        clear c0 c1 c2 c3 c4 c5 c6 c7 c8 c9
        have b0 := cell_k (q := w9) (a := ⟨w.heap.size, 0, none⟩) (v := .int .i64 W) ((BC.out.kpt KM9.out).cell 0)
        have b1 := cell_k (q := w9) (a := ⟨w.heap.size, 1, none⟩) (v := .slice a hs.length cap) ((BC.out.kpt KM9.out).cell 1)
        have b2 := cell_k (q := w9) (a := ⟨(w.heap.size + 1), 0, none⟩) (v := .slice (some ⟨g2, off2, none⟩) ts.length ct) ((BT.out.kpt KM9.out).cell 0)
        have b3 := cell_k (q := w9) (a := ⟨(w.heap.size + 3), 0, none⟩) (v := .slice (some ⟨g3, off3, none⟩) ps.length cp) ((BP.out.kpt KM9.out).cell 0)
        have b4 := cell_k (q := w9) (a := ⟨(w.heap.size + 4), 0, none⟩) (v := .int .i64 q) ((BQ.out.kpt KM9.out).cell 0)
        have t0 := cell_k (q := w9) (a := ⟨g2, off2 + c.toNat * 4, none⟩) (v := .int .i64 te) (KW9.out.cell h0)
        have t1 := cell_k (q := w9) (a := ⟨g2, off2 + c.toNat * 4 + 1, none⟩) (v := .int .i64 tb) (KW9.out.cell h1)
        have t2 := cell_k (q := w9) (a := ⟨g2, off2 + c.toNat * 4 + 2, none⟩) (v := .int .i64 td) (KW9.out.cell h2)
        have t3 := cell_k (q := w9) (a := ⟨g2, off2 + c.toNat * 4 + 3, none⟩) (v := .int .i64 tr) (KW9.out.cell h3)
        obtain ⟨pj, epj⟩ : ∃ pj, (p - 1).toNat = pj := ⟨_, rfl⟩
        have p0 := cell_k (q := w9) (a := ⟨g3, off3 + pj, none⟩) (v := .int .i64 z) (by rw [← epj]; exact KW9.out.cell hpc)
        have r0 := cell_k (q := w9) (a := ⟨wr.heap.size, 0, none⟩) (v := .int .i64 i) (R9.out.cell 0)
        have r1 := cell_k (q := w9) (a := ⟨wr.heap.size, 1, none⟩) (v := .int .i64 f) (R9.out.cell 1)
        have r2 := cell_k (q := w9) (a := ⟨wr.heap.size, 2, none⟩) (v := .int .i64 t) (R9.out.cell 2)
        have r3 := cell_k (q := w9) (a := ⟨wr.heap.size, 3, none⟩) (v := .int .i64 c) (R9.out.cell 3)
        have r4 := cell_k (q := w9) (a := ⟨wr.heap.size, 4, none⟩) (v := .int .i64 p) (R9.out.cell 4)
        have r5 := cell_k (q := w9) (a := ⟨wr.heap.size, 5, none⟩) (v := .int .i64 d) (R9.out.cell 5)
        have r6 := cell_k (q := w9) (a := ⟨wr.heap.size, 6, none⟩) (v := .int .i64 u) (R9.out.cell 6)
        have r7 := cell_k (q := w9) (a := ⟨wr.heap.size, 7, none⟩) (v := .int .i64 x) (R9.out.cell 7)
        have r8 := cell_k (q := w9) (a := ⟨wr.heap.size, 8, none⟩) (v := .int .i64 b) (R9.out.cell 8)
        have r9 := cell_k (q := w9) (a := ⟨wr.heap.size, 9, none⟩) (v := .int .i64 y) (R9.out.cell 9)
        have CK := Lib.hid (fun (p : KptTo w9) => CL.out p.w (ktr KW9.out p.h))
        have n1 : 0 ≤ c := fb.1.1
        have n2 : c < (ts.length : Int) := by have := T6.out; omega
        have n3 : 0 ≤ p - 1 := by omega
        have n4 : p - 1 < (ps.length : Int) := by have := P20.out; omega
        have n5 : -9223372036854775808 ≤ p - 1 := by omega
        have n6 : p - 1 ≤ 9223372036854775807 := by omega
        have n7 : IntKind.i64.wrap (p - 1) = p - 1 := IntWalk.i64_in _ (by omega)
        have mixed : Tryz.prog.follows .mixedOrders = true := by kernel_rfl
        refine quiet_k (q := w9) mixed (by kernel_rfl) ?_
        repeat (quiet_step (first | (go_at_call 151; with_reducible refine calls_k (CK.out _))))
        refine wpQuiet_nil ?_
        intro w8 hw1
        obtain ⟨⟨wz, kz⟩, hw2⟩ := hw1
        have hw3 : w8 = wz := hw2
        clear hw2
        subst hw3
        clear b0 b1 b2 b3 b4 t0 t1 t2 t3 p0 r0 r1 r2 r3 r4 r5 r6 r7 r8 r9 CK
        have O8 := Lib.hid (O9.out.kpt kz)
        have KM8 := Lib.hid (ktr KM9.out kz)
        have KW8 := Lib.hid (ktr KW9.out kz)
        have R8 := Lib.hid (R9.out.kpt kz)
        have r1 : World.cell? w8 ⟨wr.heap.size, 1, none⟩ = some (.int .i64 f) := R8.out.cell 1
        have r2 : World.cell? w8 ⟨wr.heap.size, 2, none⟩ = some (.int .i64 t) := R8.out.cell 2
        go_wp2
        go_ret2
        exact dayRes_nil HE2.out.symm (if_neg (by rw [HE2.out]; exact hL.out)) KW8.out
    · obtain rfl : k = fs.length := by omega
      rw [DA.out] at HE HD
      go_wp2
      go_ret2
      exact dayRes_ok HE.out (by unfold ifD; rw [if_pos (show X = 0 from HE.out), (show D = es ++ [] from HD.out)]; simp) HO.out MW.out (ktr KW.out HK.out)

theorem day_any (W q : Int) (v tv lv pv : Value) (hs : List Int) (ts fs : List (List Int)) (ps : List Int) (w : World) (hr : Reads w v hs) (hf : Fits hs) (ht : ReadsT w tv ts) (hl : ReadsF w lv fs) (hp : Reads w pv ps) :
    Calls Tryz.prog 122 #[calV W v, tv, lv, pv, .int .i64 q] w (DayRes w (dayE W hs ts fs ps q) (dayD W hs ts fs ps q)) := by
  by_cases hE : preE W hs ts fs ps q = 0
  · rw [(day_B hE).2, (day_B hE).1]
    exact day_ok W q v tv lv pv hs ts fs ps w hr hf ht hl hp hE
  · rw [(day_A hE).2, (day_A hE).1]
    exact day_no W q v tv lv pv hs ts fs ps w hr hf ht hl hp hE


end Go.Proofs.YthaahebggboliaaGreat
