/-
  Merged: LawPE.
-/
import Derived.Test.YtmoanndonfmihaaMgc
import Derived.Deep.RegionWith
-- LawPE
namespace Go.Proofs.Ytmoanndonfmihaa
open Go.RowKit
set_option linter.unusedVariables false

/-- what Day answers, its fails told -/
def DayIs (W q : Int) (v tv lv pv : Value) (w : World) (E : Int) (ds : List (Int × Int × Int)) : Prop := ∀ w', Kpt w w' → Calls Try.prog 8 #[.agg #[.int .i64 W, v], tv, lv, pv, .int .i64 q] w' (DayRes w' E ds)
theorem DayIs.run {W q : Int} {v tv lv pv : Value} {w : World} {E : Int} {ds : List (Int × Int × Int)} (h : DayIs W q v tv lv pv w E ds) (w' : World) (k : Kpt w w') : Calls Try.prog 8 #[.agg #[.int .i64 W, v], tv, lv, pv, .int .i64 q] w' (DayRes w' E ds) := h w' k
theorem DayRes.open {w w' : World} {E : Int} {ds : List (Int × Int × Int)} {e : Ending} (h : DayRes w E ds e w') : ∃ dv, e = .returned (.tuple #[dv, .int .i64 E]) ∧ Hid (OwnsT 41 w' w.heap.size dv ds) ∧ Hid (Kpt w w') := h

set_option maxHeartbeats 2000000 in
theorem peach_no (W q at' : Int) (v tv lv pv : Value) (w : World) (E : Int) (hE : E ≠ 0) (D : DayIs W q v tv lv pv w E []) :
    Calls Try.prog 3 #[calV W v, tv, lv, pv, .int .i64 q, .int .i64 at'] w fun e w' => e = .returned (.bool true) ∧ Kpt w w' := by
  have z : (E != 0) = true := bne_iff_ne.2 hE
  have HD := Lib.hid D
  have KA : Hid (Kpt w (w.alloc (.cells #[.int .i64 W, v] 24))) := (Kpt.refl w).alloc _
  clear D hE
  unfold calV
  go_enter Try.func3, Try.ntmps3
  go_wp2_with (first
    | (go_at_call 8; (with_reducible refine (HD.out.run _ KA.out).mono ?_); intro e w1 r; obtain ⟨dv, rfl, ho, hk⟩ := r.open; obtain ⟨ad, cd, rfl⟩ := OwnsT.form ho.out; have K1 := Lib.hid (ktr KA.out hk.out); clear r hk ho)
    | (go_at_call 9; (with_reducible refine (penaltyBegun _).mono ?_); rintro e w2 ⟨rfl, k1⟩; have K2 := Lib.hid (ktr K1.out k1); clear k1))
  go_ret
  exact ⟨rfl, K2.out⟩
set_option maxHeartbeats 2000000 in
theorem peach_far (W q at' : Int) (v tv pv : Value) (a : Option Addr) (n cap : Nat) (w : World) (ds : List (Int × Int × Int)) (hn : n ≤ 60) (hA : at' < 0 ∨ (n : Int) < at') (D : DayIs W q v tv (.slice a n cap) pv w 0 ds) :
    Calls Try.prog 3 #[calV W v, tv, .slice a n cap, pv, .int .i64 q, .int .i64 at'] w fun e w' => e = .returned (.bool true) ∧ Kpt w w' := by
  have HD := Lib.hid D
  have KA : Hid (Kpt w (w.alloc (.cells #[.int .i64 W, v] 24))) := (Kpt.refl w).alloc _
  clear D
  unfold calV
  by_cases h : at' < 0
  · have y : decide (at' < 0) = true := decide_eq_true h
    clear hA
    go_enter Try.func3, Try.ntmps3
    go_wp2_with (first
      | (go_at_call 8; (with_reducible refine (HD.out.run _ KA.out).mono ?_); intro e w1 r; obtain ⟨dv, rfl, ho, hk⟩ := r.open; have K1 := Lib.hid (ktr KA.out hk.out); clear r hk ho)
      | (go_at_call 9; (with_reducible refine (penaltyBegun _).mono ?_); rintro e w2 ⟨rfl, k1⟩; have K2 := Lib.hid (ktr K1.out k1); clear k1))
    go_ret
    exact ⟨rfl, K2.out⟩
  · have y : decide (at' < 0) = false := decide_eq_false h
    have y2 : (n : Int) < at' := by omega
    have y3 : decide ((n : Int) < at') = true := decide_eq_true y2
    clear hA
    go_enter Try.func3, Try.ntmps3
    go_wp2_with (first
      | (go_at_call 8; (with_reducible refine (HD.out.run _ KA.out).mono ?_); intro e w1 r; obtain ⟨dv, rfl, ho, hk⟩ := r.open; have K1 := Lib.hid (ktr KA.out hk.out); clear r hk ho)
      | (go_at_call 9; (with_reducible refine (penaltyBegun _).mono ?_); rintro e w2 ⟨rfl, k1⟩; have K2 := Lib.hid (ktr K1.out k1); clear k1))
    go_ret
    exact ⟨rfl, K2.out⟩
set_option maxRecDepth 100000 in
set_option maxHeartbeats 4000000 in
theorem peach_ne (W q : Int) (i g off n cap : Nat) (hn : n ≤ 60) (hc : n ≤ cap) (hm : cap ≤ maxLen) (hi : i ≤ n) (y8 : ¬ (cap = i)) (v tv pv : Value) (w : World) (ds es : List (Int × Int × Int)) (b1 : InP (ds ++ es)) (l1 : ds.length ≤ 60) (l2 : es.length ≤ 60)
    (D : DayIs W q v tv (.slice (some ⟨g, off, none⟩) n cap) pv w 0 (ds ++ es)) (D1 : DayIs W q v tv (.slice (some ⟨g, off, none⟩) i cap) pv w 0 ds) (D2 : DayIs W q v tv (.slice (some ⟨g, off + i * 10, none⟩) (n - i) (cap - i)) pv w 0 es) :
    Calls Try.prog 3 #[calV W v, tv, .slice (some ⟨g, off, none⟩) n cap, pv, .int .i64 q, .int .i64 i] w fun e w' => e = .returned (.bool true) ∧ Kpt w w' := by
  have HD := Lib.hid D
  have HD1 := Lib.hid D1
  have HD2 := Lib.hid D2
  have IB := Lib.hid b1
  have IB1 : Hid (InP ds) := fun p hp => b1 p (List.mem_append_left _ hp)
  have IB2 : Hid (InP es) := fun p hp => b1 p (List.mem_append_right _ hp)
  have L1 := Lib.hid l1
  have L2 := Lib.hid l2
  have KA : Hid (Kpt w (w.alloc (.cells #[.int .i64 W, v] 24))) := (Kpt.refl w).alloc _
  have BA : Hid (Blk (w.alloc (.cells #[.int .i64 W, v] 24)) w.heap.size #[.int .i64 W, v] 24) := Blk.made _ _ _
  have y : decide ((i : Int) < 0) = false := decide_eq_false (by omega)
  have y3 : decide ((n : Int) < (i : Int)) = false := decide_eq_false (by omega)
  have y4 : (i : Int) ≤ (n : Int) := by omega
  have y5 : (n : Int) ≤ (cap : Int) := by omega
  have y6 : (i : Int) ≤ (cap : Int) := by omega
  have y7 : i ≤ cap := by omega
  unfold maxLen at hm
  clear D D1 D2 b1 l1 l2
  unfold calV
  go_enter Try.func3, Try.ntmps3
  go_upto_region 8 with (first
    | (go_at_call 8; (with_reducible refine (HD.out.run _ KA.out).mono ?_); intro e w1 r; obtain ⟨dv, rfl, ho, hk⟩ := r.open; have K1 := Lib.hid (ktr KA.out hk.out); have B1 := Lib.hid (BA.out.kpt hk.out); have R1 := Lib.hid (OwnsT.reads ho.out IB.out); clear r hk ho)
    | (go_at_call 9; (with_reducible refine (penaltyBegun _).mono ?_); rintro e w2 ⟨rfl, k1⟩; have K2 := Lib.hid (ktr K1.out k1); have B2 := Lib.hid (B1.out.kpt k1); have R2 := Lib.hid (R1.out.kpt k1); clear k1))
  have c0 : w2.cell? ⟨w.heap.size, 0, none⟩ = some (.int .i64 W) := B2.out.cell 0
  have c1 : w2.cell? ⟨w.heap.size, 1, none⟩ = some v := B2.out.cell 1
  have KD2 : Hid (Kpt w w2.drew) := Below.drew (show Below w.heap.size w w2 from K2.out)
  have BD2 : Hid (Blk w2.drew w.heap.size #[.int .i64 W, v] 24) := B2.out.drew
  have RD2 : Hid (ReadsP w2.drew dv (ds ++ es)) := R2.out.kpt (show Kpt w2 w2.drew from Below.drew (Below.refl _ _))
  go_region_with (first
    | (go_at_call 8; (with_reducible refine ((HD1.out).run _ KD2.out).mono ?_); intro e w3 r; obtain ⟨d1, rfl, ho, hk⟩ := r.open; have K3 := Lib.hid (ktr KD2.out hk.out); have B3 := Lib.hid (BD2.out.kpt hk.out); have R3 := Lib.hid (RD2.out.kpt hk.out); have P3 := Lib.hid (OwnsT.reads ho.out IB1.out); clear r hk ho))
  all_goals
    go_upto_region 9 with fail
    have c2 : w3.cell? ⟨w.heap.size, 0, none⟩ = some (.int .i64 W) := B3.out.cell 0
    have c3 : w3.cell? ⟨w.heap.size, 1, none⟩ = some v := B3.out.cell 1
    have KD3 : Hid (Kpt w w3.drew) := Below.drew (show Below w.heap.size w w3 from K3.out)
    have KD4 : Hid (Kpt w3 w3.drew) := Below.drew (Below.refl _ _)
    have RD3 : Hid (ReadsP w3.drew dv (ds ++ es)) := R3.out.kpt KD4.out
    have PD3 : Hid (ReadsP w3.drew d1 ds) := P3.out.kpt KD4.out
    go_region_with (first
      | (go_at_call 8; (with_reducible refine ((HD2.out).run _ KD3.out).mono ?_); intro e w4 r; obtain ⟨d2, rfl, ho, hk⟩ := r.open; have K4 := Lib.hid (ktr KD3.out hk.out); have R4 := Lib.hid (RD3.out.kpt hk.out); have P4 := Lib.hid (PD3.out.kpt hk.out); have Q4 := Lib.hid (OwnsT.reads ho.out IB2.out); clear r hk ho))
    all_goals
      go_wp2_with (first
        | (at_builtin; refine wp_appendRG rfl (.tmp 73) (.tmp 74) rfl w4.heap.size _ _ [] ds _ rfl (OwnsT.empty _ w4 w4.heap.size (Nat.le_refl _)) rfl (P4.out.kpt ((Kpt.refl _).alloc _)) (by have := L1.out; simp; omega) (by simp) ?_; intro v5 w5 ho5 hb5; have O5 := Lib.hid ho5; have M5 : Hid (Kpt w4 w5) := Lib.hid (Below.trans ((Kpt.refl w4).alloc _) hb5); clear ho5 hb5)
        | (at_builtin; refine wp_appendRG rfl (.tmp 75) (.tmp 76) rfl w4.heap.size _ _ ([] ++ ds) es _ rfl O5.out rfl (Q4.out.kpt M5.out) (by have := L1.out; have := L2.out; simp; omega) M5.out.size ?_; intro v6 w6 ho6 hb6; have O6 := Lib.hid ho6; have M6 : Hid (Kpt w4 w6) := Lib.hid (Below.trans M5.out hb6); clear ho6 hb6)
        | (go_at_call 10; (with_reducible refine (sameD_any _ _ (ds ++ es) _ (R4.out.kpt M6.out) (OwnsT.reads O6.out IB.out)).mono ?_); rintro e w7 ⟨rfl, k1⟩; have K7 := Lib.hid (ktr K4.out (ktr M6.out k1)); clear k1))
      go_ret
      exact ⟨rfl, K7.out⟩
set_option maxRecDepth 100000 in
set_option maxHeartbeats 4000000 in
theorem peach_eq (W q : Int) (i g off : Nat) (hm : i ≤ maxLen) (v tv pv : Value) (w : World) (ds es : List (Int × Int × Int)) (b1 : InP (ds ++ es)) (l1 : ds.length ≤ 60) (l2 : es.length ≤ 60)
    (D : DayIs W q v tv (.slice (some ⟨g, off, none⟩) i i) pv w 0 (ds ++ es)) (D1 : DayIs W q v tv (.slice (some ⟨g, off, none⟩) i i) pv w 0 ds) (D2 : ∀ (b : Option Addr) (c : Nat), DayIs W q v tv (.slice b 0 c) pv w 0 es) :
    Calls Try.prog 3 #[calV W v, tv, .slice (some ⟨g, off, none⟩) i i, pv, .int .i64 q, .int .i64 i] w fun e w' => e = .returned (.bool true) ∧ Kpt w w' := by
  have HD := Lib.hid D
  have HD1 := Lib.hid D1
  have HD2 := Lib.hid D2
  have IB := Lib.hid b1
  have IB1 : Hid (InP ds) := fun p hp => b1 p (List.mem_append_left _ hp)
  have IB2 : Hid (InP es) := fun p hp => b1 p (List.mem_append_right _ hp)
  have L1 := Lib.hid l1
  have L2 := Lib.hid l2
  have KA : Hid (Kpt w (w.alloc (.cells #[.int .i64 W, v] 24))) := (Kpt.refl w).alloc _
  have BA : Hid (Blk (w.alloc (.cells #[.int .i64 W, v] 24)) w.heap.size #[.int .i64 W, v] 24) := Blk.made _ _ _
  have y : decide ((i : Int) < 0) = false := decide_eq_false (by omega)
  have y3 : decide ((i : Int) < (i : Int)) = false := decide_eq_false (by omega)
  unfold maxLen at hm
  clear D D1 D2 b1 l1 l2
  unfold calV
  go_enter Try.func3, Try.ntmps3
  go_upto_region 8 with (first
    | (go_at_call 8; (with_reducible refine (HD.out.run _ KA.out).mono ?_); intro e w1 r; obtain ⟨dv, rfl, ho, hk⟩ := r.open; have K1 := Lib.hid (ktr KA.out hk.out); have B1 := Lib.hid (BA.out.kpt hk.out); have R1 := Lib.hid (OwnsT.reads ho.out IB.out); clear r hk ho)
    | (go_at_call 9; (with_reducible refine (penaltyBegun _).mono ?_); rintro e w2 ⟨rfl, k1⟩; have K2 := Lib.hid (ktr K1.out k1); have B2 := Lib.hid (B1.out.kpt k1); have R2 := Lib.hid (R1.out.kpt k1); clear k1))
  have c0 : w2.cell? ⟨w.heap.size, 0, none⟩ = some (.int .i64 W) := B2.out.cell 0
  have c1 : w2.cell? ⟨w.heap.size, 1, none⟩ = some v := B2.out.cell 1
  have KD2 : Hid (Kpt w w2.drew) := Below.drew (show Below w.heap.size w w2 from K2.out)
  have BD2 : Hid (Blk w2.drew w.heap.size #[.int .i64 W, v] 24) := B2.out.drew
  have RD2 : Hid (ReadsP w2.drew dv (ds ++ es)) := R2.out.kpt (show Kpt w2 w2.drew from Below.drew (Below.refl _ _))
  go_region_with (first
    | (go_at_call 8; (with_reducible refine ((HD1.out).run _ KD2.out).mono ?_); intro e w3 r; obtain ⟨d1, rfl, ho, hk⟩ := r.open; have K3 := Lib.hid (ktr KD2.out hk.out); have B3 := Lib.hid (BD2.out.kpt hk.out); have R3 := Lib.hid (RD2.out.kpt hk.out); have P3 := Lib.hid (OwnsT.reads ho.out IB1.out); clear r hk ho))
  all_goals
    go_upto_region 9 with fail
    have c2 : w3.cell? ⟨w.heap.size, 0, none⟩ = some (.int .i64 W) := B3.out.cell 0
    have c3 : w3.cell? ⟨w.heap.size, 1, none⟩ = some v := B3.out.cell 1
    have KD3 : Hid (Kpt w w3.drew) := Below.drew (show Below w.heap.size w w3 from K3.out)
    have KD4 : Hid (Kpt w3 w3.drew) := Below.drew (Below.refl _ _)
    have RD3 : Hid (ReadsP w3.drew dv (ds ++ es)) := R3.out.kpt KD4.out
    have PD3 : Hid (ReadsP w3.drew d1 ds) := P3.out.kpt KD4.out
    go_region_with (first
      | (go_at_call 8; (with_reducible refine ((HD2.out _ _).run _ KD3.out).mono ?_); intro e w4 r; obtain ⟨d2, rfl, ho, hk⟩ := r.open; have K4 := Lib.hid (ktr KD3.out hk.out); have R4 := Lib.hid (RD3.out.kpt hk.out); have P4 := Lib.hid (PD3.out.kpt hk.out); have Q4 := Lib.hid (OwnsT.reads ho.out IB2.out); clear r hk ho))
    all_goals
      go_wp2_with (first
        | (at_builtin; refine wp_appendRG rfl (.tmp 73) (.tmp 74) rfl w4.heap.size _ _ [] ds _ rfl (OwnsT.empty _ w4 w4.heap.size (Nat.le_refl _)) rfl (P4.out.kpt ((Kpt.refl _).alloc _)) (by have := L1.out; simp; omega) (by simp) ?_; intro v5 w5 ho5 hb5; have O5 := Lib.hid ho5; have M5 : Hid (Kpt w4 w5) := Lib.hid (Below.trans ((Kpt.refl w4).alloc _) hb5); clear ho5 hb5)
        | (at_builtin; refine wp_appendRG rfl (.tmp 75) (.tmp 76) rfl w4.heap.size _ _ ([] ++ ds) es _ rfl O5.out rfl (Q4.out.kpt M5.out) (by have := L1.out; have := L2.out; simp; omega) M5.out.size ?_; intro v6 w6 ho6 hb6; have O6 := Lib.hid ho6; have M6 : Hid (Kpt w4 w6) := Lib.hid (Below.trans M5.out hb6); clear ho6 hb6)
        | (go_at_call 10; (with_reducible refine (sameD_any _ _ (ds ++ es) _ (R4.out.kpt M6.out) (OwnsT.reads O6.out IB.out)).mono ?_); rintro e w7 ⟨rfl, k1⟩; have K7 := Lib.hid (ktr K4.out (ktr M6.out k1)); clear k1))
      go_ret
      exact ⟨rfl, K7.out⟩
set_option maxRecDepth 100000 in
set_option maxHeartbeats 4000000 in
theorem peach_zs (W q : Int) (x : Addr) (cap : Nat) (hm : cap ≤ maxLen) (y8 : ¬ (cap = 0)) (v tv pv : Value) (w : World) (ds es : List (Int × Int × Int)) (b1 : InP (ds ++ es)) (l1 : ds.length ≤ 60) (l2 : es.length ≤ 60)
    (D : DayIs W q v tv (.slice (some x) 0 cap) pv w 0 (ds ++ es)) (D1 : ∀ (b : Option Addr) (c : Nat), DayIs W q v tv (.slice b 0 c) pv w 0 ds) (D2 : ∀ (b : Option Addr) (c : Nat), DayIs W q v tv (.slice b 0 c) pv w 0 es) :
    Calls Try.prog 3 #[calV W v, tv, .slice (some x) 0 cap, pv, .int .i64 q, .int .i64 0] w fun e w' => e = .returned (.bool true) ∧ Kpt w w' := by
  have HD := Lib.hid D
  have HD1 := Lib.hid D1
  have HD2 := Lib.hid D2
  have IB := Lib.hid b1
  have IB1 : Hid (InP ds) := fun p hp => b1 p (List.mem_append_left _ hp)
  have IB2 : Hid (InP es) := fun p hp => b1 p (List.mem_append_right _ hp)
  have L1 := Lib.hid l1
  have L2 := Lib.hid l2
  have KA : Hid (Kpt w (w.alloc (.cells #[.int .i64 W, v] 24))) := (Kpt.refl w).alloc _
  have BA : Hid (Blk (w.alloc (.cells #[.int .i64 W, v] 24)) w.heap.size #[.int .i64 W, v] 24) := Blk.made _ _ _
  unfold maxLen at hm
  clear D D1 D2 b1 l1 l2
  unfold calV
  go_enter Try.func3, Try.ntmps3
  go_upto_region 8 with (first
    | (go_at_call 8; (with_reducible refine (HD.out.run _ KA.out).mono ?_); intro e w1 r; obtain ⟨dv, rfl, ho, hk⟩ := r.open; have K1 := Lib.hid (ktr KA.out hk.out); have B1 := Lib.hid (BA.out.kpt hk.out); have R1 := Lib.hid (OwnsT.reads ho.out IB.out); clear r hk ho)
    | (go_at_call 9; (with_reducible refine (penaltyBegun _).mono ?_); rintro e w2 ⟨rfl, k1⟩; have K2 := Lib.hid (ktr K1.out k1); have B2 := Lib.hid (B1.out.kpt k1); have R2 := Lib.hid (R1.out.kpt k1); clear k1))
  have c0 : w2.cell? ⟨w.heap.size, 0, none⟩ = some (.int .i64 W) := B2.out.cell 0
  have c1 : w2.cell? ⟨w.heap.size, 1, none⟩ = some v := B2.out.cell 1
  have KD2 : Hid (Kpt w w2.drew) := Below.drew (show Below w.heap.size w w2 from K2.out)
  have BD2 : Hid (Blk w2.drew w.heap.size #[.int .i64 W, v] 24) := B2.out.drew
  have RD2 : Hid (ReadsP w2.drew dv (ds ++ es)) := R2.out.kpt (show Kpt w2 w2.drew from Below.drew (Below.refl _ _))
  go_region_with (first
    | (go_at_call 8; (with_reducible refine ((HD1.out _ _).run _ KD2.out).mono ?_); intro e w3 r; obtain ⟨d1, rfl, ho, hk⟩ := r.open; have K3 := Lib.hid (ktr KD2.out hk.out); have B3 := Lib.hid (BD2.out.kpt hk.out); have R3 := Lib.hid (RD2.out.kpt hk.out); have P3 := Lib.hid (OwnsT.reads ho.out IB1.out); clear r hk ho))
  all_goals
    go_upto_region 9 with fail
    have c2 : w3.cell? ⟨w.heap.size, 0, none⟩ = some (.int .i64 W) := B3.out.cell 0
    have c3 : w3.cell? ⟨w.heap.size, 1, none⟩ = some v := B3.out.cell 1
    have KD3 : Hid (Kpt w w3.drew) := Below.drew (show Below w.heap.size w w3 from K3.out)
    have KD4 : Hid (Kpt w3 w3.drew) := Below.drew (Below.refl _ _)
    have RD3 : Hid (ReadsP w3.drew dv (ds ++ es)) := R3.out.kpt KD4.out
    have PD3 : Hid (ReadsP w3.drew d1 ds) := P3.out.kpt KD4.out
    go_region_with (first
      | (go_at_call 8; (with_reducible refine ((HD2.out _ _).run _ KD3.out).mono ?_); intro e w4 r; obtain ⟨d2, rfl, ho, hk⟩ := r.open; have K4 := Lib.hid (ktr KD3.out hk.out); have R4 := Lib.hid (RD3.out.kpt hk.out); have P4 := Lib.hid (PD3.out.kpt hk.out); have Q4 := Lib.hid (OwnsT.reads ho.out IB2.out); clear r hk ho))
    all_goals
      go_wp2_with (first
        | (at_builtin; refine wp_appendRG rfl (.tmp 73) (.tmp 74) rfl w4.heap.size _ _ [] ds _ rfl (OwnsT.empty _ w4 w4.heap.size (Nat.le_refl _)) rfl (P4.out.kpt ((Kpt.refl _).alloc _)) (by have := L1.out; simp; omega) (by simp) ?_; intro v5 w5 ho5 hb5; have O5 := Lib.hid ho5; have M5 : Hid (Kpt w4 w5) := Lib.hid (Below.trans ((Kpt.refl w4).alloc _) hb5); clear ho5 hb5)
        | (at_builtin; refine wp_appendRG rfl (.tmp 75) (.tmp 76) rfl w4.heap.size _ _ ([] ++ ds) es _ rfl O5.out rfl (Q4.out.kpt M5.out) (by have := L1.out; have := L2.out; simp; omega) M5.out.size ?_; intro v6 w6 ho6 hb6; have O6 := Lib.hid ho6; have M6 : Hid (Kpt w4 w6) := Lib.hid (Below.trans M5.out hb6); clear ho6 hb6)
        | (go_at_call 10; (with_reducible refine (sameD_any _ _ (ds ++ es) _ (R4.out.kpt M6.out) (OwnsT.reads O6.out IB.out)).mono ?_); rintro e w7 ⟨rfl, k1⟩; have K7 := Lib.hid (ktr K4.out (ktr M6.out k1)); clear k1))
      go_ret
      exact ⟨rfl, K7.out⟩
set_option maxRecDepth 100000 in
set_option maxHeartbeats 4000000 in
theorem peach_zz (W q : Int) (x : Addr) (v tv pv : Value) (w : World) (ds es : List (Int × Int × Int)) (b1 : InP (ds ++ es)) (l1 : ds.length ≤ 60) (l2 : es.length ≤ 60)
    (D : DayIs W q v tv (.slice (some x) 0 0) pv w 0 (ds ++ es)) (D1 : ∀ (b : Option Addr) (c : Nat), DayIs W q v tv (.slice b 0 c) pv w 0 ds) (D2 : ∀ (b : Option Addr) (c : Nat), DayIs W q v tv (.slice b 0 c) pv w 0 es) :
    Calls Try.prog 3 #[calV W v, tv, .slice (some x) 0 0, pv, .int .i64 q, .int .i64 0] w fun e w' => e = .returned (.bool true) ∧ Kpt w w' := by
  have HD := Lib.hid D
  have HD1 := Lib.hid D1
  have HD2 := Lib.hid D2
  have IB := Lib.hid b1
  have IB1 : Hid (InP ds) := fun p hp => b1 p (List.mem_append_left _ hp)
  have IB2 : Hid (InP es) := fun p hp => b1 p (List.mem_append_right _ hp)
  have L1 := Lib.hid l1
  have L2 := Lib.hid l2
  have KA : Hid (Kpt w (w.alloc (.cells #[.int .i64 W, v] 24))) := (Kpt.refl w).alloc _
  have BA : Hid (Blk (w.alloc (.cells #[.int .i64 W, v] 24)) w.heap.size #[.int .i64 W, v] 24) := Blk.made _ _ _
  clear D D1 D2 b1 l1 l2
  unfold calV
  go_enter Try.func3, Try.ntmps3
  go_upto_region 8 with (first
    | (go_at_call 8; (with_reducible refine (HD.out.run _ KA.out).mono ?_); intro e w1 r; obtain ⟨dv, rfl, ho, hk⟩ := r.open; have K1 := Lib.hid (ktr KA.out hk.out); have B1 := Lib.hid (BA.out.kpt hk.out); have R1 := Lib.hid (OwnsT.reads ho.out IB.out); clear r hk ho)
    | (go_at_call 9; (with_reducible refine (penaltyBegun _).mono ?_); rintro e w2 ⟨rfl, k1⟩; have K2 := Lib.hid (ktr K1.out k1); have B2 := Lib.hid (B1.out.kpt k1); have R2 := Lib.hid (R1.out.kpt k1); clear k1))
  have c0 : w2.cell? ⟨w.heap.size, 0, none⟩ = some (.int .i64 W) := B2.out.cell 0
  have c1 : w2.cell? ⟨w.heap.size, 1, none⟩ = some v := B2.out.cell 1
  have KD2 : Hid (Kpt w w2.drew) := Below.drew (show Below w.heap.size w w2 from K2.out)
  have BD2 : Hid (Blk w2.drew w.heap.size #[.int .i64 W, v] 24) := B2.out.drew
  have RD2 : Hid (ReadsP w2.drew dv (ds ++ es)) := R2.out.kpt (show Kpt w2 w2.drew from Below.drew (Below.refl _ _))
  go_region_with (first
    | (go_at_call 8; (with_reducible refine ((HD1.out _ _).run _ KD2.out).mono ?_); intro e w3 r; obtain ⟨d1, rfl, ho, hk⟩ := r.open; have K3 := Lib.hid (ktr KD2.out hk.out); have B3 := Lib.hid (BD2.out.kpt hk.out); have R3 := Lib.hid (RD2.out.kpt hk.out); have P3 := Lib.hid (OwnsT.reads ho.out IB1.out); clear r hk ho))
  all_goals
    go_upto_region 9 with fail
    have c2 : w3.cell? ⟨w.heap.size, 0, none⟩ = some (.int .i64 W) := B3.out.cell 0
    have c3 : w3.cell? ⟨w.heap.size, 1, none⟩ = some v := B3.out.cell 1
    have KD3 : Hid (Kpt w w3.drew) := Below.drew (show Below w.heap.size w w3 from K3.out)
    have KD4 : Hid (Kpt w3 w3.drew) := Below.drew (Below.refl _ _)
    have RD3 : Hid (ReadsP w3.drew dv (ds ++ es)) := R3.out.kpt KD4.out
    have PD3 : Hid (ReadsP w3.drew d1 ds) := P3.out.kpt KD4.out
    go_region_with (first
      | (go_at_call 8; (with_reducible refine ((HD2.out _ _).run _ KD3.out).mono ?_); intro e w4 r; obtain ⟨d2, rfl, ho, hk⟩ := r.open; have K4 := Lib.hid (ktr KD3.out hk.out); have R4 := Lib.hid (RD3.out.kpt hk.out); have P4 := Lib.hid (PD3.out.kpt hk.out); have Q4 := Lib.hid (OwnsT.reads ho.out IB2.out); clear r hk ho))
    all_goals
      go_wp2_with (first
        | (at_builtin; refine wp_appendRG rfl (.tmp 73) (.tmp 74) rfl w4.heap.size _ _ [] ds _ rfl (OwnsT.empty _ w4 w4.heap.size (Nat.le_refl _)) rfl (P4.out.kpt ((Kpt.refl _).alloc _)) (by have := L1.out; simp; omega) (by simp) ?_; intro v5 w5 ho5 hb5; have O5 := Lib.hid ho5; have M5 : Hid (Kpt w4 w5) := Lib.hid (Below.trans ((Kpt.refl w4).alloc _) hb5); clear ho5 hb5)
        | (at_builtin; refine wp_appendRG rfl (.tmp 75) (.tmp 76) rfl w4.heap.size _ _ ([] ++ ds) es _ rfl O5.out rfl (Q4.out.kpt M5.out) (by have := L1.out; have := L2.out; simp; omega) M5.out.size ?_; intro v6 w6 ho6 hb6; have O6 := Lib.hid ho6; have M6 : Hid (Kpt w4 w6) := Lib.hid (Below.trans M5.out hb6); clear ho6 hb6)
        | (go_at_call 10; (with_reducible refine (sameD_any _ _ (ds ++ es) _ (R4.out.kpt M6.out) (OwnsT.reads O6.out IB.out)).mono ?_); rintro e w7 ⟨rfl, k1⟩; have K7 := Lib.hid (ktr K4.out (ktr M6.out k1)); clear k1))
      go_ret
      exact ⟨rfl, K7.out⟩
set_option maxRecDepth 100000 in
set_option maxHeartbeats 4000000 in
theorem peach_zn (W q : Int) (cap : Nat) (hm : cap ≤ maxLen) (v tv pv : Value) (w : World) (ds es : List (Int × Int × Int)) (b1 : InP (ds ++ es)) (l1 : ds.length ≤ 60) (l2 : es.length ≤ 60)
    (D : DayIs W q v tv (.slice none 0 cap) pv w 0 (ds ++ es)) (D1 : ∀ (b : Option Addr) (c : Nat), DayIs W q v tv (.slice b 0 c) pv w 0 ds) (D2 : ∀ (b : Option Addr) (c : Nat), DayIs W q v tv (.slice b 0 c) pv w 0 es) :
    Calls Try.prog 3 #[calV W v, tv, .slice none 0 cap, pv, .int .i64 q, .int .i64 0] w fun e w' => e = .returned (.bool true) ∧ Kpt w w' := by
  have HD := Lib.hid D
  have HD1 := Lib.hid D1
  have HD2 := Lib.hid D2
  have IB := Lib.hid b1
  have IB1 : Hid (InP ds) := fun p hp => b1 p (List.mem_append_left _ hp)
  have IB2 : Hid (InP es) := fun p hp => b1 p (List.mem_append_right _ hp)
  have L1 := Lib.hid l1
  have L2 := Lib.hid l2
  have KA : Hid (Kpt w (w.alloc (.cells #[.int .i64 W, v] 24))) := (Kpt.refl w).alloc _
  have BA : Hid (Blk (w.alloc (.cells #[.int .i64 W, v] 24)) w.heap.size #[.int .i64 W, v] 24) := Blk.made _ _ _
  unfold maxLen at hm
  clear D D1 D2 b1 l1 l2
  unfold calV
  go_enter Try.func3, Try.ntmps3
  go_upto_region 8 with (first
    | (go_at_call 8; (with_reducible refine (HD.out.run _ KA.out).mono ?_); intro e w1 r; obtain ⟨dv, rfl, ho, hk⟩ := r.open; have K1 := Lib.hid (ktr KA.out hk.out); have B1 := Lib.hid (BA.out.kpt hk.out); have R1 := Lib.hid (OwnsT.reads ho.out IB.out); clear r hk ho)
    | (go_at_call 9; (with_reducible refine (penaltyBegun _).mono ?_); rintro e w2 ⟨rfl, k1⟩; have K2 := Lib.hid (ktr K1.out k1); have B2 := Lib.hid (B1.out.kpt k1); have R2 := Lib.hid (R1.out.kpt k1); clear k1))
  have c0 : w2.cell? ⟨w.heap.size, 0, none⟩ = some (.int .i64 W) := B2.out.cell 0
  have c1 : w2.cell? ⟨w.heap.size, 1, none⟩ = some v := B2.out.cell 1
  have KD2 : Hid (Kpt w w2.drew) := Below.drew (show Below w.heap.size w w2 from K2.out)
  have BD2 : Hid (Blk w2.drew w.heap.size #[.int .i64 W, v] 24) := B2.out.drew
  have RD2 : Hid (ReadsP w2.drew dv (ds ++ es)) := R2.out.kpt (show Kpt w2 w2.drew from Below.drew (Below.refl _ _))
  go_region_with (first
    | (go_at_call 8; (with_reducible refine ((HD1.out _ _).run _ KD2.out).mono ?_); intro e w3 r; obtain ⟨d1, rfl, ho, hk⟩ := r.open; have K3 := Lib.hid (ktr KD2.out hk.out); have B3 := Lib.hid (BD2.out.kpt hk.out); have R3 := Lib.hid (RD2.out.kpt hk.out); have P3 := Lib.hid (OwnsT.reads ho.out IB1.out); clear r hk ho))
  all_goals
    go_upto_region 9 with fail
    have c2 : w3.cell? ⟨w.heap.size, 0, none⟩ = some (.int .i64 W) := B3.out.cell 0
    have c3 : w3.cell? ⟨w.heap.size, 1, none⟩ = some v := B3.out.cell 1
    have KD3 : Hid (Kpt w w3.drew) := Below.drew (show Below w.heap.size w w3 from K3.out)
    have KD4 : Hid (Kpt w3 w3.drew) := Below.drew (Below.refl _ _)
    have RD3 : Hid (ReadsP w3.drew dv (ds ++ es)) := R3.out.kpt KD4.out
    have PD3 : Hid (ReadsP w3.drew d1 ds) := P3.out.kpt KD4.out
    go_region_with (first
      | (go_at_call 8; (with_reducible refine ((HD2.out _ _).run _ KD3.out).mono ?_); intro e w4 r; obtain ⟨d2, rfl, ho, hk⟩ := r.open; have K4 := Lib.hid (ktr KD3.out hk.out); have R4 := Lib.hid (RD3.out.kpt hk.out); have P4 := Lib.hid (PD3.out.kpt hk.out); have Q4 := Lib.hid (OwnsT.reads ho.out IB2.out); clear r hk ho))
    all_goals
      go_wp2_with (first
        | (at_builtin; refine wp_appendRG rfl (.tmp 73) (.tmp 74) rfl w4.heap.size _ _ [] ds _ rfl (OwnsT.empty _ w4 w4.heap.size (Nat.le_refl _)) rfl (P4.out.kpt ((Kpt.refl _).alloc _)) (by have := L1.out; simp; omega) (by simp) ?_; intro v5 w5 ho5 hb5; have O5 := Lib.hid ho5; have M5 : Hid (Kpt w4 w5) := Lib.hid (Below.trans ((Kpt.refl w4).alloc _) hb5); clear ho5 hb5)
        | (at_builtin; refine wp_appendRG rfl (.tmp 75) (.tmp 76) rfl w4.heap.size _ _ ([] ++ ds) es _ rfl O5.out rfl (Q4.out.kpt M5.out) (by have := L1.out; have := L2.out; simp; omega) M5.out.size ?_; intro v6 w6 ho6 hb6; have O6 := Lib.hid ho6; have M6 : Hid (Kpt w4 w6) := Lib.hid (Below.trans M5.out hb6); clear ho6 hb6)
        | (go_at_call 10; (with_reducible refine (sameD_any _ _ (ds ++ es) _ (R4.out.kpt M6.out) (OwnsT.reads O6.out IB.out)).mono ?_); rintro e w7 ⟨rfl, k1⟩; have K7 := Lib.hid (ktr K4.out (ktr M6.out k1)); clear k1))
      go_ret
      exact ⟨rfl, K7.out⟩

theorem peach_plain (W : Int) (tv lv pv : Value) (q at' : Int) (v : Value) (hs : List Int) (ts fs : List (List Int)) (ps : List Int) (w : World) (hr : Reads w v hs) (hf : Fits hs) (ht : ReadsT w tv ts) (_ : ∃ a n cap, tv = .slice a n cap ∧ n ≤ cap ∧ cap ≤ maxLen) (hl : ReadsF w lv fs) (hc : ∃ a n cap, lv = .slice a n cap ∧ n ≤ cap ∧ cap ≤ maxLen) (hp : Reads w pv ps) (_ : ∃ a n cap, pv = .slice a n cap ∧ n ≤ cap ∧ cap ≤ maxLen) :
    Calls Try.prog 3 #[calV W v, tv, lv, pv, .int .i64 q, .int .i64 at'] w fun e w' => e = .returned (.bool true) ∧ Kpt w w' := by
  have D : ∀ fv gs, ReadsF w fv gs → DayIs W q v tv fv pv w (dayE W hs ts gs ps q) (dayD W hs ts gs ps q) := fun fv gs h w' k => day_any W q v tv fv pv hs ts gs ps w' (hr.kpt k) hf (ht.kpt k) (h.kpt k) (hp.kpt k)
  by_cases hE : dayE W hs ts fs ps q = 0
  · have D0 := D lv fs hl
    rw [hE] at D0
    have l60 := (dayD_len hE).2
    obtain ⟨a, n, cap, rfl, hc1, hc2⟩ := hc
    obtain rfl : n = fs.length := by obtain ⟨a', cap', e, -⟩ := hl; injection e
    by_cases hA : at' < 0 ∨ (fs.length : Int) < at'
    · exact peach_far W q at' v tv pv a _ cap w _ l60 hA D0
    · obtain ⟨i, rfl⟩ : ∃ i : Nat, at' = (i : Int) := ⟨at'.toNat, by omega⟩
      have hi : i ≤ fs.length := by omega
      obtain ⟨e1, e2, e3⟩ := day_parts hE i
      have hin : InP (dayD W hs ts (fs.take i) ps q ++ dayD W hs ts (fs.drop i) ps q) := by rw [← e3]; exact dayD_inp
      have n1 : (dayD W hs ts (fs.take i) ps q).length ≤ 60 := by
        have := (dayD_len e1).1; have : (fs.take i).length ≤ fs.length := by rw [List.length_take]; omega
        omega
      have n2 : (dayD W hs ts (fs.drop i) ps q).length ≤ 60 := by
        have := (dayD_len e2).1; have : (fs.drop i).length ≤ fs.length := by rw [List.length_drop]; omega
        omega
      rw [e3] at D0
      have Z2 : i = fs.length → ∀ (b : Option Addr) (c : Nat), DayIs W q v tv (.slice b 0 c) pv w 0 (dayD W hs ts (fs.drop i) ps q) := fun h b c => by
        have hd : fs.drop i = [] := by rw [h]; exact List.drop_length
        have := D (.slice b 0 c) [] (readsF_nil w b c)
        rw [hd] at e2 ⊢
        rwa [e2] at this
      by_cases hz : fs.length = 0
      · obtain rfl : i = 0 := by omega
        have Z1 : ∀ (b : Option Addr) (c : Nat), DayIs W q v tv (.slice b 0 c) pv w 0 (dayD W hs ts (fs.take 0) ps q) := fun b c => by
          have := D (.slice b 0 c) [] (readsF_nil w b c)
          rw [List.take_zero] at e1 ⊢
          rwa [e1] at this
        have Z2 := Z2 hz.symm
        rw [hz] at D0 ⊢
        cases a with
        | none => exact peach_zn W q cap hc2 v tv pv w _ _ hin n1 n2 D0 Z1 Z2
        | some x =>
          by_cases h0 : cap = 0
          · subst h0; exact peach_zz W q x v tv pv w _ _ hin n1 n2 D0 Z1 Z2
          · exact peach_zs W q x cap hc2 h0 v tv pv w _ _ hin n1 n2 D0 Z1 Z2
      · obtain ⟨g, off, rfl⟩ : ∃ g off, a = some ⟨g, off, none⟩ := by
          obtain ⟨a', cap', e, -, -, hq⟩ := id hl
          injection e with ea
          obtain ⟨g, off, e', -⟩ := hq 0 (by omega)
          exact ⟨g, off, by rw [ea, e']⟩
        have D1 := D _ _ (hl.take i hi)
        rw [e1] at D1
        by_cases h8 : cap = i
        · subst h8
          obtain rfl : cap = fs.length := by omega
          exact peach_eq W q fs.length g off hc2 v tv pv w _ _ hin n1 n2 D0 D1 (Z2 rfl)
        · have D2 := D _ _ (hl.drop i hi)
          rw [e2] at D2
          exact peach_ne W q i g off _ cap l60 hc1 hc2 hi h8 v tv pv w _ _ hin n1 n2 D0 D1 D2
  · have D0 := D lv fs hl
    rw [show dayD W hs ts fs ps q = [] from if_neg hE] at D0
    exact peach_no W q at' v tv lv pv w _ hE D0

end Go.Proofs.Ytmoanndonfmihaa
