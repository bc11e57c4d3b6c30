/-
  Merged: RefAge.
-/
import Derived.Test.YtgccipmeiceonaaMp19
import Derived.Test.YtgccipmeiceonaaMp22
-- RefAge
namespace Go.Proofs.Ytgccipmeiceonaa
open Go.RowKit
set_option linter.unusedVariables false

theorem rtc_0 (te tb td tr : Int) (Y0 : btw 0 100 te = false) (w : World) :
    Calls Try.prog 112 #[.agg #[.int .i64 te, .int .i64 tb, .int .i64 td, .int .i64 tr]] w fun z w' => z = .returned (.int .i64 3) ∧ Kpt w w' := by
  go_enter Try.func112, Try.ntmps112
  go_wp2_with (first
    | (go_at_call 61; (with_reducible refine (rbt_any _ _ _ _ Y0 _).mono ?_); rintro z w9 ⟨rfl, rfl⟩))
  go_ret
  exact ⟨rfl, (Kpt.refl w).alloc _⟩

theorem rtc_1 (te tb td tr : Int) (Y0 : btw 0 100 te = true) (Y1 : btw 0 100 tb = false) (w : World) :
    Calls Try.prog 112 #[.agg #[.int .i64 te, .int .i64 tb, .int .i64 td, .int .i64 tr]] w fun z w' => z = .returned (.int .i64 3) ∧ Kpt w w' := by
  go_enter Try.func112, Try.ntmps112
  go_wp2_with (first
    | (go_at_call 61; (with_reducible refine (rbt_any _ _ _ _ Y0 _).mono ?_); rintro z w9 ⟨rfl, rfl⟩)
    | (go_at_call 61; (with_reducible refine (rbt_any _ _ _ _ Y1 _).mono ?_); rintro z w9 ⟨rfl, rfl⟩))
  go_ret
  exact ⟨rfl, (Kpt.refl w).alloc _⟩

theorem rtc_2 (te tb td tr : Int) (Y0 : btw 0 100 te = true) (Y1 : btw 0 100 tb = true) (Y2 : btw 0 100 td = false) (w : World) :
    Calls Try.prog 112 #[.agg #[.int .i64 te, .int .i64 tb, .int .i64 td, .int .i64 tr]] w fun z w' => z = .returned (.int .i64 3) ∧ Kpt w w' := by
  go_enter Try.func112, Try.ntmps112
  go_wp2_with (first
    | (go_at_call 61; (with_reducible refine (rbt_any _ _ _ _ Y0 _).mono ?_); rintro z w9 ⟨rfl, rfl⟩)
    | (go_at_call 61; (with_reducible refine (rbt_any _ _ _ _ Y1 _).mono ?_); rintro z w9 ⟨rfl, rfl⟩)
    | (go_at_call 61; (with_reducible refine (rbt_any _ _ _ _ Y2 _).mono ?_); rintro z w9 ⟨rfl, rfl⟩))
  go_ret
  exact ⟨rfl, (Kpt.refl w).alloc _⟩

theorem rtc_3 (te tb td tr : Int) (Y0 : btw 0 100 te = true) (Y1 : btw 0 100 tb = true) (Y2 : btw 0 100 td = true) (Y3 : btw 0 1000000 tr = false) (w : World) :
    Calls Try.prog 112 #[.agg #[.int .i64 te, .int .i64 tb, .int .i64 td, .int .i64 tr]] w fun z w' => z = .returned (.int .i64 3) ∧ Kpt w w' := by
  go_enter Try.func112, Try.ntmps112
  go_wp2_with (first
    | (go_at_call 61; (with_reducible refine (rbt_any _ _ _ _ Y0 _).mono ?_); rintro z w9 ⟨rfl, rfl⟩)
    | (go_at_call 61; (with_reducible refine (rbt_any _ _ _ _ Y1 _).mono ?_); rintro z w9 ⟨rfl, rfl⟩)
    | (go_at_call 61; (with_reducible refine (rbt_any _ _ _ _ Y2 _).mono ?_); rintro z w9 ⟨rfl, rfl⟩)
    | (go_at_call 61; (with_reducible refine (rbt_any _ _ _ _ Y3 _).mono ?_); rintro z w9 ⟨rfl, rfl⟩))
  go_ret
  exact ⟨rfl, (Kpt.refl w).alloc _⟩

theorem rtc_4 (te tb td tr : Int) (Y0 : btw 0 100 te = true) (Y1 : btw 0 100 tb = true) (Y2 : btw 0 100 td = true) (Y3 : btw 0 1000000 tr = true) (w : World) :
    Calls Try.prog 112 #[.agg #[.int .i64 te, .int .i64 tb, .int .i64 td, .int .i64 tr]] w fun z w' => z = .returned (.int .i64 0) ∧ Kpt w w' := by
  go_enter Try.func112, Try.ntmps112
  go_wp2_with (first
    | (go_at_call 61; (with_reducible refine (rbt_any _ _ _ _ Y0 _).mono ?_); rintro z w9 ⟨rfl, rfl⟩)
    | (go_at_call 61; (with_reducible refine (rbt_any _ _ _ _ Y1 _).mono ?_); rintro z w9 ⟨rfl, rfl⟩)
    | (go_at_call 61; (with_reducible refine (rbt_any _ _ _ _ Y2 _).mono ?_); rintro z w9 ⟨rfl, rfl⟩)
    | (go_at_call 61; (with_reducible refine (rbt_any _ _ _ _ Y3 _).mono ?_); rintro z w9 ⟨rfl, rfl⟩))
  go_ret
  exact ⟨rfl, (Kpt.refl w).alloc _⟩

theorem rtc_run (te tb td tr : Int) (w : World) :
    Calls Try.prog 112 #[.agg #[.int .i64 te, .int .i64 tb, .int .i64 td, .int .i64 tr]] w fun z w' => z = .returned (.int .i64 (termE te tb td tr)) ∧ Kpt w w' := by
  cases Y0 : btw 0 100 te with
  | false =>
    have hn : termE te tb td tr = 3 := by
      rcases term_bd te tb td tr with h | h
      · have := term_0 h; have := btw_f Y0; omega
      · exact h
    rw [hn]; exact rtc_0 te tb td tr Y0 w
  | true =>
    cases Y1 : btw 0 100 tb with
    | false =>
      have hn : termE te tb td tr = 3 := by
        rcases term_bd te tb td tr with h | h
        · have := term_0 h; have := btw_f Y1; omega
        · exact h
      rw [hn]; exact rtc_1 te tb td tr Y0 Y1 w
    | true =>
      cases Y2 : btw 0 100 td with
      | false =>
        have hn : termE te tb td tr = 3 := by
          rcases term_bd te tb td tr with h | h
          · have := term_0 h; have := btw_f Y2; omega
          · exact h
        rw [hn]; exact rtc_2 te tb td tr Y0 Y1 Y2 w
      | true =>
        cases Y3 : btw 0 1000000 tr with
        | false =>
          have hn : termE te tb td tr = 3 := by
            rcases term_bd te tb td tr with h | h
            · have := term_0 h; have := btw_f Y3; omega
            · exact h
          rw [hn]; exact rtc_3 te tb td tr Y0 Y1 Y2 Y3 w
        | true =>
          rw [term_mk (btw_t Y0) (btw_t Y1) (btw_t Y2) (btw_t Y3)]; exact rtc_4 te tb td tr Y0 Y1 Y2 Y3 w

set_option maxRecDepth 100000 in
set_option maxHeartbeats 4000000 in
theorem rad_0 (W te tb td tr n g1 g2 g3 : Int) (v : Value) (hs : List Int) (w : World) (hr : Reads w v hs) (S0 : (∀ w' : World, Kpt w w' → Calls Try.prog 135 #[calV W v, .int .i64 n, .int .i64 te] w' fun z w'' => z = .returned (.int .i64 (-1)) ∧ Kpt w' w'')) :
    Calls Try.prog 113 #[calV W v, .agg #[.int .i64 te, .int .i64 tb, .int .i64 td, .int .i64 tr], .int .i64 n] w fun z w' => z = .returned (.tuple #[.int .i64 (-1), .int .i64 (-1), .int .i64 (-1)]) ∧ Kpt w w' := by
  have S0 := Lib.hid S0
  have K0 : Hid (Kpt w ((w.alloc (.cells #[.int .i64 W, v] 24)).alloc (.cells #[.int .i64 te, .int .i64 tb, .int .i64 td, .int .i64 tr] 78))) := ((Kpt.refl w).alloc _).alloc _
  have BC : Hid (Blk ((w.alloc (.cells #[.int .i64 W, v] 24)).alloc (.cells #[.int .i64 te, .int .i64 tb, .int .i64 td, .int .i64 tr] 78)) w.heap.size #[.int .i64 W, v] 24) := (Blk.made w _ _).alloc _
  have BT : Hid (Blk ((w.alloc (.cells #[.int .i64 W, v] 24)).alloc (.cells #[.int .i64 te, .int .i64 tb, .int .i64 td, .int .i64 tr] 78)) (w.heap.size + 1) #[.int .i64 te, .int .i64 tb, .int .i64 td, .int .i64 tr] 78) := by
    have := (Blk.made (w.alloc (.cells #[.int .i64 W, v] 24)) #[.int .i64 te, .int .i64 tb, .int .i64 td, .int .i64 tr] 78)
    unfold Hid; simpa using this
  obtain ⟨a, cap, rfl, -⟩ := hr
  unfold calV at *
  go_enter Try.func113, Try.ntmps113
  go_wp2_with (first
    | (go_at_call 135; (with_reducible refine (S0.out _ K0.out).mono ?_); rintro z q1 ⟨rfl, k1⟩; have K1 : Hid (Kpt w q1) := ktr K0.out k1; have BC := Lib.hid (BC.out.kpt k1); have BT := Lib.hid (BT.out.kpt k1); have a0 : World.cell? q1 ⟨w.heap.size, 0, none⟩ = some (.int .i64 W) := BC.out.cell 0; have a1 : World.cell? q1 ⟨w.heap.size, 1, none⟩ = some (.slice a hs.length cap) := BC.out.cell 1; have c0 : World.cell? q1 ⟨(w.heap.size + 1), 0, none⟩ = some (.int .i64 te) := BT.out.cell 0; have c1 : World.cell? q1 ⟨(w.heap.size + 1), 1, none⟩ = some (.int .i64 tb) := BT.out.cell 1; have c2 : World.cell? q1 ⟨(w.heap.size + 1), 2, none⟩ = some (.int .i64 td) := BT.out.cell 2; have c3 : World.cell? q1 ⟨(w.heap.size + 1), 3, none⟩ = some (.int .i64 tr) := BT.out.cell 3; clear k1))
  exact bodyPost_ret (v := .tuple #[.int .i64 (-1), .int .i64 (-1), .int .i64 (-1)]) (by simp [results, Try.results113, go_sem]) rfl ⟨rfl, K1.out⟩

set_option maxRecDepth 100000 in
set_option maxHeartbeats 4000000 in
theorem rad_1 (W te tb td tr n g1 g2 g3 : Int) (v : Value) (hs : List Int) (w : World) (hr : Reads w v hs) (S0 : (∀ w' : World, Kpt w w' → Calls Try.prog 135 #[calV W v, .int .i64 n, .int .i64 te] w' fun z w'' => z = .returned (.int .i64 g1) ∧ Kpt w' w'')) (z0 : decide (g1 < 0) = false) (y0 : ¬ g1 < 0) (S1 : (∀ w' : World, Kpt w w' → Calls Try.prog 135 #[calV W v, .int .i64 g1, .int .i64 tb] w' fun z w'' => z = .returned (.int .i64 (-1)) ∧ Kpt w' w'')) :
    Calls Try.prog 113 #[calV W v, .agg #[.int .i64 te, .int .i64 tb, .int .i64 td, .int .i64 tr], .int .i64 n] w fun z w' => z = .returned (.tuple #[.int .i64 (-1), .int .i64 (-1), .int .i64 (-1)]) ∧ Kpt w w' := by
  have S0 := Lib.hid S0
  have S1 := Lib.hid S1
  have K0 : Hid (Kpt w ((w.alloc (.cells #[.int .i64 W, v] 24)).alloc (.cells #[.int .i64 te, .int .i64 tb, .int .i64 td, .int .i64 tr] 78))) := ((Kpt.refl w).alloc _).alloc _
  have BC : Hid (Blk ((w.alloc (.cells #[.int .i64 W, v] 24)).alloc (.cells #[.int .i64 te, .int .i64 tb, .int .i64 td, .int .i64 tr] 78)) w.heap.size #[.int .i64 W, v] 24) := (Blk.made w _ _).alloc _
  have BT : Hid (Blk ((w.alloc (.cells #[.int .i64 W, v] 24)).alloc (.cells #[.int .i64 te, .int .i64 tb, .int .i64 td, .int .i64 tr] 78)) (w.heap.size + 1) #[.int .i64 te, .int .i64 tb, .int .i64 td, .int .i64 tr] 78) := by
    have := (Blk.made (w.alloc (.cells #[.int .i64 W, v] 24)) #[.int .i64 te, .int .i64 tb, .int .i64 td, .int .i64 tr] 78)
    unfold Hid; simpa using this
  obtain ⟨a, cap, rfl, -⟩ := hr
  unfold calV at *
  go_enter Try.func113, Try.ntmps113
  go_wp2_with (first
    | (go_at_call 135; (with_reducible refine (S0.out _ K0.out).mono ?_); rintro z q1 ⟨rfl, k1⟩; have K1 : Hid (Kpt w q1) := ktr K0.out k1; have BC := Lib.hid (BC.out.kpt k1); have BT := Lib.hid (BT.out.kpt k1); have a0 : World.cell? q1 ⟨w.heap.size, 0, none⟩ = some (.int .i64 W) := BC.out.cell 0; have a1 : World.cell? q1 ⟨w.heap.size, 1, none⟩ = some (.slice a hs.length cap) := BC.out.cell 1; have c0 : World.cell? q1 ⟨(w.heap.size + 1), 0, none⟩ = some (.int .i64 te) := BT.out.cell 0; have c1 : World.cell? q1 ⟨(w.heap.size + 1), 1, none⟩ = some (.int .i64 tb) := BT.out.cell 1; have c2 : World.cell? q1 ⟨(w.heap.size + 1), 2, none⟩ = some (.int .i64 td) := BT.out.cell 2; have c3 : World.cell? q1 ⟨(w.heap.size + 1), 3, none⟩ = some (.int .i64 tr) := BT.out.cell 3; clear k1)
    | (go_at_call 135; (with_reducible refine (S1.out _ K1.out).mono ?_); rintro z q2 ⟨rfl, k1⟩; have K2 : Hid (Kpt w q2) := ktr K1.out k1; have BC := Lib.hid (BC.out.kpt k1); have BT := Lib.hid (BT.out.kpt k1); have a0 : World.cell? q2 ⟨w.heap.size, 0, none⟩ = some (.int .i64 W) := BC.out.cell 0; have a1 : World.cell? q2 ⟨w.heap.size, 1, none⟩ = some (.slice a hs.length cap) := BC.out.cell 1; have c0 : World.cell? q2 ⟨(w.heap.size + 1), 0, none⟩ = some (.int .i64 te) := BT.out.cell 0; have c1 : World.cell? q2 ⟨(w.heap.size + 1), 1, none⟩ = some (.int .i64 tb) := BT.out.cell 1; have c2 : World.cell? q2 ⟨(w.heap.size + 1), 2, none⟩ = some (.int .i64 td) := BT.out.cell 2; have c3 : World.cell? q2 ⟨(w.heap.size + 1), 3, none⟩ = some (.int .i64 tr) := BT.out.cell 3; clear k1))
  exact bodyPost_ret (v := .tuple #[.int .i64 (-1), .int .i64 (-1), .int .i64 (-1)]) (by simp [results, Try.results113, go_sem]) rfl ⟨rfl, K2.out⟩

set_option maxRecDepth 100000 in
set_option maxHeartbeats 4000000 in
theorem rad_2 (W te tb td tr n g1 g2 g3 : Int) (v : Value) (hs : List Int) (w : World) (hr : Reads w v hs) (S0 : (∀ w' : World, Kpt w w' → Calls Try.prog 135 #[calV W v, .int .i64 n, .int .i64 te] w' fun z w'' => z = .returned (.int .i64 g1) ∧ Kpt w' w'')) (z0 : decide (g1 < 0) = false) (y0 : ¬ g1 < 0) (S1 : (∀ w' : World, Kpt w w' → Calls Try.prog 135 #[calV W v, .int .i64 g1, .int .i64 tb] w' fun z w'' => z = .returned (.int .i64 g2) ∧ Kpt w' w'')) (z1 : decide (g2 < 0) = false) (y1 : ¬ g2 < 0) (S2 : (∀ w' : World, Kpt w w' → Calls Try.prog 135 #[calV W v, .int .i64 g2, .int .i64 td] w' fun z w'' => z = .returned (.int .i64 (-1)) ∧ Kpt w' w'')) :
    Calls Try.prog 113 #[calV W v, .agg #[.int .i64 te, .int .i64 tb, .int .i64 td, .int .i64 tr], .int .i64 n] w fun z w' => z = .returned (.tuple #[.int .i64 (-1), .int .i64 (-1), .int .i64 (-1)]) ∧ Kpt w w' := by
  have S0 := Lib.hid S0
  have S1 := Lib.hid S1
  have S2 := Lib.hid S2
  have K0 : Hid (Kpt w ((w.alloc (.cells #[.int .i64 W, v] 24)).alloc (.cells #[.int .i64 te, .int .i64 tb, .int .i64 td, .int .i64 tr] 78))) := ((Kpt.refl w).alloc _).alloc _
  have BC : Hid (Blk ((w.alloc (.cells #[.int .i64 W, v] 24)).alloc (.cells #[.int .i64 te, .int .i64 tb, .int .i64 td, .int .i64 tr] 78)) w.heap.size #[.int .i64 W, v] 24) := (Blk.made w _ _).alloc _
  have BT : Hid (Blk ((w.alloc (.cells #[.int .i64 W, v] 24)).alloc (.cells #[.int .i64 te, .int .i64 tb, .int .i64 td, .int .i64 tr] 78)) (w.heap.size + 1) #[.int .i64 te, .int .i64 tb, .int .i64 td, .int .i64 tr] 78) := by
    have := (Blk.made (w.alloc (.cells #[.int .i64 W, v] 24)) #[.int .i64 te, .int .i64 tb, .int .i64 td, .int .i64 tr] 78)
    unfold Hid; simpa using this
  obtain ⟨a, cap, rfl, -⟩ := hr
  unfold calV at *
  go_enter Try.func113, Try.ntmps113
  go_wp2_with (first
    | (go_at_call 135; (with_reducible refine (S0.out _ K0.out).mono ?_); rintro z q1 ⟨rfl, k1⟩; have K1 : Hid (Kpt w q1) := ktr K0.out k1; have BC := Lib.hid (BC.out.kpt k1); have BT := Lib.hid (BT.out.kpt k1); have a0 : World.cell? q1 ⟨w.heap.size, 0, none⟩ = some (.int .i64 W) := BC.out.cell 0; have a1 : World.cell? q1 ⟨w.heap.size, 1, none⟩ = some (.slice a hs.length cap) := BC.out.cell 1; have c0 : World.cell? q1 ⟨(w.heap.size + 1), 0, none⟩ = some (.int .i64 te) := BT.out.cell 0; have c1 : World.cell? q1 ⟨(w.heap.size + 1), 1, none⟩ = some (.int .i64 tb) := BT.out.cell 1; have c2 : World.cell? q1 ⟨(w.heap.size + 1), 2, none⟩ = some (.int .i64 td) := BT.out.cell 2; have c3 : World.cell? q1 ⟨(w.heap.size + 1), 3, none⟩ = some (.int .i64 tr) := BT.out.cell 3; clear k1)
    | (go_at_call 135; (with_reducible refine (S1.out _ K1.out).mono ?_); rintro z q2 ⟨rfl, k1⟩; have K2 : Hid (Kpt w q2) := ktr K1.out k1; have BC := Lib.hid (BC.out.kpt k1); have BT := Lib.hid (BT.out.kpt k1); have a0 : World.cell? q2 ⟨w.heap.size, 0, none⟩ = some (.int .i64 W) := BC.out.cell 0; have a1 : World.cell? q2 ⟨w.heap.size, 1, none⟩ = some (.slice a hs.length cap) := BC.out.cell 1; have c0 : World.cell? q2 ⟨(w.heap.size + 1), 0, none⟩ = some (.int .i64 te) := BT.out.cell 0; have c1 : World.cell? q2 ⟨(w.heap.size + 1), 1, none⟩ = some (.int .i64 tb) := BT.out.cell 1; have c2 : World.cell? q2 ⟨(w.heap.size + 1), 2, none⟩ = some (.int .i64 td) := BT.out.cell 2; have c3 : World.cell? q2 ⟨(w.heap.size + 1), 3, none⟩ = some (.int .i64 tr) := BT.out.cell 3; clear k1)
    | (go_at_call 135; (with_reducible refine (S2.out _ K2.out).mono ?_); rintro z q3 ⟨rfl, k1⟩; have K3 : Hid (Kpt w q3) := ktr K2.out k1; have BC := Lib.hid (BC.out.kpt k1); have BT := Lib.hid (BT.out.kpt k1); have a0 : World.cell? q3 ⟨w.heap.size, 0, none⟩ = some (.int .i64 W) := BC.out.cell 0; have a1 : World.cell? q3 ⟨w.heap.size, 1, none⟩ = some (.slice a hs.length cap) := BC.out.cell 1; have c0 : World.cell? q3 ⟨(w.heap.size + 1), 0, none⟩ = some (.int .i64 te) := BT.out.cell 0; have c1 : World.cell? q3 ⟨(w.heap.size + 1), 1, none⟩ = some (.int .i64 tb) := BT.out.cell 1; have c2 : World.cell? q3 ⟨(w.heap.size + 1), 2, none⟩ = some (.int .i64 td) := BT.out.cell 2; have c3 : World.cell? q3 ⟨(w.heap.size + 1), 3, none⟩ = some (.int .i64 tr) := BT.out.cell 3; clear k1))
  exact bodyPost_ret (v := .tuple #[.int .i64 (-1), .int .i64 (-1), .int .i64 (-1)]) (by simp [results, Try.results113, go_sem]) rfl ⟨rfl, K3.out⟩

set_option maxRecDepth 100000 in
set_option maxHeartbeats 4000000 in
theorem rad_3 (W te tb td tr n g1 g2 g3 : Int) (v : Value) (hs : List Int) (w : World) (hr : Reads w v hs) (S0 : (∀ w' : World, Kpt w w' → Calls Try.prog 135 #[calV W v, .int .i64 n, .int .i64 te] w' fun z w'' => z = .returned (.int .i64 g1) ∧ Kpt w' w'')) (z0 : decide (g1 < 0) = false) (y0 : ¬ g1 < 0) (S1 : (∀ w' : World, Kpt w w' → Calls Try.prog 135 #[calV W v, .int .i64 g1, .int .i64 tb] w' fun z w'' => z = .returned (.int .i64 g2) ∧ Kpt w' w'')) (z1 : decide (g2 < 0) = false) (y1 : ¬ g2 < 0) (S2 : (∀ w' : World, Kpt w w' → Calls Try.prog 135 #[calV W v, .int .i64 g2, .int .i64 td] w' fun z w'' => z = .returned (.int .i64 g3) ∧ Kpt w' w'')) (z2 : decide (g3 < 0) = false) (y2 : ¬ g3 < 0) :
    Calls Try.prog 113 #[calV W v, .agg #[.int .i64 te, .int .i64 tb, .int .i64 td, .int .i64 tr], .int .i64 n] w fun z w' => z = .returned (.tuple #[.int .i64 g1, .int .i64 g2, .int .i64 g3]) ∧ Kpt w w' := by
  have S0 := Lib.hid S0
  have S1 := Lib.hid S1
  have S2 := Lib.hid S2
  have K0 : Hid (Kpt w ((w.alloc (.cells #[.int .i64 W, v] 24)).alloc (.cells #[.int .i64 te, .int .i64 tb, .int .i64 td, .int .i64 tr] 78))) := ((Kpt.refl w).alloc _).alloc _
  have BC : Hid (Blk ((w.alloc (.cells #[.int .i64 W, v] 24)).alloc (.cells #[.int .i64 te, .int .i64 tb, .int .i64 td, .int .i64 tr] 78)) w.heap.size #[.int .i64 W, v] 24) := (Blk.made w _ _).alloc _
  have BT : Hid (Blk ((w.alloc (.cells #[.int .i64 W, v] 24)).alloc (.cells #[.int .i64 te, .int .i64 tb, .int .i64 td, .int .i64 tr] 78)) (w.heap.size + 1) #[.int .i64 te, .int .i64 tb, .int .i64 td, .int .i64 tr] 78) := by
    have := (Blk.made (w.alloc (.cells #[.int .i64 W, v] 24)) #[.int .i64 te, .int .i64 tb, .int .i64 td, .int .i64 tr] 78)
    unfold Hid; simpa using this
  obtain ⟨a, cap, rfl, -⟩ := hr
  unfold calV at *
  go_enter Try.func113, Try.ntmps113
  go_wp2_with (first
    | (go_at_call 135; (with_reducible refine (S0.out _ K0.out).mono ?_); rintro z q1 ⟨rfl, k1⟩; have K1 : Hid (Kpt w q1) := ktr K0.out k1; have BC := Lib.hid (BC.out.kpt k1); have BT := Lib.hid (BT.out.kpt k1); have a0 : World.cell? q1 ⟨w.heap.size, 0, none⟩ = some (.int .i64 W) := BC.out.cell 0; have a1 : World.cell? q1 ⟨w.heap.size, 1, none⟩ = some (.slice a hs.length cap) := BC.out.cell 1; have c0 : World.cell? q1 ⟨(w.heap.size + 1), 0, none⟩ = some (.int .i64 te) := BT.out.cell 0; have c1 : World.cell? q1 ⟨(w.heap.size + 1), 1, none⟩ = some (.int .i64 tb) := BT.out.cell 1; have c2 : World.cell? q1 ⟨(w.heap.size + 1), 2, none⟩ = some (.int .i64 td) := BT.out.cell 2; have c3 : World.cell? q1 ⟨(w.heap.size + 1), 3, none⟩ = some (.int .i64 tr) := BT.out.cell 3; clear k1)
    | (go_at_call 135; (with_reducible refine (S1.out _ K1.out).mono ?_); rintro z q2 ⟨rfl, k1⟩; have K2 : Hid (Kpt w q2) := ktr K1.out k1; have BC := Lib.hid (BC.out.kpt k1); have BT := Lib.hid (BT.out.kpt k1); have a0 : World.cell? q2 ⟨w.heap.size, 0, none⟩ = some (.int .i64 W) := BC.out.cell 0; have a1 : World.cell? q2 ⟨w.heap.size, 1, none⟩ = some (.slice a hs.length cap) := BC.out.cell 1; have c0 : World.cell? q2 ⟨(w.heap.size + 1), 0, none⟩ = some (.int .i64 te) := BT.out.cell 0; have c1 : World.cell? q2 ⟨(w.heap.size + 1), 1, none⟩ = some (.int .i64 tb) := BT.out.cell 1; have c2 : World.cell? q2 ⟨(w.heap.size + 1), 2, none⟩ = some (.int .i64 td) := BT.out.cell 2; have c3 : World.cell? q2 ⟨(w.heap.size + 1), 3, none⟩ = some (.int .i64 tr) := BT.out.cell 3; clear k1)
    | (go_at_call 135; (with_reducible refine (S2.out _ K2.out).mono ?_); rintro z q3 ⟨rfl, k1⟩; have K3 : Hid (Kpt w q3) := ktr K2.out k1; have BC := Lib.hid (BC.out.kpt k1); have BT := Lib.hid (BT.out.kpt k1); have a0 : World.cell? q3 ⟨w.heap.size, 0, none⟩ = some (.int .i64 W) := BC.out.cell 0; have a1 : World.cell? q3 ⟨w.heap.size, 1, none⟩ = some (.slice a hs.length cap) := BC.out.cell 1; have c0 : World.cell? q3 ⟨(w.heap.size + 1), 0, none⟩ = some (.int .i64 te) := BT.out.cell 0; have c1 : World.cell? q3 ⟨(w.heap.size + 1), 1, none⟩ = some (.int .i64 tb) := BT.out.cell 1; have c2 : World.cell? q3 ⟨(w.heap.size + 1), 2, none⟩ = some (.int .i64 td) := BT.out.cell 2; have c3 : World.cell? q3 ⟨(w.heap.size + 1), 3, none⟩ = some (.int .i64 tr) := BT.out.cell 3; clear k1))
  exact bodyPost_ret (v := .tuple #[.int .i64 g1, .int .i64 g2, .int .i64 g3]) (by simp [results, Try.results113, go_sem]) rfl ⟨rfl, K3.out⟩

theorem cs_dayAt {W : Int} {hs : List Int} {n te tb td : Int} {k : Nat} (h : errAt W hs n te tb td k = 0) : cstV W hs (dayAt W hs n te tb td k) (three te tb td k) = dayAt W hs n te tb td (k + 1) := by
  unfold errAt at h; unfold cstV; rw [if_pos h]; rfl
theorem cs_dayNo {W : Int} {hs : List Int} {n te tb td : Int} {k : Nat} (h : errAt W hs n te tb td k ≠ 0) : cstV W hs (dayAt W hs n te tb td k) (three te tb td k) = -1 := by
  unfold errAt at h; unfold cstV; rw [if_neg h]
theorem dayAt_in {W : Int} {hs : List Int} {n te tb td : Int} {k : Nat} (h : errAt W hs n te tb td k = 0) : 0 ≤ dayAt W hs n te tb td (k + 1) ∧ dayAt W hs n te tb td (k + 1) ≤ 3652058 := by
  rcases ste_cases W hs (dayAt W hs n te tb td k) (three te tb td k) with ⟨_, _, _, _, _, _, r0, r1, _⟩ | ⟨e, _⟩
  · exact ⟨r0, r1⟩
  · exact absurd h e
def radV (W : Int) (hs : List Int) (n te tb td : Int) (k : Nat) : Int := if wlkE W hs n te tb td = 0 then dayAt W hs n te tb td k else -1
theorem rad_run (W te tb td tr n : Int) (v : Value) (hs : List Int) (w : World) (hr : Reads w v hs) (hE : calE W hs = 0) (h1 : 0 ≤ te ∧ te ≤ 100) (h2 : 0 ≤ tb ∧ tb ≤ 100) (h3 : 0 ≤ td ∧ td ≤ 100) (n0 : 0 ≤ n) (n1 : n ≤ 3652058) :
    Calls Try.prog 113 #[calV W v, .agg #[.int .i64 te, .int .i64 tb, .int .i64 td, .int .i64 tr], .int .i64 n] w fun z w' => z = .returned (.tuple #[.int .i64 (radV W hs n te tb td 1), .int .i64 (radV W hs n te tb td 2), .int .i64 (radV W hs n te tb td 3)]) ∧ Kpt w w' := by
  unfold radV
  have S := fun z m (z0 : 0 ≤ z) (z1 : z ≤ 3652058) (m0 : 0 ≤ m) (m1 : m ≤ 100) w' (k : Kpt w w') => rst_run W z m v hs hE z0 z1 (by omega) (by omega) w' (hr.kpt k)
  have S0 := S n te n0 n1 h1.1 h1.2
  by_cases e0 : errAt W hs n te tb td 0 = 0
  · have i1 : 0 ≤ dayAt W hs n te tb td 1 ∧ dayAt W hs n te tb td 1 ≤ 3652058 := dayAt_in e0
    have c0 : cstV W hs n te = dayAt W hs n te tb td 1 := cs_dayAt e0
    rw [c0] at S0
    have S1 := S (dayAt W hs n te tb td 1) tb i1.1 i1.2 h2.1 h2.2
    by_cases e1 : errAt W hs n te tb td 1 = 0
    · have i2 : 0 ≤ dayAt W hs n te tb td 2 ∧ dayAt W hs n te tb td 2 ≤ 3652058 := dayAt_in e1
      have c1 : cstV W hs (dayAt W hs n te tb td 1) tb = dayAt W hs n te tb td 2 := cs_dayAt e1
      rw [c1] at S1
      have S2 := S (dayAt W hs n te tb td 2) td i2.1 i2.2 h3.1 h3.2
      by_cases e2 : errAt W hs n te tb td 2 = 0
      · have i3 : 0 ≤ dayAt W hs n te tb td 3 ∧ dayAt W hs n te tb td 3 ≤ 3652058 := dayAt_in e2
        have c2 : cstV W hs (dayAt W hs n te tb td 2) td = dayAt W hs n te tb td 3 := cs_dayAt e2
        rw [c2] at S2
        have hw : wlkE W hs n te tb td = 0 := wlk_no fun j hj => by
          rcases (show j = 0 ∨ j = 1 ∨ j = 2 by omega) with rfl | rfl | rfl
          · exact e0
          · exact e1
          · exact e2
        rw [if_pos hw, if_pos hw, if_pos hw]
        exact rad_3 W te tb td tr n _ _ _ v hs w hr S0 (decide_eq_false (by omega)) (by omega) S1 (decide_eq_false (by omega)) (by omega) S2 (decide_eq_false (by omega)) (by omega)
      · have c2 : cstV W hs (dayAt W hs n te tb td 2) td = -1 := cs_dayNo e2
        rw [c2] at S2
        have hw : ¬ wlkE W hs n te tb td = 0 := fun h => e2 (wlk_0 h 2 (by omega))
        rw [if_neg hw, if_neg hw, if_neg hw]
        exact rad_2 W te tb td tr n _ _ 0 v hs w hr S0 (decide_eq_false (by omega)) (by omega) S1 (decide_eq_false (by omega)) (by omega) S2
    · have c1 : cstV W hs (dayAt W hs n te tb td 1) tb = -1 := cs_dayNo e1
      rw [c1] at S1
      have hw : ¬ wlkE W hs n te tb td = 0 := fun h => e1 (wlk_0 h 1 (by omega))
      rw [if_neg hw, if_neg hw, if_neg hw]
      exact rad_1 W te tb td tr n _ 0 0 v hs w hr S0 (decide_eq_false (by omega)) (by omega) S1
  · have c0 : cstV W hs n te = -1 := cs_dayNo e0
    rw [c0] at S0
    have hw : ¬ wlkE W hs n te tb td = 0 := fun h => e0 (wlk_0 h 0 (by omega))
    rw [if_neg hw, if_neg hw, if_neg hw]
    exact rad_0 W te tb td tr n 0 0 0 v hs w hr S0
/-- where a day is none there is ErrWide -/
theorem ste_8 {W : Int} {hs : List Int} {n m : Int} (hE : calE W hs = 0) (n0 : 0 ≤ n) (n1 : n ≤ 3652058) (m0 : 0 ≤ m) (m1 : m ≤ 500) (h : steE W hs n m ≠ 0) : steE W hs n m = 8 := by
  unfold steE stpE at h ⊢
  rw [days_mk1 hE n0 n1] at h ⊢
  rw [if_pos rfl, if_neg (by omega)] at h ⊢
  by_cases z : m = 0
  · rw [if_pos z] at h; exact absurd rfl h
  · rw [if_neg z, if_pos (by omega)] at h ⊢
    rcases up_cases W hs (n := n) (m := m.toNat) (by omega) n1 (by omega) with ⟨e, _⟩ | ⟨e, _⟩
    · exact absurd e h
    · exact e
theorem wlk_8 {W : Int} {hs : List Int} {n te tb td : Int} (hE : calE W hs = 0) (h1 : 0 ≤ te ∧ te ≤ 100) (h2 : 0 ≤ tb ∧ tb ≤ 100) (h3 : 0 ≤ td ∧ td ≤ 100) (n0 : 0 ≤ n) (n1 : n ≤ 3652058) (h : wlkE W hs n te tb td ≠ 0) : wlkE W hs n te tb td = 8 := by
  by_cases e0 : errAt W hs n te tb td 0 = 0
  · have i1 : 0 ≤ dayAt W hs n te tb td 1 ∧ dayAt W hs n te tb td 1 ≤ 3652058 := dayAt_in e0
    by_cases e1 : errAt W hs n te tb td 1 = 0
    · have i2 : 0 ≤ dayAt W hs n te tb td 2 ∧ dayAt W hs n te tb td 2 ≤ 3652058 := dayAt_in e1
      by_cases e2 : errAt W hs n te tb td 2 = 0
      · exact absurd (wlk_no fun j hj => by
          rcases (show j = 0 ∨ j = 1 ∨ j = 2 by omega) with rfl | rfl | rfl
          · exact e0
          · exact e1
          · exact e2) h
      · rw [wlk_at (k := 2) (by omega) (fun j hj => by rcases (show j = 0 ∨ j = 1 by omega) with rfl | rfl; exact e0; exact e1) e2]
        exact ste_8 hE i2.1 i2.2 h3.1 (by have := h3.2; show td ≤ 500; omega) e2
    · rw [wlk_at (k := 1) (by omega) (fun j hj => by obtain rfl : j = 0 := (by omega); exact e0) e1]
      exact ste_8 hE i1.1 i1.2 h2.1 (by have := h2.2; show tb ≤ 500; omega) e1
  · rw [wlk_at (k := 0) (by omega) (fun j hj => absurd hj (Nat.not_lt_zero _)) e0]
    exact ste_8 hE n0 n1 h1.1 (by have := h1.2; show te ≤ 500; omega) e0

end Go.Proofs.Ytgccipmeiceonaa
