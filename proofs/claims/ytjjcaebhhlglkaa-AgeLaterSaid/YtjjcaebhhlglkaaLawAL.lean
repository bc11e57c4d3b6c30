/-
  Ages: of a later day none of the days is earlier.
-/
import Derived.Test.YtjjcaebhhlglkaaAgeG
namespace Go.Proofs.Ytjjcaebhhlglkaa
open Go.RowKit
set_option linter.unusedVariables false

set_option maxRecDepth 100000 in
set_option maxHeartbeats 4000000 in
theorem later_e1 (W te tb td tr n l : Int) (a1 a2 a3 e1 x1 x2 x3 e2 : Int) (v : Value) (hs : List Int) (w : World) (hr : Reads w v hs) (hf : Fits hs) (HX : (∀ w' : World, Kpt w w' → Calls Try.prog 8 #[calV W v, .agg #[.int .i64 te, .int .i64 tb, .int .i64 td, .int .i64 tr], .int .i64 n] w' fun z w'' => z = .returned (.tuple #[.int .i64 a1, .int .i64 a2, .int .i64 a3, .int .i64 e1]) ∧ Kpt w' w'')) (HY : (∀ w' : World, Kpt w w' → Calls Try.prog 8 #[calV W v, .agg #[.int .i64 te, .int .i64 tb, .int .i64 td, .int .i64 tr], .int .i64 l] w' fun z w'' => z = .returned (.tuple #[.int .i64 x1, .int .i64 x2, .int .i64 x3, .int .i64 e2]) ∧ Kpt w' w'')) (z1 : (e1 != 0) = true) :
    Calls Try.prog 6 #[calV W v, .agg #[.int .i64 te, .int .i64 tb, .int .i64 td, .int .i64 tr], .int .i64 n, .int .i64 l] w fun z w' => z = .returned (.bool true) ∧ Kpt w w' := by
  have HX := Lib.hid HX
  have HY := Lib.hid HY
  have K0 : Hid (Kpt w ((w.alloc (.cells #[.int .i64 W, v] 24)).alloc (.cells #[.int .i64 te, .int .i64 tb, .int .i64 td, .int .i64 tr] 26))) := ((Kpt.refl w).alloc _).alloc _
  have BC : Hid (Blk ((w.alloc (.cells #[.int .i64 W, v] 24)).alloc (.cells #[.int .i64 te, .int .i64 tb, .int .i64 td, .int .i64 tr] 26)) w.heap.size #[.int .i64 W, v] 24) := (Blk.made w _ _).alloc _
  have BT : Hid (Blk ((w.alloc (.cells #[.int .i64 W, v] 24)).alloc (.cells #[.int .i64 te, .int .i64 tb, .int .i64 td, .int .i64 tr] 26)) (w.heap.size + 1) #[.int .i64 te, .int .i64 tb, .int .i64 td, .int .i64 tr] 26) := by
    have := (Blk.made (w.alloc (.cells #[.int .i64 W, v] 24)) #[.int .i64 te, .int .i64 tb, .int .i64 td, .int .i64 tr] 26)
    unfold Hid; simpa using this
  obtain ⟨a, cap, rfl, -⟩ := hr
  unfold calV at *
  go_enter Try.func6, Try.ntmps6
  go_wp2_with (first
    | (go_at_call 8; (with_reducible refine (HX.out _ K0.out).mono ?_); rintro z q1 ⟨rfl, k1⟩; have K1 : Hid (Kpt w q1) := ktr K0.out k1; have BC := Lib.hid (BC.out.kpt k1); have BT := Lib.hid (BT.out.kpt k1); have a0 : World.cell? q1 ⟨w.heap.size, 0, none⟩ = some (.int .i64 W) := BC.out.cell 0; have a1 : World.cell? q1 ⟨w.heap.size, 1, none⟩ = some (.slice a hs.length cap) := BC.out.cell 1; have c0 : World.cell? q1 ⟨(w.heap.size + 1), 0, none⟩ = some (.int .i64 te) := BT.out.cell 0; have c1 : World.cell? q1 ⟨(w.heap.size + 1), 1, none⟩ = some (.int .i64 tb) := BT.out.cell 1; have c2 : World.cell? q1 ⟨(w.heap.size + 1), 2, none⟩ = some (.int .i64 td) := BT.out.cell 2; have c3 : World.cell? q1 ⟨(w.heap.size + 1), 3, none⟩ = some (.int .i64 tr) := BT.out.cell 3; clear k1)
    | (go_at_call 8; (with_reducible refine (HY.out _ K1.out).mono ?_); rintro z q2 ⟨rfl, k1⟩; have K2 : Hid (Kpt w q2) := ktr K1.out k1; have BC := Lib.hid (BC.out.kpt k1); have BT := Lib.hid (BT.out.kpt k1); have a0 : World.cell? q2 ⟨w.heap.size, 0, none⟩ = some (.int .i64 W) := BC.out.cell 0; have a1 : World.cell? q2 ⟨w.heap.size, 1, none⟩ = some (.slice a hs.length cap) := BC.out.cell 1; have c0 : World.cell? q2 ⟨(w.heap.size + 1), 0, none⟩ = some (.int .i64 te) := BT.out.cell 0; have c1 : World.cell? q2 ⟨(w.heap.size + 1), 1, none⟩ = some (.int .i64 tb) := BT.out.cell 1; have c2 : World.cell? q2 ⟨(w.heap.size + 1), 2, none⟩ = some (.int .i64 td) := BT.out.cell 2; have c3 : World.cell? q2 ⟨(w.heap.size + 1), 3, none⟩ = some (.int .i64 tr) := BT.out.cell 3; clear k1)
    | (go_at_call 17; (with_reducible refine (ageBegun _).mono ?_); rintro z q3 ⟨rfl, k1⟩; have K3 : Hid (Kpt w q3) := ktr K2.out k1; have BC := Lib.hid (BC.out.kpt k1); have BT := Lib.hid (BT.out.kpt k1); clear k1))
  go_ret
  exact ⟨rfl, K3.out⟩

set_option maxRecDepth 100000 in
set_option maxHeartbeats 4000000 in
theorem later_e2 (W te tb td tr n l : Int) (a1 a2 a3 e1 x1 x2 x3 e2 : Int) (v : Value) (hs : List Int) (w : World) (hr : Reads w v hs) (hf : Fits hs) (HX : (∀ w' : World, Kpt w w' → Calls Try.prog 8 #[calV W v, .agg #[.int .i64 te, .int .i64 tb, .int .i64 td, .int .i64 tr], .int .i64 n] w' fun z w'' => z = .returned (.tuple #[.int .i64 a1, .int .i64 a2, .int .i64 a3, .int .i64 e1]) ∧ Kpt w' w'')) (HY : (∀ w' : World, Kpt w w' → Calls Try.prog 8 #[calV W v, .agg #[.int .i64 te, .int .i64 tb, .int .i64 td, .int .i64 tr], .int .i64 l] w' fun z w'' => z = .returned (.tuple #[.int .i64 x1, .int .i64 x2, .int .i64 x3, .int .i64 e2]) ∧ Kpt w' w'')) (z1 : (e1 != 0) = false) (z2 : (e2 != 0) = true) :
    Calls Try.prog 6 #[calV W v, .agg #[.int .i64 te, .int .i64 tb, .int .i64 td, .int .i64 tr], .int .i64 n, .int .i64 l] w fun z w' => z = .returned (.bool true) ∧ Kpt w w' := by
  have HX := Lib.hid HX
  have HY := Lib.hid HY
  have K0 : Hid (Kpt w ((w.alloc (.cells #[.int .i64 W, v] 24)).alloc (.cells #[.int .i64 te, .int .i64 tb, .int .i64 td, .int .i64 tr] 26))) := ((Kpt.refl w).alloc _).alloc _
  have BC : Hid (Blk ((w.alloc (.cells #[.int .i64 W, v] 24)).alloc (.cells #[.int .i64 te, .int .i64 tb, .int .i64 td, .int .i64 tr] 26)) w.heap.size #[.int .i64 W, v] 24) := (Blk.made w _ _).alloc _
  have BT : Hid (Blk ((w.alloc (.cells #[.int .i64 W, v] 24)).alloc (.cells #[.int .i64 te, .int .i64 tb, .int .i64 td, .int .i64 tr] 26)) (w.heap.size + 1) #[.int .i64 te, .int .i64 tb, .int .i64 td, .int .i64 tr] 26) := by
    have := (Blk.made (w.alloc (.cells #[.int .i64 W, v] 24)) #[.int .i64 te, .int .i64 tb, .int .i64 td, .int .i64 tr] 26)
    unfold Hid; simpa using this
  obtain ⟨a, cap, rfl, -⟩ := hr
  unfold calV at *
  go_enter Try.func6, Try.ntmps6
  go_wp2_with (first
    | (go_at_call 8; (with_reducible refine (HX.out _ K0.out).mono ?_); rintro z q1 ⟨rfl, k1⟩; have K1 : Hid (Kpt w q1) := ktr K0.out k1; have BC := Lib.hid (BC.out.kpt k1); have BT := Lib.hid (BT.out.kpt k1); have a0 : World.cell? q1 ⟨w.heap.size, 0, none⟩ = some (.int .i64 W) := BC.out.cell 0; have a1 : World.cell? q1 ⟨w.heap.size, 1, none⟩ = some (.slice a hs.length cap) := BC.out.cell 1; have c0 : World.cell? q1 ⟨(w.heap.size + 1), 0, none⟩ = some (.int .i64 te) := BT.out.cell 0; have c1 : World.cell? q1 ⟨(w.heap.size + 1), 1, none⟩ = some (.int .i64 tb) := BT.out.cell 1; have c2 : World.cell? q1 ⟨(w.heap.size + 1), 2, none⟩ = some (.int .i64 td) := BT.out.cell 2; have c3 : World.cell? q1 ⟨(w.heap.size + 1), 3, none⟩ = some (.int .i64 tr) := BT.out.cell 3; clear k1)
    | (go_at_call 8; (with_reducible refine (HY.out _ K1.out).mono ?_); rintro z q2 ⟨rfl, k1⟩; have K2 : Hid (Kpt w q2) := ktr K1.out k1; have BC := Lib.hid (BC.out.kpt k1); have BT := Lib.hid (BT.out.kpt k1); have a0 : World.cell? q2 ⟨w.heap.size, 0, none⟩ = some (.int .i64 W) := BC.out.cell 0; have a1 : World.cell? q2 ⟨w.heap.size, 1, none⟩ = some (.slice a hs.length cap) := BC.out.cell 1; have c0 : World.cell? q2 ⟨(w.heap.size + 1), 0, none⟩ = some (.int .i64 te) := BT.out.cell 0; have c1 : World.cell? q2 ⟨(w.heap.size + 1), 1, none⟩ = some (.int .i64 tb) := BT.out.cell 1; have c2 : World.cell? q2 ⟨(w.heap.size + 1), 2, none⟩ = some (.int .i64 td) := BT.out.cell 2; have c3 : World.cell? q2 ⟨(w.heap.size + 1), 3, none⟩ = some (.int .i64 tr) := BT.out.cell 3; clear k1)
    | (go_at_call 17; (with_reducible refine (ageBegun _).mono ?_); rintro z q3 ⟨rfl, k1⟩; have K3 : Hid (Kpt w q3) := ktr K2.out k1; have BC := Lib.hid (BC.out.kpt k1); have BT := Lib.hid (BT.out.kpt k1); clear k1))
  go_ret
  exact ⟨rfl, K3.out⟩

set_option maxRecDepth 100000 in
set_option maxHeartbeats 4000000 in
theorem later_lt (W te tb td tr n l : Int) (a1 a2 a3 e1 x1 x2 x3 e2 : Int) (v : Value) (hs : List Int) (w : World) (hr : Reads w v hs) (hf : Fits hs) (HX : (∀ w' : World, Kpt w w' → Calls Try.prog 8 #[calV W v, .agg #[.int .i64 te, .int .i64 tb, .int .i64 td, .int .i64 tr], .int .i64 n] w' fun z w'' => z = .returned (.tuple #[.int .i64 a1, .int .i64 a2, .int .i64 a3, .int .i64 e1]) ∧ Kpt w' w'')) (HY : (∀ w' : World, Kpt w w' → Calls Try.prog 8 #[calV W v, .agg #[.int .i64 te, .int .i64 tb, .int .i64 td, .int .i64 tr], .int .i64 l] w' fun z w'' => z = .returned (.tuple #[.int .i64 x1, .int .i64 x2, .int .i64 x3, .int .i64 e2]) ∧ Kpt w' w'')) (z1 : (e1 != 0) = false) (z2 : (e2 != 0) = false) (z3 : l < n) (z4 : decide (l < n) = true) :
    Calls Try.prog 6 #[calV W v, .agg #[.int .i64 te, .int .i64 tb, .int .i64 td, .int .i64 tr], .int .i64 n, .int .i64 l] w fun z w' => z = .returned (.bool true) ∧ Kpt w w' := by
  have HX := Lib.hid HX
  have HY := Lib.hid HY
  have K0 : Hid (Kpt w ((w.alloc (.cells #[.int .i64 W, v] 24)).alloc (.cells #[.int .i64 te, .int .i64 tb, .int .i64 td, .int .i64 tr] 26))) := ((Kpt.refl w).alloc _).alloc _
  have BC : Hid (Blk ((w.alloc (.cells #[.int .i64 W, v] 24)).alloc (.cells #[.int .i64 te, .int .i64 tb, .int .i64 td, .int .i64 tr] 26)) w.heap.size #[.int .i64 W, v] 24) := (Blk.made w _ _).alloc _
  have BT : Hid (Blk ((w.alloc (.cells #[.int .i64 W, v] 24)).alloc (.cells #[.int .i64 te, .int .i64 tb, .int .i64 td, .int .i64 tr] 26)) (w.heap.size + 1) #[.int .i64 te, .int .i64 tb, .int .i64 td, .int .i64 tr] 26) := by
    have := (Blk.made (w.alloc (.cells #[.int .i64 W, v] 24)) #[.int .i64 te, .int .i64 tb, .int .i64 td, .int .i64 tr] 26)
    unfold Hid; simpa using this
  obtain ⟨a, cap, rfl, -⟩ := hr
  unfold calV at *
  go_enter Try.func6, Try.ntmps6
  go_wp2_with (first
    | (go_at_call 8; (with_reducible refine (HX.out _ K0.out).mono ?_); rintro z q1 ⟨rfl, k1⟩; have K1 : Hid (Kpt w q1) := ktr K0.out k1; have BC := Lib.hid (BC.out.kpt k1); have BT := Lib.hid (BT.out.kpt k1); have a0 : World.cell? q1 ⟨w.heap.size, 0, none⟩ = some (.int .i64 W) := BC.out.cell 0; have a1 : World.cell? q1 ⟨w.heap.size, 1, none⟩ = some (.slice a hs.length cap) := BC.out.cell 1; have c0 : World.cell? q1 ⟨(w.heap.size + 1), 0, none⟩ = some (.int .i64 te) := BT.out.cell 0; have c1 : World.cell? q1 ⟨(w.heap.size + 1), 1, none⟩ = some (.int .i64 tb) := BT.out.cell 1; have c2 : World.cell? q1 ⟨(w.heap.size + 1), 2, none⟩ = some (.int .i64 td) := BT.out.cell 2; have c3 : World.cell? q1 ⟨(w.heap.size + 1), 3, none⟩ = some (.int .i64 tr) := BT.out.cell 3; clear k1)
    | (go_at_call 8; (with_reducible refine (HY.out _ K1.out).mono ?_); rintro z q2 ⟨rfl, k1⟩; have K2 : Hid (Kpt w q2) := ktr K1.out k1; have BC := Lib.hid (BC.out.kpt k1); have BT := Lib.hid (BT.out.kpt k1); have a0 : World.cell? q2 ⟨w.heap.size, 0, none⟩ = some (.int .i64 W) := BC.out.cell 0; have a1 : World.cell? q2 ⟨w.heap.size, 1, none⟩ = some (.slice a hs.length cap) := BC.out.cell 1; have c0 : World.cell? q2 ⟨(w.heap.size + 1), 0, none⟩ = some (.int .i64 te) := BT.out.cell 0; have c1 : World.cell? q2 ⟨(w.heap.size + 1), 1, none⟩ = some (.int .i64 tb) := BT.out.cell 1; have c2 : World.cell? q2 ⟨(w.heap.size + 1), 2, none⟩ = some (.int .i64 td) := BT.out.cell 2; have c3 : World.cell? q2 ⟨(w.heap.size + 1), 3, none⟩ = some (.int .i64 tr) := BT.out.cell 3; clear k1)
    | (go_at_call 17; (with_reducible refine (ageBegun _).mono ?_); rintro z q3 ⟨rfl, k1⟩; have K3 : Hid (Kpt w q3) := ktr K2.out k1; have BC := Lib.hid (BC.out.kpt k1); have BT := Lib.hid (BT.out.kpt k1); clear k1))
  go_ret
  exact ⟨rfl, K3.out⟩

set_option maxRecDepth 100000 in
set_option maxHeartbeats 4000000 in
theorem later_ge (W te tb td tr n l : Int) (a1 a2 a3 e1 x1 x2 x3 e2 : Int) (v : Value) (hs : List Int) (w : World) (hr : Reads w v hs) (hf : Fits hs) (HX : (∀ w' : World, Kpt w w' → Calls Try.prog 8 #[calV W v, .agg #[.int .i64 te, .int .i64 tb, .int .i64 td, .int .i64 tr], .int .i64 n] w' fun z w'' => z = .returned (.tuple #[.int .i64 a1, .int .i64 a2, .int .i64 a3, .int .i64 e1]) ∧ Kpt w' w'')) (HY : (∀ w' : World, Kpt w w' → Calls Try.prog 8 #[calV W v, .agg #[.int .i64 te, .int .i64 tb, .int .i64 td, .int .i64 tr], .int .i64 l] w' fun z w'' => z = .returned (.tuple #[.int .i64 x1, .int .i64 x2, .int .i64 x3, .int .i64 e2]) ∧ Kpt w' w'')) (z1 : (e1 != 0) = false) (z2 : (e2 != 0) = false) (z3 : ¬ l < n) (z4 : decide (l < n) = false) (g1 : a1 ≤ x1) (g2 : a2 ≤ x2) (g3 : a3 ≤ x3) (y1 : decide (a1 ≤ x1) = true) (y2 : decide (a2 ≤ x2) = true) (y3 : decide (a3 ≤ x3) = true) :
    Calls Try.prog 6 #[calV W v, .agg #[.int .i64 te, .int .i64 tb, .int .i64 td, .int .i64 tr], .int .i64 n, .int .i64 l] w fun z w' => z = .returned (.bool true) ∧ Kpt w w' := by
  have HX := Lib.hid HX
  have HY := Lib.hid HY
  have K0 : Hid (Kpt w ((w.alloc (.cells #[.int .i64 W, v] 24)).alloc (.cells #[.int .i64 te, .int .i64 tb, .int .i64 td, .int .i64 tr] 26))) := ((Kpt.refl w).alloc _).alloc _
  have BC : Hid (Blk ((w.alloc (.cells #[.int .i64 W, v] 24)).alloc (.cells #[.int .i64 te, .int .i64 tb, .int .i64 td, .int .i64 tr] 26)) w.heap.size #[.int .i64 W, v] 24) := (Blk.made w _ _).alloc _
  have BT : Hid (Blk ((w.alloc (.cells #[.int .i64 W, v] 24)).alloc (.cells #[.int .i64 te, .int .i64 tb, .int .i64 td, .int .i64 tr] 26)) (w.heap.size + 1) #[.int .i64 te, .int .i64 tb, .int .i64 td, .int .i64 tr] 26) := by
    have := (Blk.made (w.alloc (.cells #[.int .i64 W, v] 24)) #[.int .i64 te, .int .i64 tb, .int .i64 td, .int .i64 tr] 26)
    unfold Hid; simpa using this
  obtain ⟨a, cap, rfl, -⟩ := hr
  unfold calV at *
  go_enter Try.func6, Try.ntmps6
  go_wp2_with (first
    | (go_at_call 8; (with_reducible refine (HX.out _ K0.out).mono ?_); rintro z q1 ⟨rfl, k1⟩; have K1 : Hid (Kpt w q1) := ktr K0.out k1; have BC := Lib.hid (BC.out.kpt k1); have BT := Lib.hid (BT.out.kpt k1); have a0 : World.cell? q1 ⟨w.heap.size, 0, none⟩ = some (.int .i64 W) := BC.out.cell 0; have a1 : World.cell? q1 ⟨w.heap.size, 1, none⟩ = some (.slice a hs.length cap) := BC.out.cell 1; have c0 : World.cell? q1 ⟨(w.heap.size + 1), 0, none⟩ = some (.int .i64 te) := BT.out.cell 0; have c1 : World.cell? q1 ⟨(w.heap.size + 1), 1, none⟩ = some (.int .i64 tb) := BT.out.cell 1; have c2 : World.cell? q1 ⟨(w.heap.size + 1), 2, none⟩ = some (.int .i64 td) := BT.out.cell 2; have c3 : World.cell? q1 ⟨(w.heap.size + 1), 3, none⟩ = some (.int .i64 tr) := BT.out.cell 3; clear k1)
    | (go_at_call 8; (with_reducible refine (HY.out _ K1.out).mono ?_); rintro z q2 ⟨rfl, k1⟩; have K2 : Hid (Kpt w q2) := ktr K1.out k1; have BC := Lib.hid (BC.out.kpt k1); have BT := Lib.hid (BT.out.kpt k1); have a0 : World.cell? q2 ⟨w.heap.size, 0, none⟩ = some (.int .i64 W) := BC.out.cell 0; have a1 : World.cell? q2 ⟨w.heap.size, 1, none⟩ = some (.slice a hs.length cap) := BC.out.cell 1; have c0 : World.cell? q2 ⟨(w.heap.size + 1), 0, none⟩ = some (.int .i64 te) := BT.out.cell 0; have c1 : World.cell? q2 ⟨(w.heap.size + 1), 1, none⟩ = some (.int .i64 tb) := BT.out.cell 1; have c2 : World.cell? q2 ⟨(w.heap.size + 1), 2, none⟩ = some (.int .i64 td) := BT.out.cell 2; have c3 : World.cell? q2 ⟨(w.heap.size + 1), 3, none⟩ = some (.int .i64 tr) := BT.out.cell 3; clear k1)
    | (go_at_call 17; (with_reducible refine (ageBegun _).mono ?_); rintro z q3 ⟨rfl, k1⟩; have K3 : Hid (Kpt w q3) := ktr K2.out k1; have BC := Lib.hid (BC.out.kpt k1); have BT := Lib.hid (BT.out.kpt k1); clear k1))
  go_ret
  exact ⟨rfl, K3.out⟩

theorem ageLater_walk (W te tb td tr n l : Int) (v : Value) (hs : List Int) (w : World) (hr : Reads w v hs) (hf : Fits hs) :
    Calls Try.prog 6 #[calV W v, .agg #[.int .i64 te, .int .i64 tb, .int .i64 td, .int .i64 tr], .int .i64 n, .int .i64 l] w fun z w' => z = .returned (.bool true) ∧ Kpt w w' := by
  have HX := fun w' (k : Kpt w w') => days_run W n te tb td tr v hs w' (hr.kpt k) hf
  have HY := fun w' (k : Kpt w w') => days_run W l te tb td tr v hs w' (hr.kpt k) hf
  by_cases h1 : agE W hs te tb td tr n = 0
  · have z1 : (agE W hs te tb td tr n != 0) = false := by rw [h1]; rfl
    by_cases h2 : agE W hs te tb td tr l = 0
    · have z2 : (agE W hs te tb td tr l != 0) = false := by rw [h2]; rfl
      by_cases h3 : l < n
      · exact later_lt W te tb td tr n l _ _ _ _ _ _ _ _ v hs w hr hf HX HY z1 z2 h3 (decide_eq_true h3)
      · obtain ⟨c, w1⟩ := ag_0 h1
        obtain ⟨_, w2⟩ := ag_0 h2
        obtain ⟨_, b1, b2, b3, _⟩ := ct_0 c
        have mono : ∀ k, k ≤ 3 → agD W hs te tb td tr n k ≤ agD W hs te tb td tr l k := fun k hk => by
          unfold agD; rw [if_pos h1, if_pos h2]
          exact day_mono b1.1 b2.1 b3.1 (by omega) w1 w2 k hk
        have m1 := mono 1 (by omega)
        have m2 := mono 2 (by omega)
        have m3 := mono 3 (by omega)
        exact later_ge W te tb td tr n l _ _ _ _ _ _ _ _ v hs w hr hf HX HY z1 z2 h3 (decide_eq_false h3) m1 m2 m3 (decide_eq_true m1) (decide_eq_true m2) (decide_eq_true m3)
    · exact later_e2 W te tb td tr n l _ _ _ _ _ _ _ _ v hs w hr hf HX HY z1 (bne_iff_ne.2 h2)
  · exact later_e1 W te tb td tr n l _ _ _ _ _ _ _ _ v hs w hr hf HX HY (bne_iff_ne.2 h1)

end Go.Proofs.Ytjjcaebhhlglkaa
