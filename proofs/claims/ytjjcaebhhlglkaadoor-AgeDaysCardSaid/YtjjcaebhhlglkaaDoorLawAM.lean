/-
  Ages: the days rise by as many business days as the terms say.
-/
import Derived.Test.YtjjcaebhhlglkaaDoorAgeG
import Derived.Test.YtjjcaebhhlglkaaDoorCalJ
namespace Go.Proofs.YtjjcaebhhlglkaaDoor
open Go.RowKit
set_option linter.unusedVariables false

set_option maxRecDepth 100000 in
set_option maxHeartbeats 4000000 in
theorem ad_e (W te tb td tr n m : Int) (A1 A2 A3 e1 x1 x2 x3 b1 b2 b3 e2 : Int) (v : Value) (hs : List Int) (w : World) (hr : Reads w v hs) (hf : Fits hs) (ht : Tab w) (HX : (∀ w' : World, Kpt w w' → Calls Tryd.prog 5 #[calV W v, .agg #[.int .i64 te, .int .i64 tb, .int .i64 td, .int .i64 tr], .int .i64 n] w' fun z w'' => z = .returned (.tuple #[.int .i64 A1, .int .i64 A2, .int .i64 A3, .int .i64 e1]) ∧ Kpt w' w'')) (z1 : (e1 != 0) = true) (y1 : (A1 == 0) = true) (y2 : (A2 == 0) = true) (y3 : (A3 == 0) = true) :
    Calls Tryd.prog 3 #[calV W v, .agg #[.int .i64 te, .int .i64 tb, .int .i64 td, .int .i64 tr], .int .i64 n, .int .i64 m] w fun z w' => z = .returned (.bool true) ∧ Kpt w w' := by
  have HT := Lib.hid ht
  clear ht
  have HX := Lib.hid HX
  have K0 : Hid (Kpt w ((w.alloc (.cells #[.int .i64 W, v] 24)).alloc (.cells #[.int .i64 te, .int .i64 tb, .int .i64 td, .int .i64 tr] 26))) := ((Kpt.refl w).alloc _).alloc _
  have BC : Hid (Blk ((w.alloc (.cells #[.int .i64 W, v] 24)).alloc (.cells #[.int .i64 te, .int .i64 tb, .int .i64 td, .int .i64 tr] 26)) w.heap.size #[.int .i64 W, v] 24) := (Blk.made w _ _).alloc _
  have BT : Hid (Blk ((w.alloc (.cells #[.int .i64 W, v] 24)).alloc (.cells #[.int .i64 te, .int .i64 tb, .int .i64 td, .int .i64 tr] 26)) (w.heap.size + 1) #[.int .i64 te, .int .i64 tb, .int .i64 td, .int .i64 tr] 26) := by
    have := (Blk.made (w.alloc (.cells #[.int .i64 W, v] 24)) #[.int .i64 te, .int .i64 tb, .int .i64 td, .int .i64 tr] 26)
    unfold Hid; simpa using this
  obtain ⟨a, cap, rfl, -⟩ := hr
  unfold calV at *
  go_enter Tryd.func3, Tryd.ntmps3
  go_wp2_with (first
    | (go_at_call 5; (with_reducible refine (HX.out _ K0.out).mono ?_); rintro z q1 ⟨rfl, k1⟩; have K1 : Hid (Kpt w q1) := ktr K0.out k1; have BC := Lib.hid (BC.out.kpt k1); have BT := Lib.hid (BT.out.kpt k1); have a0 : World.cell? q1 ⟨w.heap.size, 0, none⟩ = some (.int .i64 W) := BC.out.cell 0; have a1 : World.cell? q1 ⟨w.heap.size, 1, none⟩ = some (.slice a hs.length cap) := BC.out.cell 1; have c0 : World.cell? q1 ⟨(w.heap.size + 1), 0, none⟩ = some (.int .i64 te) := BT.out.cell 0; have c1 : World.cell? q1 ⟨(w.heap.size + 1), 1, none⟩ = some (.int .i64 tb) := BT.out.cell 1; have c2 : World.cell? q1 ⟨(w.heap.size + 1), 2, none⟩ = some (.int .i64 td) := BT.out.cell 2; have c3 : World.cell? q1 ⟨(w.heap.size + 1), 3, none⟩ = some (.int .i64 tr) := BT.out.cell 3; clear k1)
    | (go_at_call 6; (with_reducible refine (ageBegun _).mono ?_); rintro z q2 ⟨rfl, k1⟩; have K2 : Hid (Kpt w q2) := ktr K1.out k1; have BC := Lib.hid (BC.out.kpt k1); have BT := Lib.hid (BT.out.kpt k1); have a0 : World.cell? q2 ⟨w.heap.size, 0, none⟩ = some (.int .i64 W) := BC.out.cell 0; have a1 : World.cell? q2 ⟨w.heap.size, 1, none⟩ = some (.slice a hs.length cap) := BC.out.cell 1; have c0 : World.cell? q2 ⟨(w.heap.size + 1), 0, none⟩ = some (.int .i64 te) := BT.out.cell 0; have c1 : World.cell? q2 ⟨(w.heap.size + 1), 1, none⟩ = some (.int .i64 tb) := BT.out.cell 1; have c2 : World.cell? q2 ⟨(w.heap.size + 1), 2, none⟩ = some (.int .i64 td) := BT.out.cell 2; have c3 : World.cell? q2 ⟨(w.heap.size + 1), 3, none⟩ = some (.int .i64 tr) := BT.out.cell 3; clear k1)
    | (go_at_call 7; (with_reducible refine (calBegun _ (Tab.kpt HT.out K2.out)).mono ?_); rintro z q3 ⟨rfl, k1⟩; have K3 : Hid (Kpt w q3) := ktr K2.out k1; have BC := Lib.hid (BC.out.kpt k1); have BT := Lib.hid (BT.out.kpt k1); have a0 : World.cell? q3 ⟨w.heap.size, 0, none⟩ = some (.int .i64 W) := BC.out.cell 0; have a1 : World.cell? q3 ⟨w.heap.size, 1, none⟩ = some (.slice a hs.length cap) := BC.out.cell 1; have c0 : World.cell? q3 ⟨(w.heap.size + 1), 0, none⟩ = some (.int .i64 te) := BT.out.cell 0; have c1 : World.cell? q3 ⟨(w.heap.size + 1), 1, none⟩ = some (.int .i64 tb) := BT.out.cell 1; have c2 : World.cell? q3 ⟨(w.heap.size + 1), 2, none⟩ = some (.int .i64 td) := BT.out.cell 2; have c3 : World.cell? q3 ⟨(w.heap.size + 1), 3, none⟩ = some (.int .i64 tr) := BT.out.cell 3; clear k1))
  go_ret
  exact ⟨rfl, K3.out⟩

set_option maxRecDepth 100000 in
set_option maxHeartbeats 4000000 in
theorem ad_lo (W te tb td tr n m : Int) (A1 A2 A3 e1 x1 x2 x3 b1 b2 b3 e2 : Int) (v : Value) (hs : List Int) (w : World) (hr : Reads w v hs) (hf : Fits hs) (ht : Tab w) (HX : (∀ w' : World, Kpt w w' → Calls Tryd.prog 5 #[calV W v, .agg #[.int .i64 te, .int .i64 tb, .int .i64 td, .int .i64 tr], .int .i64 n] w' fun z w'' => z = .returned (.tuple #[.int .i64 A1, .int .i64 A2, .int .i64 A3, .int .i64 e1]) ∧ Kpt w' w'')) (C1 : (∀ w' : World, Kpt w w' → Calls Tryd.prog 8 #[calV W v, .int .i64 n, .int .i64 A1] w' fun z w'' => z = .returned (.tuple #[.int .i64 x1, .int .i64 0]) ∧ Kpt w' w'')) (C2 : (∀ w' : World, Kpt w w' → Calls Tryd.prog 8 #[calV W v, .int .i64 A1, .int .i64 A2] w' fun z w'' => z = .returned (.tuple #[.int .i64 x2, .int .i64 0]) ∧ Kpt w' w'')) (C3 : (∀ w' : World, Kpt w w' → Calls Tryd.prog 8 #[calV W v, .int .i64 A2, .int .i64 A3] w' fun z w'' => z = .returned (.tuple #[.int .i64 x3, .int .i64 0]) ∧ Kpt w' w'')) (z1 : (e1 != 0) = false) (y1 : (x1 != te) = false) (y2 : (x2 != tb) = false) (y3 : (x3 != td) = false) (m0 : m < 0) (m1 : decide (m < 0) = true) :
    Calls Tryd.prog 3 #[calV W v, .agg #[.int .i64 te, .int .i64 tb, .int .i64 td, .int .i64 tr], .int .i64 n, .int .i64 m] w fun z w' => z = .returned (.bool true) ∧ Kpt w w' := by
  have HT := Lib.hid ht
  clear ht
  have HX := Lib.hid HX
  have C1 := Lib.hid C1
  have C2 := Lib.hid C2
  have C3 := Lib.hid C3
  have K0 : Hid (Kpt w ((w.alloc (.cells #[.int .i64 W, v] 24)).alloc (.cells #[.int .i64 te, .int .i64 tb, .int .i64 td, .int .i64 tr] 26))) := ((Kpt.refl w).alloc _).alloc _
  have BC : Hid (Blk ((w.alloc (.cells #[.int .i64 W, v] 24)).alloc (.cells #[.int .i64 te, .int .i64 tb, .int .i64 td, .int .i64 tr] 26)) w.heap.size #[.int .i64 W, v] 24) := (Blk.made w _ _).alloc _
  have BT : Hid (Blk ((w.alloc (.cells #[.int .i64 W, v] 24)).alloc (.cells #[.int .i64 te, .int .i64 tb, .int .i64 td, .int .i64 tr] 26)) (w.heap.size + 1) #[.int .i64 te, .int .i64 tb, .int .i64 td, .int .i64 tr] 26) := by
    have := (Blk.made (w.alloc (.cells #[.int .i64 W, v] 24)) #[.int .i64 te, .int .i64 tb, .int .i64 td, .int .i64 tr] 26)
    unfold Hid; simpa using this
  obtain ⟨a, cap, rfl, -⟩ := hr
  unfold calV at *
  go_enter Tryd.func3, Tryd.ntmps3
  go_wp2_with (first
    | (go_at_call 5; (with_reducible refine (HX.out _ K0.out).mono ?_); rintro z q1 ⟨rfl, k1⟩; have K1 : Hid (Kpt w q1) := ktr K0.out k1; have BC := Lib.hid (BC.out.kpt k1); have BT := Lib.hid (BT.out.kpt k1); have a0 : World.cell? q1 ⟨w.heap.size, 0, none⟩ = some (.int .i64 W) := BC.out.cell 0; have a1 : World.cell? q1 ⟨w.heap.size, 1, none⟩ = some (.slice a hs.length cap) := BC.out.cell 1; have c0 : World.cell? q1 ⟨(w.heap.size + 1), 0, none⟩ = some (.int .i64 te) := BT.out.cell 0; have c1 : World.cell? q1 ⟨(w.heap.size + 1), 1, none⟩ = some (.int .i64 tb) := BT.out.cell 1; have c2 : World.cell? q1 ⟨(w.heap.size + 1), 2, none⟩ = some (.int .i64 td) := BT.out.cell 2; have c3 : World.cell? q1 ⟨(w.heap.size + 1), 3, none⟩ = some (.int .i64 tr) := BT.out.cell 3; clear k1)
    | (go_at_call 6; (with_reducible refine (ageBegun _).mono ?_); rintro z q2 ⟨rfl, k1⟩; have K2 : Hid (Kpt w q2) := ktr K1.out k1; have BC := Lib.hid (BC.out.kpt k1); have BT := Lib.hid (BT.out.kpt k1); have a0 : World.cell? q2 ⟨w.heap.size, 0, none⟩ = some (.int .i64 W) := BC.out.cell 0; have a1 : World.cell? q2 ⟨w.heap.size, 1, none⟩ = some (.slice a hs.length cap) := BC.out.cell 1; have c0 : World.cell? q2 ⟨(w.heap.size + 1), 0, none⟩ = some (.int .i64 te) := BT.out.cell 0; have c1 : World.cell? q2 ⟨(w.heap.size + 1), 1, none⟩ = some (.int .i64 tb) := BT.out.cell 1; have c2 : World.cell? q2 ⟨(w.heap.size + 1), 2, none⟩ = some (.int .i64 td) := BT.out.cell 2; have c3 : World.cell? q2 ⟨(w.heap.size + 1), 3, none⟩ = some (.int .i64 tr) := BT.out.cell 3; clear k1)
    | (go_at_call 7; (with_reducible refine (calBegun _ (Tab.kpt HT.out K2.out)).mono ?_); rintro z q3 ⟨rfl, k1⟩; have K3 : Hid (Kpt w q3) := ktr K2.out k1; have BC := Lib.hid (BC.out.kpt k1); have BT := Lib.hid (BT.out.kpt k1); have a0 : World.cell? q3 ⟨w.heap.size, 0, none⟩ = some (.int .i64 W) := BC.out.cell 0; have a1 : World.cell? q3 ⟨w.heap.size, 1, none⟩ = some (.slice a hs.length cap) := BC.out.cell 1; have c0 : World.cell? q3 ⟨(w.heap.size + 1), 0, none⟩ = some (.int .i64 te) := BT.out.cell 0; have c1 : World.cell? q3 ⟨(w.heap.size + 1), 1, none⟩ = some (.int .i64 tb) := BT.out.cell 1; have c2 : World.cell? q3 ⟨(w.heap.size + 1), 2, none⟩ = some (.int .i64 td) := BT.out.cell 2; have c3 : World.cell? q3 ⟨(w.heap.size + 1), 3, none⟩ = some (.int .i64 tr) := BT.out.cell 3; clear k1)
    | (go_at_call 8; (with_reducible refine (C1.out _ K3.out).mono ?_); rintro z q4 ⟨rfl, k1⟩; have K4 : Hid (Kpt w q4) := ktr K3.out k1; have BC := Lib.hid (BC.out.kpt k1); have BT := Lib.hid (BT.out.kpt k1); have a0 : World.cell? q4 ⟨w.heap.size, 0, none⟩ = some (.int .i64 W) := BC.out.cell 0; have a1 : World.cell? q4 ⟨w.heap.size, 1, none⟩ = some (.slice a hs.length cap) := BC.out.cell 1; have c0 : World.cell? q4 ⟨(w.heap.size + 1), 0, none⟩ = some (.int .i64 te) := BT.out.cell 0; have c1 : World.cell? q4 ⟨(w.heap.size + 1), 1, none⟩ = some (.int .i64 tb) := BT.out.cell 1; have c2 : World.cell? q4 ⟨(w.heap.size + 1), 2, none⟩ = some (.int .i64 td) := BT.out.cell 2; have c3 : World.cell? q4 ⟨(w.heap.size + 1), 3, none⟩ = some (.int .i64 tr) := BT.out.cell 3; clear k1)
    | (go_at_call 8; (with_reducible refine (C2.out _ K4.out).mono ?_); rintro z q5 ⟨rfl, k1⟩; have K5 : Hid (Kpt w q5) := ktr K4.out k1; have BC := Lib.hid (BC.out.kpt k1); have BT := Lib.hid (BT.out.kpt k1); have a0 : World.cell? q5 ⟨w.heap.size, 0, none⟩ = some (.int .i64 W) := BC.out.cell 0; have a1 : World.cell? q5 ⟨w.heap.size, 1, none⟩ = some (.slice a hs.length cap) := BC.out.cell 1; have c0 : World.cell? q5 ⟨(w.heap.size + 1), 0, none⟩ = some (.int .i64 te) := BT.out.cell 0; have c1 : World.cell? q5 ⟨(w.heap.size + 1), 1, none⟩ = some (.int .i64 tb) := BT.out.cell 1; have c2 : World.cell? q5 ⟨(w.heap.size + 1), 2, none⟩ = some (.int .i64 td) := BT.out.cell 2; have c3 : World.cell? q5 ⟨(w.heap.size + 1), 3, none⟩ = some (.int .i64 tr) := BT.out.cell 3; clear k1)
    | (go_at_call 8; (with_reducible refine (C3.out _ K5.out).mono ?_); rintro z q6 ⟨rfl, k1⟩; have K6 : Hid (Kpt w q6) := ktr K5.out k1; have BC := Lib.hid (BC.out.kpt k1); have BT := Lib.hid (BT.out.kpt k1); have a0 : World.cell? q6 ⟨w.heap.size, 0, none⟩ = some (.int .i64 W) := BC.out.cell 0; have a1 : World.cell? q6 ⟨w.heap.size, 1, none⟩ = some (.slice a hs.length cap) := BC.out.cell 1; have c0 : World.cell? q6 ⟨(w.heap.size + 1), 0, none⟩ = some (.int .i64 te) := BT.out.cell 0; have c1 : World.cell? q6 ⟨(w.heap.size + 1), 1, none⟩ = some (.int .i64 tb) := BT.out.cell 1; have c2 : World.cell? q6 ⟨(w.heap.size + 1), 2, none⟩ = some (.int .i64 td) := BT.out.cell 2; have c3 : World.cell? q6 ⟨(w.heap.size + 1), 3, none⟩ = some (.int .i64 tr) := BT.out.cell 3; clear k1))
  go_ret
  exact ⟨rfl, K6.out⟩

set_option maxRecDepth 100000 in
set_option maxHeartbeats 4000000 in
theorem ad_hi (W te tb td tr n m : Int) (A1 A2 A3 e1 x1 x2 x3 b1 b2 b3 e2 : Int) (v : Value) (hs : List Int) (w : World) (hr : Reads w v hs) (hf : Fits hs) (ht : Tab w) (HX : (∀ w' : World, Kpt w w' → Calls Tryd.prog 5 #[calV W v, .agg #[.int .i64 te, .int .i64 tb, .int .i64 td, .int .i64 tr], .int .i64 n] w' fun z w'' => z = .returned (.tuple #[.int .i64 A1, .int .i64 A2, .int .i64 A3, .int .i64 e1]) ∧ Kpt w' w'')) (C1 : (∀ w' : World, Kpt w w' → Calls Tryd.prog 8 #[calV W v, .int .i64 n, .int .i64 A1] w' fun z w'' => z = .returned (.tuple #[.int .i64 x1, .int .i64 0]) ∧ Kpt w' w'')) (C2 : (∀ w' : World, Kpt w w' → Calls Tryd.prog 8 #[calV W v, .int .i64 A1, .int .i64 A2] w' fun z w'' => z = .returned (.tuple #[.int .i64 x2, .int .i64 0]) ∧ Kpt w' w'')) (C3 : (∀ w' : World, Kpt w w' → Calls Tryd.prog 8 #[calV W v, .int .i64 A2, .int .i64 A3] w' fun z w'' => z = .returned (.tuple #[.int .i64 x3, .int .i64 0]) ∧ Kpt w' w'')) (z1 : (e1 != 0) = false) (y1 : (x1 != te) = false) (y2 : (x2 != tb) = false) (y3 : (x3 != td) = false) (m0 : ¬ m < 0) (m1 : decide (m < 0) = false) (m2 : 100 < m) (m3 : decide (100 < m) = true) :
    Calls Tryd.prog 3 #[calV W v, .agg #[.int .i64 te, .int .i64 tb, .int .i64 td, .int .i64 tr], .int .i64 n, .int .i64 m] w fun z w' => z = .returned (.bool true) ∧ Kpt w w' := by
  have HT := Lib.hid ht
  clear ht
  have HX := Lib.hid HX
  have C1 := Lib.hid C1
  have C2 := Lib.hid C2
  have C3 := Lib.hid C3
  have K0 : Hid (Kpt w ((w.alloc (.cells #[.int .i64 W, v] 24)).alloc (.cells #[.int .i64 te, .int .i64 tb, .int .i64 td, .int .i64 tr] 26))) := ((Kpt.refl w).alloc _).alloc _
  have BC : Hid (Blk ((w.alloc (.cells #[.int .i64 W, v] 24)).alloc (.cells #[.int .i64 te, .int .i64 tb, .int .i64 td, .int .i64 tr] 26)) w.heap.size #[.int .i64 W, v] 24) := (Blk.made w _ _).alloc _
  have BT : Hid (Blk ((w.alloc (.cells #[.int .i64 W, v] 24)).alloc (.cells #[.int .i64 te, .int .i64 tb, .int .i64 td, .int .i64 tr] 26)) (w.heap.size + 1) #[.int .i64 te, .int .i64 tb, .int .i64 td, .int .i64 tr] 26) := by
    have := (Blk.made (w.alloc (.cells #[.int .i64 W, v] 24)) #[.int .i64 te, .int .i64 tb, .int .i64 td, .int .i64 tr] 26)
    unfold Hid; simpa using this
  obtain ⟨a, cap, rfl, -⟩ := hr
  unfold calV at *
  go_enter Tryd.func3, Tryd.ntmps3
  go_wp2_with (first
    | (go_at_call 5; (with_reducible refine (HX.out _ K0.out).mono ?_); rintro z q1 ⟨rfl, k1⟩; have K1 : Hid (Kpt w q1) := ktr K0.out k1; have BC := Lib.hid (BC.out.kpt k1); have BT := Lib.hid (BT.out.kpt k1); have a0 : World.cell? q1 ⟨w.heap.size, 0, none⟩ = some (.int .i64 W) := BC.out.cell 0; have a1 : World.cell? q1 ⟨w.heap.size, 1, none⟩ = some (.slice a hs.length cap) := BC.out.cell 1; have c0 : World.cell? q1 ⟨(w.heap.size + 1), 0, none⟩ = some (.int .i64 te) := BT.out.cell 0; have c1 : World.cell? q1 ⟨(w.heap.size + 1), 1, none⟩ = some (.int .i64 tb) := BT.out.cell 1; have c2 : World.cell? q1 ⟨(w.heap.size + 1), 2, none⟩ = some (.int .i64 td) := BT.out.cell 2; have c3 : World.cell? q1 ⟨(w.heap.size + 1), 3, none⟩ = some (.int .i64 tr) := BT.out.cell 3; clear k1)
    | (go_at_call 6; (with_reducible refine (ageBegun _).mono ?_); rintro z q2 ⟨rfl, k1⟩; have K2 : Hid (Kpt w q2) := ktr K1.out k1; have BC := Lib.hid (BC.out.kpt k1); have BT := Lib.hid (BT.out.kpt k1); have a0 : World.cell? q2 ⟨w.heap.size, 0, none⟩ = some (.int .i64 W) := BC.out.cell 0; have a1 : World.cell? q2 ⟨w.heap.size, 1, none⟩ = some (.slice a hs.length cap) := BC.out.cell 1; have c0 : World.cell? q2 ⟨(w.heap.size + 1), 0, none⟩ = some (.int .i64 te) := BT.out.cell 0; have c1 : World.cell? q2 ⟨(w.heap.size + 1), 1, none⟩ = some (.int .i64 tb) := BT.out.cell 1; have c2 : World.cell? q2 ⟨(w.heap.size + 1), 2, none⟩ = some (.int .i64 td) := BT.out.cell 2; have c3 : World.cell? q2 ⟨(w.heap.size + 1), 3, none⟩ = some (.int .i64 tr) := BT.out.cell 3; clear k1)
    | (go_at_call 7; (with_reducible refine (calBegun _ (Tab.kpt HT.out K2.out)).mono ?_); rintro z q3 ⟨rfl, k1⟩; have K3 : Hid (Kpt w q3) := ktr K2.out k1; have BC := Lib.hid (BC.out.kpt k1); have BT := Lib.hid (BT.out.kpt k1); have a0 : World.cell? q3 ⟨w.heap.size, 0, none⟩ = some (.int .i64 W) := BC.out.cell 0; have a1 : World.cell? q3 ⟨w.heap.size, 1, none⟩ = some (.slice a hs.length cap) := BC.out.cell 1; have c0 : World.cell? q3 ⟨(w.heap.size + 1), 0, none⟩ = some (.int .i64 te) := BT.out.cell 0; have c1 : World.cell? q3 ⟨(w.heap.size + 1), 1, none⟩ = some (.int .i64 tb) := BT.out.cell 1; have c2 : World.cell? q3 ⟨(w.heap.size + 1), 2, none⟩ = some (.int .i64 td) := BT.out.cell 2; have c3 : World.cell? q3 ⟨(w.heap.size + 1), 3, none⟩ = some (.int .i64 tr) := BT.out.cell 3; clear k1)
    | (go_at_call 8; (with_reducible refine (C1.out _ K3.out).mono ?_); rintro z q4 ⟨rfl, k1⟩; have K4 : Hid (Kpt w q4) := ktr K3.out k1; have BC := Lib.hid (BC.out.kpt k1); have BT := Lib.hid (BT.out.kpt k1); have a0 : World.cell? q4 ⟨w.heap.size, 0, none⟩ = some (.int .i64 W) := BC.out.cell 0; have a1 : World.cell? q4 ⟨w.heap.size, 1, none⟩ = some (.slice a hs.length cap) := BC.out.cell 1; have c0 : World.cell? q4 ⟨(w.heap.size + 1), 0, none⟩ = some (.int .i64 te) := BT.out.cell 0; have c1 : World.cell? q4 ⟨(w.heap.size + 1), 1, none⟩ = some (.int .i64 tb) := BT.out.cell 1; have c2 : World.cell? q4 ⟨(w.heap.size + 1), 2, none⟩ = some (.int .i64 td) := BT.out.cell 2; have c3 : World.cell? q4 ⟨(w.heap.size + 1), 3, none⟩ = some (.int .i64 tr) := BT.out.cell 3; clear k1)
    | (go_at_call 8; (with_reducible refine (C2.out _ K4.out).mono ?_); rintro z q5 ⟨rfl, k1⟩; have K5 : Hid (Kpt w q5) := ktr K4.out k1; have BC := Lib.hid (BC.out.kpt k1); have BT := Lib.hid (BT.out.kpt k1); have a0 : World.cell? q5 ⟨w.heap.size, 0, none⟩ = some (.int .i64 W) := BC.out.cell 0; have a1 : World.cell? q5 ⟨w.heap.size, 1, none⟩ = some (.slice a hs.length cap) := BC.out.cell 1; have c0 : World.cell? q5 ⟨(w.heap.size + 1), 0, none⟩ = some (.int .i64 te) := BT.out.cell 0; have c1 : World.cell? q5 ⟨(w.heap.size + 1), 1, none⟩ = some (.int .i64 tb) := BT.out.cell 1; have c2 : World.cell? q5 ⟨(w.heap.size + 1), 2, none⟩ = some (.int .i64 td) := BT.out.cell 2; have c3 : World.cell? q5 ⟨(w.heap.size + 1), 3, none⟩ = some (.int .i64 tr) := BT.out.cell 3; clear k1)
    | (go_at_call 8; (with_reducible refine (C3.out _ K5.out).mono ?_); rintro z q6 ⟨rfl, k1⟩; have K6 : Hid (Kpt w q6) := ktr K5.out k1; have BC := Lib.hid (BC.out.kpt k1); have BT := Lib.hid (BT.out.kpt k1); have a0 : World.cell? q6 ⟨w.heap.size, 0, none⟩ = some (.int .i64 W) := BC.out.cell 0; have a1 : World.cell? q6 ⟨w.heap.size, 1, none⟩ = some (.slice a hs.length cap) := BC.out.cell 1; have c0 : World.cell? q6 ⟨(w.heap.size + 1), 0, none⟩ = some (.int .i64 te) := BT.out.cell 0; have c1 : World.cell? q6 ⟨(w.heap.size + 1), 1, none⟩ = some (.int .i64 tb) := BT.out.cell 1; have c2 : World.cell? q6 ⟨(w.heap.size + 1), 2, none⟩ = some (.int .i64 td) := BT.out.cell 2; have c3 : World.cell? q6 ⟨(w.heap.size + 1), 3, none⟩ = some (.int .i64 tr) := BT.out.cell 3; clear k1))
  go_ret
  exact ⟨rfl, K6.out⟩

set_option maxRecDepth 100000 in
set_option maxHeartbeats 4000000 in
theorem ad_err (W te tb td tr n m : Int) (A1 A2 A3 e1 x1 x2 x3 b1 b2 b3 e2 : Int) (v : Value) (hs : List Int) (w : World) (hr : Reads w v hs) (hf : Fits hs) (ht : Tab w) (HX : (∀ w' : World, Kpt w w' → Calls Tryd.prog 5 #[calV W v, .agg #[.int .i64 te, .int .i64 tb, .int .i64 td, .int .i64 tr], .int .i64 n] w' fun z w'' => z = .returned (.tuple #[.int .i64 A1, .int .i64 A2, .int .i64 A3, .int .i64 e1]) ∧ Kpt w' w'')) (C1 : (∀ w' : World, Kpt w w' → Calls Tryd.prog 8 #[calV W v, .int .i64 n, .int .i64 A1] w' fun z w'' => z = .returned (.tuple #[.int .i64 x1, .int .i64 0]) ∧ Kpt w' w'')) (C2 : (∀ w' : World, Kpt w w' → Calls Tryd.prog 8 #[calV W v, .int .i64 A1, .int .i64 A2] w' fun z w'' => z = .returned (.tuple #[.int .i64 x2, .int .i64 0]) ∧ Kpt w' w'')) (C3 : (∀ w' : World, Kpt w w' → Calls Tryd.prog 8 #[calV W v, .int .i64 A2, .int .i64 A3] w' fun z w'' => z = .returned (.tuple #[.int .i64 x3, .int .i64 0]) ∧ Kpt w' w'')) (z1 : (e1 != 0) = false) (y1 : (x1 != te) = false) (y2 : (x2 != tb) = false) (y3 : (x3 != td) = false) (HY : (∀ w' : World, Kpt w w' → Calls Tryd.prog 5 #[calV W v, .agg #[.int .i64 (te + m), .int .i64 tb, .int .i64 td, .int .i64 tr], .int .i64 n] w' fun z w'' => z = .returned (.tuple #[.int .i64 b1, .int .i64 b2, .int .i64 b3, .int .i64 e2]) ∧ Kpt w' w'')) (m0 : ¬ m < 0) (m1 : ¬ 100 < m) (m2 : decide (m < 0) = false) (m3 : decide (100 < m) = false) (t0 : 0 ≤ te) (t1 : te ≤ 100) (z2 : (e2 != 0) = true) :
    Calls Tryd.prog 3 #[calV W v, .agg #[.int .i64 te, .int .i64 tb, .int .i64 td, .int .i64 tr], .int .i64 n, .int .i64 m] w fun z w' => z = .returned (.bool true) ∧ Kpt w w' := by
  have HT := Lib.hid ht
  clear ht
  have HX := Lib.hid HX
  have C1 := Lib.hid C1
  have C2 := Lib.hid C2
  have C3 := Lib.hid C3
  have HY := Lib.hid HY
  have K0 : Hid (Kpt w ((w.alloc (.cells #[.int .i64 W, v] 24)).alloc (.cells #[.int .i64 te, .int .i64 tb, .int .i64 td, .int .i64 tr] 26))) := ((Kpt.refl w).alloc _).alloc _
  have BC : Hid (Blk ((w.alloc (.cells #[.int .i64 W, v] 24)).alloc (.cells #[.int .i64 te, .int .i64 tb, .int .i64 td, .int .i64 tr] 26)) w.heap.size #[.int .i64 W, v] 24) := (Blk.made w _ _).alloc _
  have BT : Hid (Blk ((w.alloc (.cells #[.int .i64 W, v] 24)).alloc (.cells #[.int .i64 te, .int .i64 tb, .int .i64 td, .int .i64 tr] 26)) (w.heap.size + 1) #[.int .i64 te, .int .i64 tb, .int .i64 td, .int .i64 tr] 26) := by
    have := (Blk.made (w.alloc (.cells #[.int .i64 W, v] 24)) #[.int .i64 te, .int .i64 tb, .int .i64 td, .int .i64 tr] 26)
    unfold Hid; simpa using this
  obtain ⟨a, cap, rfl, -⟩ := hr
  unfold calV at *
  go_enter Tryd.func3, Tryd.ntmps3
  go_wp2_with (first
    | (go_at_call 5; (with_reducible refine (HX.out _ K0.out).mono ?_); rintro z q1 ⟨rfl, k1⟩; have K1 : Hid (Kpt w q1) := ktr K0.out k1; have BC := Lib.hid (BC.out.kpt k1); have BT := Lib.hid (BT.out.kpt k1); have a0 : World.cell? q1 ⟨w.heap.size, 0, none⟩ = some (.int .i64 W) := BC.out.cell 0; have a1 : World.cell? q1 ⟨w.heap.size, 1, none⟩ = some (.slice a hs.length cap) := BC.out.cell 1; have c0 : World.cell? q1 ⟨(w.heap.size + 1), 0, none⟩ = some (.int .i64 te) := BT.out.cell 0; have c1 : World.cell? q1 ⟨(w.heap.size + 1), 1, none⟩ = some (.int .i64 tb) := BT.out.cell 1; have c2 : World.cell? q1 ⟨(w.heap.size + 1), 2, none⟩ = some (.int .i64 td) := BT.out.cell 2; have c3 : World.cell? q1 ⟨(w.heap.size + 1), 3, none⟩ = some (.int .i64 tr) := BT.out.cell 3; clear k1)
    | (go_at_call 6; (with_reducible refine (ageBegun _).mono ?_); rintro z q2 ⟨rfl, k1⟩; have K2 : Hid (Kpt w q2) := ktr K1.out k1; have BC := Lib.hid (BC.out.kpt k1); have BT := Lib.hid (BT.out.kpt k1); have a0 : World.cell? q2 ⟨w.heap.size, 0, none⟩ = some (.int .i64 W) := BC.out.cell 0; have a1 : World.cell? q2 ⟨w.heap.size, 1, none⟩ = some (.slice a hs.length cap) := BC.out.cell 1; have c0 : World.cell? q2 ⟨(w.heap.size + 1), 0, none⟩ = some (.int .i64 te) := BT.out.cell 0; have c1 : World.cell? q2 ⟨(w.heap.size + 1), 1, none⟩ = some (.int .i64 tb) := BT.out.cell 1; have c2 : World.cell? q2 ⟨(w.heap.size + 1), 2, none⟩ = some (.int .i64 td) := BT.out.cell 2; have c3 : World.cell? q2 ⟨(w.heap.size + 1), 3, none⟩ = some (.int .i64 tr) := BT.out.cell 3; clear k1)
    | (go_at_call 7; (with_reducible refine (calBegun _ (Tab.kpt HT.out K2.out)).mono ?_); rintro z q3 ⟨rfl, k1⟩; have K3 : Hid (Kpt w q3) := ktr K2.out k1; have BC := Lib.hid (BC.out.kpt k1); have BT := Lib.hid (BT.out.kpt k1); have a0 : World.cell? q3 ⟨w.heap.size, 0, none⟩ = some (.int .i64 W) := BC.out.cell 0; have a1 : World.cell? q3 ⟨w.heap.size, 1, none⟩ = some (.slice a hs.length cap) := BC.out.cell 1; have c0 : World.cell? q3 ⟨(w.heap.size + 1), 0, none⟩ = some (.int .i64 te) := BT.out.cell 0; have c1 : World.cell? q3 ⟨(w.heap.size + 1), 1, none⟩ = some (.int .i64 tb) := BT.out.cell 1; have c2 : World.cell? q3 ⟨(w.heap.size + 1), 2, none⟩ = some (.int .i64 td) := BT.out.cell 2; have c3 : World.cell? q3 ⟨(w.heap.size + 1), 3, none⟩ = some (.int .i64 tr) := BT.out.cell 3; clear k1)
    | (go_at_call 8; (with_reducible refine (C1.out _ K3.out).mono ?_); rintro z q4 ⟨rfl, k1⟩; have K4 : Hid (Kpt w q4) := ktr K3.out k1; have BC := Lib.hid (BC.out.kpt k1); have BT := Lib.hid (BT.out.kpt k1); have a0 : World.cell? q4 ⟨w.heap.size, 0, none⟩ = some (.int .i64 W) := BC.out.cell 0; have a1 : World.cell? q4 ⟨w.heap.size, 1, none⟩ = some (.slice a hs.length cap) := BC.out.cell 1; have c0 : World.cell? q4 ⟨(w.heap.size + 1), 0, none⟩ = some (.int .i64 te) := BT.out.cell 0; have c1 : World.cell? q4 ⟨(w.heap.size + 1), 1, none⟩ = some (.int .i64 tb) := BT.out.cell 1; have c2 : World.cell? q4 ⟨(w.heap.size + 1), 2, none⟩ = some (.int .i64 td) := BT.out.cell 2; have c3 : World.cell? q4 ⟨(w.heap.size + 1), 3, none⟩ = some (.int .i64 tr) := BT.out.cell 3; clear k1)
    | (go_at_call 8; (with_reducible refine (C2.out _ K4.out).mono ?_); rintro z q5 ⟨rfl, k1⟩; have K5 : Hid (Kpt w q5) := ktr K4.out k1; have BC := Lib.hid (BC.out.kpt k1); have BT := Lib.hid (BT.out.kpt k1); have a0 : World.cell? q5 ⟨w.heap.size, 0, none⟩ = some (.int .i64 W) := BC.out.cell 0; have a1 : World.cell? q5 ⟨w.heap.size, 1, none⟩ = some (.slice a hs.length cap) := BC.out.cell 1; have c0 : World.cell? q5 ⟨(w.heap.size + 1), 0, none⟩ = some (.int .i64 te) := BT.out.cell 0; have c1 : World.cell? q5 ⟨(w.heap.size + 1), 1, none⟩ = some (.int .i64 tb) := BT.out.cell 1; have c2 : World.cell? q5 ⟨(w.heap.size + 1), 2, none⟩ = some (.int .i64 td) := BT.out.cell 2; have c3 : World.cell? q5 ⟨(w.heap.size + 1), 3, none⟩ = some (.int .i64 tr) := BT.out.cell 3; clear k1)
    | (go_at_call 8; (with_reducible refine (C3.out _ K5.out).mono ?_); rintro z q6 ⟨rfl, k1⟩; have K6 : Hid (Kpt w q6) := ktr K5.out k1; have BC := Lib.hid (BC.out.kpt k1); have BT := Lib.hid (BT.out.kpt k1); have a0 : World.cell? q6 ⟨w.heap.size, 0, none⟩ = some (.int .i64 W) := BC.out.cell 0; have a1 : World.cell? q6 ⟨w.heap.size, 1, none⟩ = some (.slice a hs.length cap) := BC.out.cell 1; have c0 : World.cell? q6 ⟨(w.heap.size + 1), 0, none⟩ = some (.int .i64 te) := BT.out.cell 0; have c1 : World.cell? q6 ⟨(w.heap.size + 1), 1, none⟩ = some (.int .i64 tb) := BT.out.cell 1; have c2 : World.cell? q6 ⟨(w.heap.size + 1), 2, none⟩ = some (.int .i64 td) := BT.out.cell 2; have c3 : World.cell? q6 ⟨(w.heap.size + 1), 3, none⟩ = some (.int .i64 tr) := BT.out.cell 3; have fz : World.frozen? q6 ⟨(w.heap.size + 1), 0, none⟩ = false := BT.out.frozen 0; have KS : Hid (Kpt w (q6.setCell ⟨(w.heap.size + 1), 0, none⟩ (.int .i64 (te + m)))) := Kpt.setCell K6.out (by simp) _; have s0 : World.cell? (q6.setCell ⟨(w.heap.size + 1), 0, none⟩ (.int .i64 (te + m))) ⟨(w.heap.size + 1), 0, none⟩ = some (.int .i64 (te + m)) := set_at c0; have s1 : World.cell? (q6.setCell ⟨(w.heap.size + 1), 0, none⟩ (.int .i64 (te + m))) ⟨(w.heap.size + 1), 1, none⟩ = some (.int .i64 tb) := (World.cell?_setCell_other _ _ _ _ (by simp)).trans c1; have s2 : World.cell? (q6.setCell ⟨(w.heap.size + 1), 0, none⟩ (.int .i64 (te + m))) ⟨(w.heap.size + 1), 2, none⟩ = some (.int .i64 td) := (World.cell?_setCell_other _ _ _ _ (by simp)).trans c2; have s3 : World.cell? (q6.setCell ⟨(w.heap.size + 1), 0, none⟩ (.int .i64 (te + m))) ⟨(w.heap.size + 1), 3, none⟩ = some (.int .i64 tr) := (World.cell?_setCell_other _ _ _ _ (by simp)).trans c3; have r0 : World.cell? (q6.setCell ⟨(w.heap.size + 1), 0, none⟩ (.int .i64 (te + m))) ⟨w.heap.size, 0, none⟩ = some (.int .i64 W) := (World.cell?_setCell_other _ _ _ _ (by simp)).trans a0; have r1 : World.cell? (q6.setCell ⟨(w.heap.size + 1), 0, none⟩ (.int .i64 (te + m))) ⟨w.heap.size, 1, none⟩ = some (.slice a hs.length cap) := (World.cell?_setCell_other _ _ _ _ (by simp)).trans a1; have BC := Lib.hid (Blk.away BC.out (p := ⟨(w.heap.size + 1), 0, none⟩) (by simp) (.int .i64 (te + m))); have BT := Lib.hid (Blk.put BT.out 0 (.int .i64 (te + m))); clear k1)
    | (go_at_call 5; (with_reducible refine (HY.out _ KS.out).mono ?_); rintro z q7 ⟨rfl, k1⟩; have K7 : Hid (Kpt w q7) := ktr KS.out k1; have BC := Lib.hid (BC.out.kpt k1); have BT := Lib.hid (BT.out.kpt k1); clear k1))
  go_ret
  exact ⟨rfl, K7.out⟩

set_option maxRecDepth 100000 in
set_option maxHeartbeats 4000000 in
theorem ad_ok (W te tb td tr n m : Int) (A1 A2 A3 e1 x1 x2 x3 b1 b2 b3 e2 : Int) (v : Value) (hs : List Int) (w : World) (hr : Reads w v hs) (hf : Fits hs) (ht : Tab w) (HX : (∀ w' : World, Kpt w w' → Calls Tryd.prog 5 #[calV W v, .agg #[.int .i64 te, .int .i64 tb, .int .i64 td, .int .i64 tr], .int .i64 n] w' fun z w'' => z = .returned (.tuple #[.int .i64 A1, .int .i64 A2, .int .i64 A3, .int .i64 e1]) ∧ Kpt w' w'')) (C1 : (∀ w' : World, Kpt w w' → Calls Tryd.prog 8 #[calV W v, .int .i64 n, .int .i64 A1] w' fun z w'' => z = .returned (.tuple #[.int .i64 x1, .int .i64 0]) ∧ Kpt w' w'')) (C2 : (∀ w' : World, Kpt w w' → Calls Tryd.prog 8 #[calV W v, .int .i64 A1, .int .i64 A2] w' fun z w'' => z = .returned (.tuple #[.int .i64 x2, .int .i64 0]) ∧ Kpt w' w'')) (C3 : (∀ w' : World, Kpt w w' → Calls Tryd.prog 8 #[calV W v, .int .i64 A2, .int .i64 A3] w' fun z w'' => z = .returned (.tuple #[.int .i64 x3, .int .i64 0]) ∧ Kpt w' w'')) (z1 : (e1 != 0) = false) (y1 : (x1 != te) = false) (y2 : (x2 != tb) = false) (y3 : (x3 != td) = false) (HY : (∀ w' : World, Kpt w w' → Calls Tryd.prog 5 #[calV W v, .agg #[.int .i64 (te + m), .int .i64 tb, .int .i64 td, .int .i64 tr], .int .i64 n] w' fun z w'' => z = .returned (.tuple #[.int .i64 b1, .int .i64 b2, .int .i64 b3, .int .i64 e2]) ∧ Kpt w' w'')) (m0 : ¬ m < 0) (m1 : ¬ 100 < m) (m2 : decide (m < 0) = false) (m3 : decide (100 < m) = false) (t0 : 0 ≤ te) (t1 : te ≤ 100) (z2 : (e2 != 0) = false) (g1 : A1 ≤ b1) (g2 : A2 ≤ b2) (g3 : A3 ≤ b3) (y4 : decide (A1 ≤ b1) = true) (y5 : decide (A2 ≤ b2) = true) (y6 : decide (A3 ≤ b3) = true) :
    Calls Tryd.prog 3 #[calV W v, .agg #[.int .i64 te, .int .i64 tb, .int .i64 td, .int .i64 tr], .int .i64 n, .int .i64 m] w fun z w' => z = .returned (.bool true) ∧ Kpt w w' := by
  have HT := Lib.hid ht
  clear ht
  have HX := Lib.hid HX
  have C1 := Lib.hid C1
  have C2 := Lib.hid C2
  have C3 := Lib.hid C3
  have HY := Lib.hid HY
  have K0 : Hid (Kpt w ((w.alloc (.cells #[.int .i64 W, v] 24)).alloc (.cells #[.int .i64 te, .int .i64 tb, .int .i64 td, .int .i64 tr] 26))) := ((Kpt.refl w).alloc _).alloc _
  have BC : Hid (Blk ((w.alloc (.cells #[.int .i64 W, v] 24)).alloc (.cells #[.int .i64 te, .int .i64 tb, .int .i64 td, .int .i64 tr] 26)) w.heap.size #[.int .i64 W, v] 24) := (Blk.made w _ _).alloc _
  have BT : Hid (Blk ((w.alloc (.cells #[.int .i64 W, v] 24)).alloc (.cells #[.int .i64 te, .int .i64 tb, .int .i64 td, .int .i64 tr] 26)) (w.heap.size + 1) #[.int .i64 te, .int .i64 tb, .int .i64 td, .int .i64 tr] 26) := by
    have := (Blk.made (w.alloc (.cells #[.int .i64 W, v] 24)) #[.int .i64 te, .int .i64 tb, .int .i64 td, .int .i64 tr] 26)
    unfold Hid; simpa using this
  obtain ⟨a, cap, rfl, -⟩ := hr
  unfold calV at *
  go_enter Tryd.func3, Tryd.ntmps3
  go_wp2_with (first
    | (go_at_call 5; (with_reducible refine (HX.out _ K0.out).mono ?_); rintro z q1 ⟨rfl, k1⟩; have K1 : Hid (Kpt w q1) := ktr K0.out k1; have BC := Lib.hid (BC.out.kpt k1); have BT := Lib.hid (BT.out.kpt k1); have a0 : World.cell? q1 ⟨w.heap.size, 0, none⟩ = some (.int .i64 W) := BC.out.cell 0; have a1 : World.cell? q1 ⟨w.heap.size, 1, none⟩ = some (.slice a hs.length cap) := BC.out.cell 1; have c0 : World.cell? q1 ⟨(w.heap.size + 1), 0, none⟩ = some (.int .i64 te) := BT.out.cell 0; have c1 : World.cell? q1 ⟨(w.heap.size + 1), 1, none⟩ = some (.int .i64 tb) := BT.out.cell 1; have c2 : World.cell? q1 ⟨(w.heap.size + 1), 2, none⟩ = some (.int .i64 td) := BT.out.cell 2; have c3 : World.cell? q1 ⟨(w.heap.size + 1), 3, none⟩ = some (.int .i64 tr) := BT.out.cell 3; clear k1)
    | (go_at_call 6; (with_reducible refine (ageBegun _).mono ?_); rintro z q2 ⟨rfl, k1⟩; have K2 : Hid (Kpt w q2) := ktr K1.out k1; have BC := Lib.hid (BC.out.kpt k1); have BT := Lib.hid (BT.out.kpt k1); have a0 : World.cell? q2 ⟨w.heap.size, 0, none⟩ = some (.int .i64 W) := BC.out.cell 0; have a1 : World.cell? q2 ⟨w.heap.size, 1, none⟩ = some (.slice a hs.length cap) := BC.out.cell 1; have c0 : World.cell? q2 ⟨(w.heap.size + 1), 0, none⟩ = some (.int .i64 te) := BT.out.cell 0; have c1 : World.cell? q2 ⟨(w.heap.size + 1), 1, none⟩ = some (.int .i64 tb) := BT.out.cell 1; have c2 : World.cell? q2 ⟨(w.heap.size + 1), 2, none⟩ = some (.int .i64 td) := BT.out.cell 2; have c3 : World.cell? q2 ⟨(w.heap.size + 1), 3, none⟩ = some (.int .i64 tr) := BT.out.cell 3; clear k1)
    | (go_at_call 7; (with_reducible refine (calBegun _ (Tab.kpt HT.out K2.out)).mono ?_); rintro z q3 ⟨rfl, k1⟩; have K3 : Hid (Kpt w q3) := ktr K2.out k1; have BC := Lib.hid (BC.out.kpt k1); have BT := Lib.hid (BT.out.kpt k1); have a0 : World.cell? q3 ⟨w.heap.size, 0, none⟩ = some (.int .i64 W) := BC.out.cell 0; have a1 : World.cell? q3 ⟨w.heap.size, 1, none⟩ = some (.slice a hs.length cap) := BC.out.cell 1; have c0 : World.cell? q3 ⟨(w.heap.size + 1), 0, none⟩ = some (.int .i64 te) := BT.out.cell 0; have c1 : World.cell? q3 ⟨(w.heap.size + 1), 1, none⟩ = some (.int .i64 tb) := BT.out.cell 1; have c2 : World.cell? q3 ⟨(w.heap.size + 1), 2, none⟩ = some (.int .i64 td) := BT.out.cell 2; have c3 : World.cell? q3 ⟨(w.heap.size + 1), 3, none⟩ = some (.int .i64 tr) := BT.out.cell 3; clear k1)
    | (go_at_call 8; (with_reducible refine (C1.out _ K3.out).mono ?_); rintro z q4 ⟨rfl, k1⟩; have K4 : Hid (Kpt w q4) := ktr K3.out k1; have BC := Lib.hid (BC.out.kpt k1); have BT := Lib.hid (BT.out.kpt k1); have a0 : World.cell? q4 ⟨w.heap.size, 0, none⟩ = some (.int .i64 W) := BC.out.cell 0; have a1 : World.cell? q4 ⟨w.heap.size, 1, none⟩ = some (.slice a hs.length cap) := BC.out.cell 1; have c0 : World.cell? q4 ⟨(w.heap.size + 1), 0, none⟩ = some (.int .i64 te) := BT.out.cell 0; have c1 : World.cell? q4 ⟨(w.heap.size + 1), 1, none⟩ = some (.int .i64 tb) := BT.out.cell 1; have c2 : World.cell? q4 ⟨(w.heap.size + 1), 2, none⟩ = some (.int .i64 td) := BT.out.cell 2; have c3 : World.cell? q4 ⟨(w.heap.size + 1), 3, none⟩ = some (.int .i64 tr) := BT.out.cell 3; clear k1)
    | (go_at_call 8; (with_reducible refine (C2.out _ K4.out).mono ?_); rintro z q5 ⟨rfl, k1⟩; have K5 : Hid (Kpt w q5) := ktr K4.out k1; have BC := Lib.hid (BC.out.kpt k1); have BT := Lib.hid (BT.out.kpt k1); have a0 : World.cell? q5 ⟨w.heap.size, 0, none⟩ = some (.int .i64 W) := BC.out.cell 0; have a1 : World.cell? q5 ⟨w.heap.size, 1, none⟩ = some (.slice a hs.length cap) := BC.out.cell 1; have c0 : World.cell? q5 ⟨(w.heap.size + 1), 0, none⟩ = some (.int .i64 te) := BT.out.cell 0; have c1 : World.cell? q5 ⟨(w.heap.size + 1), 1, none⟩ = some (.int .i64 tb) := BT.out.cell 1; have c2 : World.cell? q5 ⟨(w.heap.size + 1), 2, none⟩ = some (.int .i64 td) := BT.out.cell 2; have c3 : World.cell? q5 ⟨(w.heap.size + 1), 3, none⟩ = some (.int .i64 tr) := BT.out.cell 3; clear k1)
    | (go_at_call 8; (with_reducible refine (C3.out _ K5.out).mono ?_); rintro z q6 ⟨rfl, k1⟩; have K6 : Hid (Kpt w q6) := ktr K5.out k1; have BC := Lib.hid (BC.out.kpt k1); have BT := Lib.hid (BT.out.kpt k1); have a0 : World.cell? q6 ⟨w.heap.size, 0, none⟩ = some (.int .i64 W) := BC.out.cell 0; have a1 : World.cell? q6 ⟨w.heap.size, 1, none⟩ = some (.slice a hs.length cap) := BC.out.cell 1; have c0 : World.cell? q6 ⟨(w.heap.size + 1), 0, none⟩ = some (.int .i64 te) := BT.out.cell 0; have c1 : World.cell? q6 ⟨(w.heap.size + 1), 1, none⟩ = some (.int .i64 tb) := BT.out.cell 1; have c2 : World.cell? q6 ⟨(w.heap.size + 1), 2, none⟩ = some (.int .i64 td) := BT.out.cell 2; have c3 : World.cell? q6 ⟨(w.heap.size + 1), 3, none⟩ = some (.int .i64 tr) := BT.out.cell 3; have fz : World.frozen? q6 ⟨(w.heap.size + 1), 0, none⟩ = false := BT.out.frozen 0; have KS : Hid (Kpt w (q6.setCell ⟨(w.heap.size + 1), 0, none⟩ (.int .i64 (te + m)))) := Kpt.setCell K6.out (by simp) _; have s0 : World.cell? (q6.setCell ⟨(w.heap.size + 1), 0, none⟩ (.int .i64 (te + m))) ⟨(w.heap.size + 1), 0, none⟩ = some (.int .i64 (te + m)) := set_at c0; have s1 : World.cell? (q6.setCell ⟨(w.heap.size + 1), 0, none⟩ (.int .i64 (te + m))) ⟨(w.heap.size + 1), 1, none⟩ = some (.int .i64 tb) := (World.cell?_setCell_other _ _ _ _ (by simp)).trans c1; have s2 : World.cell? (q6.setCell ⟨(w.heap.size + 1), 0, none⟩ (.int .i64 (te + m))) ⟨(w.heap.size + 1), 2, none⟩ = some (.int .i64 td) := (World.cell?_setCell_other _ _ _ _ (by simp)).trans c2; have s3 : World.cell? (q6.setCell ⟨(w.heap.size + 1), 0, none⟩ (.int .i64 (te + m))) ⟨(w.heap.size + 1), 3, none⟩ = some (.int .i64 tr) := (World.cell?_setCell_other _ _ _ _ (by simp)).trans c3; have r0 : World.cell? (q6.setCell ⟨(w.heap.size + 1), 0, none⟩ (.int .i64 (te + m))) ⟨w.heap.size, 0, none⟩ = some (.int .i64 W) := (World.cell?_setCell_other _ _ _ _ (by simp)).trans a0; have r1 : World.cell? (q6.setCell ⟨(w.heap.size + 1), 0, none⟩ (.int .i64 (te + m))) ⟨w.heap.size, 1, none⟩ = some (.slice a hs.length cap) := (World.cell?_setCell_other _ _ _ _ (by simp)).trans a1; have BC := Lib.hid (Blk.away BC.out (p := ⟨(w.heap.size + 1), 0, none⟩) (by simp) (.int .i64 (te + m))); have BT := Lib.hid (Blk.put BT.out 0 (.int .i64 (te + m))); clear k1)
    | (go_at_call 5; (with_reducible refine (HY.out _ KS.out).mono ?_); rintro z q7 ⟨rfl, k1⟩; have K7 : Hid (Kpt w q7) := ktr KS.out k1; have BC := Lib.hid (BC.out.kpt k1); have BT := Lib.hid (BT.out.kpt k1); clear k1))
  go_ret
  exact ⟨rfl, K7.out⟩

/-- so many steps on there are as many business days between -/
theorem ste_cnt {W : Int} {hs : List Int} {n m : Int} (hm : 0 ≤ m) (h : steE W hs n m = 0) : couR W hs n (steR W hs n m) = m ∧ couE W hs n (steR W hs n m) = 0 := by
  rcases ste_cases W hs n m with ⟨_, hE, n0, n1, _, _, r0, r1, c⟩ | ⟨e, _⟩
  · rcases c with ⟨z, e⟩ | ⟨p, l, b, k⟩ | ⟨q, _⟩
    · rw [e]
      obtain ⟨c1, c2⟩ := cou_ok (W := W) (hs := hs) (f := n) (t := n) hE n0 (Int.le_refl _) n1
      rw [c1, c2, cnt_self, z]; exact ⟨rfl, rfl⟩
    · obtain ⟨c1, c2⟩ := cou_ok (W := W) (hs := hs) (f := n) (t := steR W hs n m) hE n0 (Int.le_of_lt l) r1
      rw [c1, c2, k]; exact ⟨by omega, rfl⟩
    · omega
  · exact absurd h e
/-- with more steps no day is earlier -/
theorem ste_more {W : Int} {hs : List Int} {n m k : Int} (hm : 0 ≤ m) (hk : m ≤ k) (h1 : steE W hs n m = 0) (h2 : steE W hs n k = 0) : steR W hs n m ≤ steR W hs n k := by
  rcases ste_cases W hs n m with ⟨_, _, _, _, _, _, _, _, c1⟩ | ⟨e, _⟩
  · rcases ste_cases W hs n k with ⟨_, _, _, _, _, _, _, _, c2⟩ | ⟨e, _⟩
    · rcases c1 with ⟨_, e1⟩ | ⟨p1, l1, b1, k1⟩ | ⟨p1, _⟩
      · rcases c2 with ⟨_, e2⟩ | ⟨p2, l2, _⟩ | ⟨p2, _⟩ <;> omega
      · rcases c2 with ⟨p2, e2⟩ | ⟨p2, l2, b2, k2⟩ | ⟨p2, _⟩
        · omega
        · rcases Int.lt_or_le (steR W hs n k) (steR W hs n m) with g | g
          · exfalso
            have A1 := cnt_add (bizB W hs) (show n ≤ steR W hs n k by omega) (show steR W hs n k ≤ steR W hs n m by omega)
            have A3 := cnt_pos (β := bizB W hs) (a := steR W hs n k) (b := steR W hs n m) g (Int.le_refl _) b1
            omega
          · exact g
        · omega
      · omega
    · exact absurd h2 e
  · exact absurd h1 e
theorem day_more {W : Int} {hs : List Int} {n e b d m : Int} (he : 0 ≤ e) (hb : 0 ≤ b) (hd : 0 ≤ d) (hm : 0 ≤ m) (h1 : wlkE W hs n e b d = 0) (h2 : wlkE W hs n (e + m) b d = 0) (k : Nat) (hk : k < 3) : dayAt W hs n e b d (k + 1) ≤ dayAt W hs n (e + m) b d (k + 1) := by
  induction k with
  | zero => exact ste_more he (show e ≤ e + m by omega) (wlk_0 h1 0 (by omega)) (wlk_0 h2 0 (by omega))
  | succ k ih =>
    rcases (show k = 0 ∨ k = 1 by omega) with rfl | rfl
    · exact ste_mono hb (ih (by omega)) (wlk_0 h1 1 (by omega)) (wlk_0 h2 1 (by omega))
    · exact ste_mono hd (ih (by omega)) (wlk_0 h1 2 (by omega)) (wlk_0 h2 2 (by omega))
theorem bne_of {a b : Int} (h : a = b) : (a != b) = false := by rw [h]; simp
theorem ageDays_walk (W te tb td tr n m : Int) (v : Value) (hs : List Int) (w : World) (ht : Tab w) (hr : Reads w v hs) (hf : Fits hs) :
    Calls Tryd.prog 3 #[calV W v, .agg #[.int .i64 te, .int .i64 tb, .int .i64 td, .int .i64 tr], .int .i64 n, .int .i64 m] w fun z w' => z = .returned (.bool true) ∧ Kpt w w' := by
  have HX := fun w' (k : Kpt w w') => days_run W n te tb td tr v hs w' (hr.kpt k) hf
  have HY := fun w' (k : Kpt w w') => days_run W n (te + m) tb td tr v hs w' (hr.kpt k) hf
  by_cases h1 : agE W hs te tb td tr n = 0
  · have z1 : (agE W hs te tb td tr n != 0) = false := by rw [h1]; rfl
    obtain ⟨c, w1⟩ := ag_0 h1
    obtain ⟨hE, b1, b2, b3, b4⟩ := ct_0 c
    have d1 : agD W hs te tb td tr n 1 = dayAt W hs n te tb td 1 := by unfold agD; rw [if_pos h1]
    have d2 : agD W hs te tb td tr n 2 = dayAt W hs n te tb td 2 := by unfold agD; rw [if_pos h1]
    have d3 : agD W hs te tb td tr n 3 = dayAt W hs n te tb td 3 := by unfold agD; rw [if_pos h1]
    obtain ⟨p1, q1⟩ := ste_cnt (W := W) (hs := hs) (n := n) b1.1 (wlk_0 w1 0 (by omega))
    obtain ⟨p2, q2⟩ := ste_cnt (W := W) (hs := hs) (n := dayAt W hs n te tb td 1) b2.1 (wlk_0 w1 1 (by omega))
    obtain ⟨p3, q3⟩ := ste_cnt (W := W) (hs := hs) (n := dayAt W hs n te tb td 2) b3.1 (wlk_0 w1 2 (by omega))
    have C1 : (∀ w' : World, Kpt w w' → Calls Tryd.prog 8 #[calV W v, .int .i64 n, .int .i64 (agD W hs te tb td tr n 1)] w' fun z w'' => z = .returned (.tuple #[.int .i64 (couR W hs n (agD W hs te tb td tr n 1)), .int .i64 0]) ∧ Kpt w' w'') := fun w' k => by have := count_any W n (agD W hs te tb td tr n 1) v hs w' (hr.kpt k) hf; rw [d1] at this ⊢; rw [show couE W hs n (dayAt W hs n te tb td 1) = 0 from q1] at this; exact this
    have C2 : (∀ w' : World, Kpt w w' → Calls Tryd.prog 8 #[calV W v, .int .i64 (agD W hs te tb td tr n 1), .int .i64 (agD W hs te tb td tr n 2)] w' fun z w'' => z = .returned (.tuple #[.int .i64 (couR W hs (agD W hs te tb td tr n 1) (agD W hs te tb td tr n 2)), .int .i64 0]) ∧ Kpt w' w'') := fun w' k => by have := count_any W (agD W hs te tb td tr n 1) (agD W hs te tb td tr n 2) v hs w' (hr.kpt k) hf; rw [d1, d2] at this ⊢; rw [show couE W hs (dayAt W hs n te tb td 1) (dayAt W hs n te tb td 2) = 0 from q2] at this; exact this
    have C3 : (∀ w' : World, Kpt w w' → Calls Tryd.prog 8 #[calV W v, .int .i64 (agD W hs te tb td tr n 2), .int .i64 (agD W hs te tb td tr n 3)] w' fun z w'' => z = .returned (.tuple #[.int .i64 (couR W hs (agD W hs te tb td tr n 2) (agD W hs te tb td tr n 3)), .int .i64 0]) ∧ Kpt w' w'') := fun w' k => by have := count_any W (agD W hs te tb td tr n 2) (agD W hs te tb td tr n 3) v hs w' (hr.kpt k) hf; rw [d2, d3] at this ⊢; rw [show couE W hs (dayAt W hs n te tb td 2) (dayAt W hs n te tb td 3) = 0 from q3] at this; exact this
    have y1 := bne_of (show couR W hs n (agD W hs te tb td tr n 1) = te by rw [d1]; exact p1)
    have y2 := bne_of (show couR W hs (agD W hs te tb td tr n 1) (agD W hs te tb td tr n 2) = tb by rw [d1, d2]; exact p2)
    have y3 := bne_of (show couR W hs (agD W hs te tb td tr n 2) (agD W hs te tb td tr n 3) = td by rw [d2, d3]; exact p3)
    by_cases m0 : m < 0
    · exact ad_lo W te tb td tr n m _ _ _ _ _ _ _ 0 0 0 0 v hs w hr hf ht HX C1 C2 C3 z1 y1 y2 y3 m0 (decide_eq_true m0)
    · by_cases m1 : 100 < m
      · exact ad_hi W te tb td tr n m _ _ _ _ _ _ _ 0 0 0 0 v hs w hr hf ht HX C1 C2 C3 z1 y1 y2 y3 m0 (decide_eq_false m0) m1 (decide_eq_true m1)
      · by_cases h2 : agE W hs (te + m) tb td tr n = 0
        · obtain ⟨_, w2⟩ := ag_0 h2
          have z2 : (agE W hs (te + m) tb td tr n != 0) = false := by rw [h2]; rfl
          have mono : ∀ k, k < 3 → agD W hs te tb td tr n (k + 1) ≤ agD W hs (te + m) tb td tr n (k + 1) := fun k hk => by
            unfold agD; rw [if_pos h1, if_pos h2]
            exact day_more b1.1 b2.1 b3.1 (by omega) w1 w2 k hk
          have g1 := mono 0 (by omega)
          have g2 := mono 1 (by omega)
          have g3 := mono 2 (by omega)
          exact ad_ok W te tb td tr n m _ _ _ _ _ _ _ _ _ _ _ v hs w hr hf ht HX C1 C2 C3 z1 y1 y2 y3 HY m0 m1 (decide_eq_false m0) (decide_eq_false m1) b1.1 b1.2 z2 g1 g2 g3 (decide_eq_true g1) (decide_eq_true g2) (decide_eq_true g3)
        · exact ad_err W te tb td tr n m _ _ _ _ _ _ _ _ _ _ _ v hs w hr hf ht HX C1 C2 C3 z1 y1 y2 y3 HY m0 m1 (decide_eq_false m0) (decide_eq_false m1) b1.1 b1.2 (bne_iff_ne.2 h2)
  · have d0 : ∀ k, agD W hs te tb td tr n k = 0 := fun k => by unfold agD; rw [if_neg h1]
    exact ad_e W te tb td tr n m _ _ _ _ 0 0 0 0 0 0 0 v hs w hr hf ht HX (bne_iff_ne.2 h1) (by rw [d0]; rfl) (by rw [d0]; rfl) (by rw [d0]; rfl)

end Go.Proofs.YtjjcaebhhlglkaaDoor
