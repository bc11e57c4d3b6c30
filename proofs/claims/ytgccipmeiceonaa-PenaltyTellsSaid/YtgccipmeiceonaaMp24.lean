/-
  Merged: RefAge2.
-/
import Derived.Test.YtgccipmeiceonaaMp23
-- RefAge2
namespace Go.Proofs.Ytgccipmeiceonaa
open Go.RowKit
set_option linter.unusedVariables false

set_option maxRecDepth 100000 in
set_option maxHeartbeats 4000000 in
theorem rae_c (W te tb td tr i f t c p d u x b y q E g1 g2 g3 : Int) (v : Value) (hs : List Int) (w : World) (hr : Reads w v hs) (C0 : (∀ w' : World, Kpt w w' → Calls Try.prog 109 #[calV W v] w' fun z w'' => z = .returned (.int .i64 E) ∧ Kpt w' w'')) (z0 : (E == 0) = false) :
    Calls Try.prog 65 #[calV W v, .agg #[.int .i64 te, .int .i64 tb, .int .i64 td, .int .i64 tr], .agg #[.int .i64 i, .int .i64 f, .int .i64 t, .int .i64 c, .int .i64 p, .int .i64 d, .int .i64 u, .int .i64 x, .int .i64 b, .int .i64 y], .int .i64 q] w fun z w' => z = .returned (.int .i64 E) ∧ Kpt w w' := by
  have C0 := Lib.hid C0
  have K0 : Hid (Kpt w (((w.alloc (.cells #[.int .i64 W, v] 24)).alloc (.cells #[.int .i64 te, .int .i64 tb, .int .i64 td, .int .i64 tr] 78)).alloc (.cells #[.int .i64 i, .int .i64 f, .int .i64 t, .int .i64 c, .int .i64 p, .int .i64 d, .int .i64 u, .int .i64 x, .int .i64 b, .int .i64 y] 38))) := (((Kpt.refl w).alloc _).alloc _).alloc _
  have BC : Hid (Blk (((w.alloc (.cells #[.int .i64 W, v] 24)).alloc (.cells #[.int .i64 te, .int .i64 tb, .int .i64 td, .int .i64 tr] 78)).alloc (.cells #[.int .i64 i, .int .i64 f, .int .i64 t, .int .i64 c, .int .i64 p, .int .i64 d, .int .i64 u, .int .i64 x, .int .i64 b, .int .i64 y] 38)) w.heap.size #[.int .i64 W, v] 24) := ((Blk.made w _ _).alloc _).alloc _
  have BT : Hid (Blk (((w.alloc (.cells #[.int .i64 W, v] 24)).alloc (.cells #[.int .i64 te, .int .i64 tb, .int .i64 td, .int .i64 tr] 78)).alloc (.cells #[.int .i64 i, .int .i64 f, .int .i64 t, .int .i64 c, .int .i64 p, .int .i64 d, .int .i64 u, .int .i64 x, .int .i64 b, .int .i64 y] 38)) (w.heap.size + 1) #[.int .i64 te, .int .i64 tb, .int .i64 td, .int .i64 tr] 78) := by
    have := (Blk.made (w.alloc (.cells #[.int .i64 W, v] 24)) #[.int .i64 te, .int .i64 tb, .int .i64 td, .int .i64 tr] 78).alloc (.cells #[.int .i64 i, .int .i64 f, .int .i64 t, .int .i64 c, .int .i64 p, .int .i64 d, .int .i64 u, .int .i64 x, .int .i64 b, .int .i64 y] 38)
    unfold Hid; simpa using this
  have BF : Hid (Blk (((w.alloc (.cells #[.int .i64 W, v] 24)).alloc (.cells #[.int .i64 te, .int .i64 tb, .int .i64 td, .int .i64 tr] 78)).alloc (.cells #[.int .i64 i, .int .i64 f, .int .i64 t, .int .i64 c, .int .i64 p, .int .i64 d, .int .i64 u, .int .i64 x, .int .i64 b, .int .i64 y] 38)) (w.heap.size + 2) #[.int .i64 i, .int .i64 f, .int .i64 t, .int .i64 c, .int .i64 p, .int .i64 d, .int .i64 u, .int .i64 x, .int .i64 b, .int .i64 y] 38) := by
    have := Blk.made ((w.alloc (.cells #[.int .i64 W, v] 24)).alloc (.cells #[.int .i64 te, .int .i64 tb, .int .i64 td, .int .i64 tr] 78)) #[.int .i64 i, .int .i64 f, .int .i64 t, .int .i64 c, .int .i64 p, .int .i64 d, .int .i64 u, .int .i64 x, .int .i64 b, .int .i64 y] 38
    unfold Hid; simpa using this
  obtain ⟨a, cap, rfl, -⟩ := hr
  unfold calV at *
  go_enter Try.func65, Try.ntmps65
  go_wp2_with (first
    | (go_at_call 109; (with_reducible refine (C0.out _ K0.out).mono ?_); rintro z q1 ⟨rfl, k1⟩; have K1 : Hid (Kpt w q1) := ktr K0.out k1; have BC := Lib.hid (BC.out.kpt k1); have BT := Lib.hid (BT.out.kpt k1); have BF := Lib.hid (BF.out.kpt k1); have a0 : World.cell? q1 ⟨w.heap.size, 0, none⟩ = some (.int .i64 W) := BC.out.cell 0; have a1 : World.cell? q1 ⟨w.heap.size, 1, none⟩ = some (.slice a hs.length cap) := BC.out.cell 1; have c0 : World.cell? q1 ⟨(w.heap.size + 1), 0, none⟩ = some (.int .i64 te) := BT.out.cell 0; have c1 : World.cell? q1 ⟨(w.heap.size + 1), 1, none⟩ = some (.int .i64 tb) := BT.out.cell 1; have c2 : World.cell? q1 ⟨(w.heap.size + 1), 2, none⟩ = some (.int .i64 td) := BT.out.cell 2; have c3 : World.cell? q1 ⟨(w.heap.size + 1), 3, none⟩ = some (.int .i64 tr) := BT.out.cell 3; have fd5 : World.cell? q1 ⟨(w.heap.size + 2), 5, none⟩ = some (.int .i64 d) := BF.out.cell 5; clear k1)
    | (refine wp_loadF rfl (.tmp 6) rfl (w.heap.size + 2) _ rfl BF.out rfl ?_))
  go_ret
  exact ⟨rfl, K1.out⟩

set_option maxRecDepth 100000 in
set_option maxHeartbeats 4000000 in
theorem rae_t (W te tb td tr i f t c p d u x b y q E g1 g2 g3 : Int) (v : Value) (hs : List Int) (w : World) (hr : Reads w v hs) (C0 : (∀ w' : World, Kpt w w' → Calls Try.prog 109 #[calV W v] w' fun z w'' => z = .returned (.int .i64 0) ∧ Kpt w' w'')) (C1 : (∀ w' : World, Kpt w w' → Calls Try.prog 112 #[.agg #[.int .i64 te, .int .i64 tb, .int .i64 td, .int .i64 tr]] w' fun z w'' => z = .returned (.int .i64 E) ∧ Kpt w' w'')) (z0 : (E == 0) = false) :
    Calls Try.prog 65 #[calV W v, .agg #[.int .i64 te, .int .i64 tb, .int .i64 td, .int .i64 tr], .agg #[.int .i64 i, .int .i64 f, .int .i64 t, .int .i64 c, .int .i64 p, .int .i64 d, .int .i64 u, .int .i64 x, .int .i64 b, .int .i64 y], .int .i64 q] w fun z w' => z = .returned (.int .i64 E) ∧ Kpt w w' := by
  have C0 := Lib.hid C0
  have C1 := Lib.hid C1
  have K0 : Hid (Kpt w (((w.alloc (.cells #[.int .i64 W, v] 24)).alloc (.cells #[.int .i64 te, .int .i64 tb, .int .i64 td, .int .i64 tr] 78)).alloc (.cells #[.int .i64 i, .int .i64 f, .int .i64 t, .int .i64 c, .int .i64 p, .int .i64 d, .int .i64 u, .int .i64 x, .int .i64 b, .int .i64 y] 38))) := (((Kpt.refl w).alloc _).alloc _).alloc _
  have BC : Hid (Blk (((w.alloc (.cells #[.int .i64 W, v] 24)).alloc (.cells #[.int .i64 te, .int .i64 tb, .int .i64 td, .int .i64 tr] 78)).alloc (.cells #[.int .i64 i, .int .i64 f, .int .i64 t, .int .i64 c, .int .i64 p, .int .i64 d, .int .i64 u, .int .i64 x, .int .i64 b, .int .i64 y] 38)) w.heap.size #[.int .i64 W, v] 24) := ((Blk.made w _ _).alloc _).alloc _
  have BT : Hid (Blk (((w.alloc (.cells #[.int .i64 W, v] 24)).alloc (.cells #[.int .i64 te, .int .i64 tb, .int .i64 td, .int .i64 tr] 78)).alloc (.cells #[.int .i64 i, .int .i64 f, .int .i64 t, .int .i64 c, .int .i64 p, .int .i64 d, .int .i64 u, .int .i64 x, .int .i64 b, .int .i64 y] 38)) (w.heap.size + 1) #[.int .i64 te, .int .i64 tb, .int .i64 td, .int .i64 tr] 78) := by
    have := (Blk.made (w.alloc (.cells #[.int .i64 W, v] 24)) #[.int .i64 te, .int .i64 tb, .int .i64 td, .int .i64 tr] 78).alloc (.cells #[.int .i64 i, .int .i64 f, .int .i64 t, .int .i64 c, .int .i64 p, .int .i64 d, .int .i64 u, .int .i64 x, .int .i64 b, .int .i64 y] 38)
    unfold Hid; simpa using this
  have BF : Hid (Blk (((w.alloc (.cells #[.int .i64 W, v] 24)).alloc (.cells #[.int .i64 te, .int .i64 tb, .int .i64 td, .int .i64 tr] 78)).alloc (.cells #[.int .i64 i, .int .i64 f, .int .i64 t, .int .i64 c, .int .i64 p, .int .i64 d, .int .i64 u, .int .i64 x, .int .i64 b, .int .i64 y] 38)) (w.heap.size + 2) #[.int .i64 i, .int .i64 f, .int .i64 t, .int .i64 c, .int .i64 p, .int .i64 d, .int .i64 u, .int .i64 x, .int .i64 b, .int .i64 y] 38) := by
    have := Blk.made ((w.alloc (.cells #[.int .i64 W, v] 24)).alloc (.cells #[.int .i64 te, .int .i64 tb, .int .i64 td, .int .i64 tr] 78)) #[.int .i64 i, .int .i64 f, .int .i64 t, .int .i64 c, .int .i64 p, .int .i64 d, .int .i64 u, .int .i64 x, .int .i64 b, .int .i64 y] 38
    unfold Hid; simpa using this
  obtain ⟨a, cap, rfl, -⟩ := hr
  unfold calV at *
  go_enter Try.func65, Try.ntmps65
  go_wp2_with (first
    | (go_at_call 109; (with_reducible refine (C0.out _ K0.out).mono ?_); rintro z q1 ⟨rfl, k1⟩; have K1 : Hid (Kpt w q1) := ktr K0.out k1; have BC := Lib.hid (BC.out.kpt k1); have BT := Lib.hid (BT.out.kpt k1); have BF := Lib.hid (BF.out.kpt k1); have a0 : World.cell? q1 ⟨w.heap.size, 0, none⟩ = some (.int .i64 W) := BC.out.cell 0; have a1 : World.cell? q1 ⟨w.heap.size, 1, none⟩ = some (.slice a hs.length cap) := BC.out.cell 1; have c0 : World.cell? q1 ⟨(w.heap.size + 1), 0, none⟩ = some (.int .i64 te) := BT.out.cell 0; have c1 : World.cell? q1 ⟨(w.heap.size + 1), 1, none⟩ = some (.int .i64 tb) := BT.out.cell 1; have c2 : World.cell? q1 ⟨(w.heap.size + 1), 2, none⟩ = some (.int .i64 td) := BT.out.cell 2; have c3 : World.cell? q1 ⟨(w.heap.size + 1), 3, none⟩ = some (.int .i64 tr) := BT.out.cell 3; have fd5 : World.cell? q1 ⟨(w.heap.size + 2), 5, none⟩ = some (.int .i64 d) := BF.out.cell 5; clear k1)
    | (go_at_call 112; (with_reducible refine (C1.out _ K1.out).mono ?_); rintro z q2 ⟨rfl, k1⟩; have K2 : Hid (Kpt w q2) := ktr K1.out k1; have BC := Lib.hid (BC.out.kpt k1); have BT := Lib.hid (BT.out.kpt k1); have BF := Lib.hid (BF.out.kpt k1); have a0 : World.cell? q2 ⟨w.heap.size, 0, none⟩ = some (.int .i64 W) := BC.out.cell 0; have a1 : World.cell? q2 ⟨w.heap.size, 1, none⟩ = some (.slice a hs.length cap) := BC.out.cell 1; have c0 : World.cell? q2 ⟨(w.heap.size + 1), 0, none⟩ = some (.int .i64 te) := BT.out.cell 0; have c1 : World.cell? q2 ⟨(w.heap.size + 1), 1, none⟩ = some (.int .i64 tb) := BT.out.cell 1; have c2 : World.cell? q2 ⟨(w.heap.size + 1), 2, none⟩ = some (.int .i64 td) := BT.out.cell 2; have c3 : World.cell? q2 ⟨(w.heap.size + 1), 3, none⟩ = some (.int .i64 tr) := BT.out.cell 3; have fd5 : World.cell? q2 ⟨(w.heap.size + 2), 5, none⟩ = some (.int .i64 d) := BF.out.cell 5; clear k1)
    | (refine wp_loadF rfl (.tmp 6) rfl (w.heap.size + 2) _ rfl BF.out rfl ?_))
  go_ret
  exact ⟨rfl, K2.out⟩

set_option maxRecDepth 100000 in
set_option maxHeartbeats 4000000 in
theorem rae_f (W te tb td tr i f t c p d u x b y q E g1 g2 g3 : Int) (v : Value) (hs : List Int) (w : World) (hr : Reads w v hs) (C0 : (∀ w' : World, Kpt w w' → Calls Try.prog 109 #[calV W v] w' fun z w'' => z = .returned (.int .i64 0) ∧ Kpt w' w'')) (C1 : (∀ w' : World, Kpt w w' → Calls Try.prog 112 #[.agg #[.int .i64 te, .int .i64 tb, .int .i64 td, .int .i64 tr]] w' fun z w'' => z = .returned (.int .i64 0) ∧ Kpt w' w'')) (C2 : (∀ w' : World, Kpt w w' → Calls Try.prog 78 #[.agg #[.int .i64 i, .int .i64 f, .int .i64 t, .int .i64 c, .int .i64 p, .int .i64 d, .int .i64 u, .int .i64 x, .int .i64 b, .int .i64 y]] w' fun z w'' => z = .returned (.int .i64 E) ∧ Kpt w' w'')) (z0 : (E == 0) = false) :
    Calls Try.prog 65 #[calV W v, .agg #[.int .i64 te, .int .i64 tb, .int .i64 td, .int .i64 tr], .agg #[.int .i64 i, .int .i64 f, .int .i64 t, .int .i64 c, .int .i64 p, .int .i64 d, .int .i64 u, .int .i64 x, .int .i64 b, .int .i64 y], .int .i64 q] w fun z w' => z = .returned (.int .i64 E) ∧ Kpt w w' := by
  have C0 := Lib.hid C0
  have C1 := Lib.hid C1
  have C2 := Lib.hid C2
  have K0 : Hid (Kpt w (((w.alloc (.cells #[.int .i64 W, v] 24)).alloc (.cells #[.int .i64 te, .int .i64 tb, .int .i64 td, .int .i64 tr] 78)).alloc (.cells #[.int .i64 i, .int .i64 f, .int .i64 t, .int .i64 c, .int .i64 p, .int .i64 d, .int .i64 u, .int .i64 x, .int .i64 b, .int .i64 y] 38))) := (((Kpt.refl w).alloc _).alloc _).alloc _
  have BC : Hid (Blk (((w.alloc (.cells #[.int .i64 W, v] 24)).alloc (.cells #[.int .i64 te, .int .i64 tb, .int .i64 td, .int .i64 tr] 78)).alloc (.cells #[.int .i64 i, .int .i64 f, .int .i64 t, .int .i64 c, .int .i64 p, .int .i64 d, .int .i64 u, .int .i64 x, .int .i64 b, .int .i64 y] 38)) w.heap.size #[.int .i64 W, v] 24) := ((Blk.made w _ _).alloc _).alloc _
  have BT : Hid (Blk (((w.alloc (.cells #[.int .i64 W, v] 24)).alloc (.cells #[.int .i64 te, .int .i64 tb, .int .i64 td, .int .i64 tr] 78)).alloc (.cells #[.int .i64 i, .int .i64 f, .int .i64 t, .int .i64 c, .int .i64 p, .int .i64 d, .int .i64 u, .int .i64 x, .int .i64 b, .int .i64 y] 38)) (w.heap.size + 1) #[.int .i64 te, .int .i64 tb, .int .i64 td, .int .i64 tr] 78) := by
    have := (Blk.made (w.alloc (.cells #[.int .i64 W, v] 24)) #[.int .i64 te, .int .i64 tb, .int .i64 td, .int .i64 tr] 78).alloc (.cells #[.int .i64 i, .int .i64 f, .int .i64 t, .int .i64 c, .int .i64 p, .int .i64 d, .int .i64 u, .int .i64 x, .int .i64 b, .int .i64 y] 38)
    unfold Hid; simpa using this
  have BF : Hid (Blk (((w.alloc (.cells #[.int .i64 W, v] 24)).alloc (.cells #[.int .i64 te, .int .i64 tb, .int .i64 td, .int .i64 tr] 78)).alloc (.cells #[.int .i64 i, .int .i64 f, .int .i64 t, .int .i64 c, .int .i64 p, .int .i64 d, .int .i64 u, .int .i64 x, .int .i64 b, .int .i64 y] 38)) (w.heap.size + 2) #[.int .i64 i, .int .i64 f, .int .i64 t, .int .i64 c, .int .i64 p, .int .i64 d, .int .i64 u, .int .i64 x, .int .i64 b, .int .i64 y] 38) := by
    have := Blk.made ((w.alloc (.cells #[.int .i64 W, v] 24)).alloc (.cells #[.int .i64 te, .int .i64 tb, .int .i64 td, .int .i64 tr] 78)) #[.int .i64 i, .int .i64 f, .int .i64 t, .int .i64 c, .int .i64 p, .int .i64 d, .int .i64 u, .int .i64 x, .int .i64 b, .int .i64 y] 38
    unfold Hid; simpa using this
  obtain ⟨a, cap, rfl, -⟩ := hr
  unfold calV at *
  go_enter Try.func65, Try.ntmps65
  go_wp2_with (first
    | (go_at_call 109; (with_reducible refine (C0.out _ K0.out).mono ?_); rintro z q1 ⟨rfl, k1⟩; have K1 : Hid (Kpt w q1) := ktr K0.out k1; have BC := Lib.hid (BC.out.kpt k1); have BT := Lib.hid (BT.out.kpt k1); have BF := Lib.hid (BF.out.kpt k1); have a0 : World.cell? q1 ⟨w.heap.size, 0, none⟩ = some (.int .i64 W) := BC.out.cell 0; have a1 : World.cell? q1 ⟨w.heap.size, 1, none⟩ = some (.slice a hs.length cap) := BC.out.cell 1; have c0 : World.cell? q1 ⟨(w.heap.size + 1), 0, none⟩ = some (.int .i64 te) := BT.out.cell 0; have c1 : World.cell? q1 ⟨(w.heap.size + 1), 1, none⟩ = some (.int .i64 tb) := BT.out.cell 1; have c2 : World.cell? q1 ⟨(w.heap.size + 1), 2, none⟩ = some (.int .i64 td) := BT.out.cell 2; have c3 : World.cell? q1 ⟨(w.heap.size + 1), 3, none⟩ = some (.int .i64 tr) := BT.out.cell 3; have fd5 : World.cell? q1 ⟨(w.heap.size + 2), 5, none⟩ = some (.int .i64 d) := BF.out.cell 5; clear k1)
    | (go_at_call 112; (with_reducible refine (C1.out _ K1.out).mono ?_); rintro z q2 ⟨rfl, k1⟩; have K2 : Hid (Kpt w q2) := ktr K1.out k1; have BC := Lib.hid (BC.out.kpt k1); have BT := Lib.hid (BT.out.kpt k1); have BF := Lib.hid (BF.out.kpt k1); have a0 : World.cell? q2 ⟨w.heap.size, 0, none⟩ = some (.int .i64 W) := BC.out.cell 0; have a1 : World.cell? q2 ⟨w.heap.size, 1, none⟩ = some (.slice a hs.length cap) := BC.out.cell 1; have c0 : World.cell? q2 ⟨(w.heap.size + 1), 0, none⟩ = some (.int .i64 te) := BT.out.cell 0; have c1 : World.cell? q2 ⟨(w.heap.size + 1), 1, none⟩ = some (.int .i64 tb) := BT.out.cell 1; have c2 : World.cell? q2 ⟨(w.heap.size + 1), 2, none⟩ = some (.int .i64 td) := BT.out.cell 2; have c3 : World.cell? q2 ⟨(w.heap.size + 1), 3, none⟩ = some (.int .i64 tr) := BT.out.cell 3; have fd5 : World.cell? q2 ⟨(w.heap.size + 2), 5, none⟩ = some (.int .i64 d) := BF.out.cell 5; clear k1)
    | (go_at_call 78; (with_reducible refine (C2.out _ K2.out).mono ?_); rintro z q3 ⟨rfl, k1⟩; have K3 : Hid (Kpt w q3) := ktr K2.out k1; have BC := Lib.hid (BC.out.kpt k1); have BT := Lib.hid (BT.out.kpt k1); have BF := Lib.hid (BF.out.kpt k1); have a0 : World.cell? q3 ⟨w.heap.size, 0, none⟩ = some (.int .i64 W) := BC.out.cell 0; have a1 : World.cell? q3 ⟨w.heap.size, 1, none⟩ = some (.slice a hs.length cap) := BC.out.cell 1; have c0 : World.cell? q3 ⟨(w.heap.size + 1), 0, none⟩ = some (.int .i64 te) := BT.out.cell 0; have c1 : World.cell? q3 ⟨(w.heap.size + 1), 1, none⟩ = some (.int .i64 tb) := BT.out.cell 1; have c2 : World.cell? q3 ⟨(w.heap.size + 1), 2, none⟩ = some (.int .i64 td) := BT.out.cell 2; have c3 : World.cell? q3 ⟨(w.heap.size + 1), 3, none⟩ = some (.int .i64 tr) := BT.out.cell 3; have fd5 : World.cell? q3 ⟨(w.heap.size + 2), 5, none⟩ = some (.int .i64 d) := BF.out.cell 5; clear k1)
    | (refine wp_loadF rfl (.tmp 6) rfl (w.heap.size + 2) _ rfl BF.out rfl ?_))
  go_ret
  exact ⟨rfl, K3.out⟩

set_option maxRecDepth 100000 in
set_option maxHeartbeats 4000000 in
theorem rae_d (W te tb td tr i f t c p d u x b y q E g1 g2 g3 : Int) (v : Value) (hs : List Int) (w : World) (hr : Reads w v hs) (C0 : (∀ w' : World, Kpt w w' → Calls Try.prog 109 #[calV W v] w' fun z w'' => z = .returned (.int .i64 0) ∧ Kpt w' w'')) (C1 : (∀ w' : World, Kpt w w' → Calls Try.prog 112 #[.agg #[.int .i64 te, .int .i64 tb, .int .i64 td, .int .i64 tr]] w' fun z w'' => z = .returned (.int .i64 0) ∧ Kpt w' w'')) (C2 : (∀ w' : World, Kpt w w' → Calls Try.prog 78 #[.agg #[.int .i64 i, .int .i64 f, .int .i64 t, .int .i64 c, .int .i64 p, .int .i64 d, .int .i64 u, .int .i64 x, .int .i64 b, .int .i64 y]] w' fun z w'' => z = .returned (.int .i64 0) ∧ Kpt w' w'')) (Y : btw 0 3652058 q = false) :
    Calls Try.prog 65 #[calV W v, .agg #[.int .i64 te, .int .i64 tb, .int .i64 td, .int .i64 tr], .agg #[.int .i64 i, .int .i64 f, .int .i64 t, .int .i64 c, .int .i64 p, .int .i64 d, .int .i64 u, .int .i64 x, .int .i64 b, .int .i64 y], .int .i64 q] w fun z w' => z = .returned (.int .i64 3) ∧ Kpt w w' := by
  have C0 := Lib.hid C0
  have C1 := Lib.hid C1
  have C2 := Lib.hid C2
  have K0 : Hid (Kpt w (((w.alloc (.cells #[.int .i64 W, v] 24)).alloc (.cells #[.int .i64 te, .int .i64 tb, .int .i64 td, .int .i64 tr] 78)).alloc (.cells #[.int .i64 i, .int .i64 f, .int .i64 t, .int .i64 c, .int .i64 p, .int .i64 d, .int .i64 u, .int .i64 x, .int .i64 b, .int .i64 y] 38))) := (((Kpt.refl w).alloc _).alloc _).alloc _
  have BC : Hid (Blk (((w.alloc (.cells #[.int .i64 W, v] 24)).alloc (.cells #[.int .i64 te, .int .i64 tb, .int .i64 td, .int .i64 tr] 78)).alloc (.cells #[.int .i64 i, .int .i64 f, .int .i64 t, .int .i64 c, .int .i64 p, .int .i64 d, .int .i64 u, .int .i64 x, .int .i64 b, .int .i64 y] 38)) w.heap.size #[.int .i64 W, v] 24) := ((Blk.made w _ _).alloc _).alloc _
  have BT : Hid (Blk (((w.alloc (.cells #[.int .i64 W, v] 24)).alloc (.cells #[.int .i64 te, .int .i64 tb, .int .i64 td, .int .i64 tr] 78)).alloc (.cells #[.int .i64 i, .int .i64 f, .int .i64 t, .int .i64 c, .int .i64 p, .int .i64 d, .int .i64 u, .int .i64 x, .int .i64 b, .int .i64 y] 38)) (w.heap.size + 1) #[.int .i64 te, .int .i64 tb, .int .i64 td, .int .i64 tr] 78) := by
    have := (Blk.made (w.alloc (.cells #[.int .i64 W, v] 24)) #[.int .i64 te, .int .i64 tb, .int .i64 td, .int .i64 tr] 78).alloc (.cells #[.int .i64 i, .int .i64 f, .int .i64 t, .int .i64 c, .int .i64 p, .int .i64 d, .int .i64 u, .int .i64 x, .int .i64 b, .int .i64 y] 38)
    unfold Hid; simpa using this
  have BF : Hid (Blk (((w.alloc (.cells #[.int .i64 W, v] 24)).alloc (.cells #[.int .i64 te, .int .i64 tb, .int .i64 td, .int .i64 tr] 78)).alloc (.cells #[.int .i64 i, .int .i64 f, .int .i64 t, .int .i64 c, .int .i64 p, .int .i64 d, .int .i64 u, .int .i64 x, .int .i64 b, .int .i64 y] 38)) (w.heap.size + 2) #[.int .i64 i, .int .i64 f, .int .i64 t, .int .i64 c, .int .i64 p, .int .i64 d, .int .i64 u, .int .i64 x, .int .i64 b, .int .i64 y] 38) := by
    have := Blk.made ((w.alloc (.cells #[.int .i64 W, v] 24)).alloc (.cells #[.int .i64 te, .int .i64 tb, .int .i64 td, .int .i64 tr] 78)) #[.int .i64 i, .int .i64 f, .int .i64 t, .int .i64 c, .int .i64 p, .int .i64 d, .int .i64 u, .int .i64 x, .int .i64 b, .int .i64 y] 38
    unfold Hid; simpa using this
  obtain ⟨a, cap, rfl, -⟩ := hr
  unfold calV at *
  go_enter Try.func65, Try.ntmps65
  go_wp2_with (first
    | (go_at_call 109; (with_reducible refine (C0.out _ K0.out).mono ?_); rintro z q1 ⟨rfl, k1⟩; have K1 : Hid (Kpt w q1) := ktr K0.out k1; have BC := Lib.hid (BC.out.kpt k1); have BT := Lib.hid (BT.out.kpt k1); have BF := Lib.hid (BF.out.kpt k1); have a0 : World.cell? q1 ⟨w.heap.size, 0, none⟩ = some (.int .i64 W) := BC.out.cell 0; have a1 : World.cell? q1 ⟨w.heap.size, 1, none⟩ = some (.slice a hs.length cap) := BC.out.cell 1; have c0 : World.cell? q1 ⟨(w.heap.size + 1), 0, none⟩ = some (.int .i64 te) := BT.out.cell 0; have c1 : World.cell? q1 ⟨(w.heap.size + 1), 1, none⟩ = some (.int .i64 tb) := BT.out.cell 1; have c2 : World.cell? q1 ⟨(w.heap.size + 1), 2, none⟩ = some (.int .i64 td) := BT.out.cell 2; have c3 : World.cell? q1 ⟨(w.heap.size + 1), 3, none⟩ = some (.int .i64 tr) := BT.out.cell 3; have fd5 : World.cell? q1 ⟨(w.heap.size + 2), 5, none⟩ = some (.int .i64 d) := BF.out.cell 5; clear k1)
    | (go_at_call 112; (with_reducible refine (C1.out _ K1.out).mono ?_); rintro z q2 ⟨rfl, k1⟩; have K2 : Hid (Kpt w q2) := ktr K1.out k1; have BC := Lib.hid (BC.out.kpt k1); have BT := Lib.hid (BT.out.kpt k1); have BF := Lib.hid (BF.out.kpt k1); have a0 : World.cell? q2 ⟨w.heap.size, 0, none⟩ = some (.int .i64 W) := BC.out.cell 0; have a1 : World.cell? q2 ⟨w.heap.size, 1, none⟩ = some (.slice a hs.length cap) := BC.out.cell 1; have c0 : World.cell? q2 ⟨(w.heap.size + 1), 0, none⟩ = some (.int .i64 te) := BT.out.cell 0; have c1 : World.cell? q2 ⟨(w.heap.size + 1), 1, none⟩ = some (.int .i64 tb) := BT.out.cell 1; have c2 : World.cell? q2 ⟨(w.heap.size + 1), 2, none⟩ = some (.int .i64 td) := BT.out.cell 2; have c3 : World.cell? q2 ⟨(w.heap.size + 1), 3, none⟩ = some (.int .i64 tr) := BT.out.cell 3; have fd5 : World.cell? q2 ⟨(w.heap.size + 2), 5, none⟩ = some (.int .i64 d) := BF.out.cell 5; clear k1)
    | (go_at_call 78; (with_reducible refine (C2.out _ K2.out).mono ?_); rintro z q3 ⟨rfl, k1⟩; have K3 : Hid (Kpt w q3) := ktr K2.out k1; have BC := Lib.hid (BC.out.kpt k1); have BT := Lib.hid (BT.out.kpt k1); have BF := Lib.hid (BF.out.kpt k1); have a0 : World.cell? q3 ⟨w.heap.size, 0, none⟩ = some (.int .i64 W) := BC.out.cell 0; have a1 : World.cell? q3 ⟨w.heap.size, 1, none⟩ = some (.slice a hs.length cap) := BC.out.cell 1; have c0 : World.cell? q3 ⟨(w.heap.size + 1), 0, none⟩ = some (.int .i64 te) := BT.out.cell 0; have c1 : World.cell? q3 ⟨(w.heap.size + 1), 1, none⟩ = some (.int .i64 tb) := BT.out.cell 1; have c2 : World.cell? q3 ⟨(w.heap.size + 1), 2, none⟩ = some (.int .i64 td) := BT.out.cell 2; have c3 : World.cell? q3 ⟨(w.heap.size + 1), 3, none⟩ = some (.int .i64 tr) := BT.out.cell 3; have fd5 : World.cell? q3 ⟨(w.heap.size + 2), 5, none⟩ = some (.int .i64 d) := BF.out.cell 5; clear k1)
    | (refine wp_loadF rfl (.tmp 6) rfl (w.heap.size + 2) _ rfl BF.out rfl ?_)
    | (go_at_call 61; (with_reducible refine (rbt_any _ _ _ _ Y _).mono ?_); rintro z w9 ⟨rfl, rfl⟩))
  go_ret
  exact ⟨rfl, K3.out⟩

set_option maxRecDepth 100000 in
set_option maxHeartbeats 4000000 in
theorem rae_w (W te tb td tr i f t c p d u x b y q E g1 g2 g3 : Int) (v : Value) (hs : List Int) (w : World) (hr : Reads w v hs) (C0 : (∀ w' : World, Kpt w w' → Calls Try.prog 109 #[calV W v] w' fun z w'' => z = .returned (.int .i64 0) ∧ Kpt w' w'')) (C1 : (∀ w' : World, Kpt w w' → Calls Try.prog 112 #[.agg #[.int .i64 te, .int .i64 tb, .int .i64 td, .int .i64 tr]] w' fun z w'' => z = .returned (.int .i64 0) ∧ Kpt w' w'')) (C2 : (∀ w' : World, Kpt w w' → Calls Try.prog 78 #[.agg #[.int .i64 i, .int .i64 f, .int .i64 t, .int .i64 c, .int .i64 p, .int .i64 d, .int .i64 u, .int .i64 x, .int .i64 b, .int .i64 y]] w' fun z w'' => z = .returned (.int .i64 0) ∧ Kpt w' w'')) (C3 : (∀ w' : World, Kpt w w' → Calls Try.prog 113 #[calV W v, .agg #[.int .i64 te, .int .i64 tb, .int .i64 td, .int .i64 tr], .int .i64 d] w' fun z w'' => z = .returned (.tuple #[.int .i64 g1, .int .i64 g2, .int .i64 g3]) ∧ Kpt w' w'')) (Y : btw 0 3652058 q = true) (z1 : decide (g1 < 0) = true) (z2 : g1 < 0) :
    Calls Try.prog 65 #[calV W v, .agg #[.int .i64 te, .int .i64 tb, .int .i64 td, .int .i64 tr], .agg #[.int .i64 i, .int .i64 f, .int .i64 t, .int .i64 c, .int .i64 p, .int .i64 d, .int .i64 u, .int .i64 x, .int .i64 b, .int .i64 y], .int .i64 q] w fun z w' => z = .returned (.int .i64 8) ∧ Kpt w w' := by
  have C0 := Lib.hid C0
  have C1 := Lib.hid C1
  have C2 := Lib.hid C2
  have C3 := Lib.hid C3
  have K0 : Hid (Kpt w (((w.alloc (.cells #[.int .i64 W, v] 24)).alloc (.cells #[.int .i64 te, .int .i64 tb, .int .i64 td, .int .i64 tr] 78)).alloc (.cells #[.int .i64 i, .int .i64 f, .int .i64 t, .int .i64 c, .int .i64 p, .int .i64 d, .int .i64 u, .int .i64 x, .int .i64 b, .int .i64 y] 38))) := (((Kpt.refl w).alloc _).alloc _).alloc _
  have BC : Hid (Blk (((w.alloc (.cells #[.int .i64 W, v] 24)).alloc (.cells #[.int .i64 te, .int .i64 tb, .int .i64 td, .int .i64 tr] 78)).alloc (.cells #[.int .i64 i, .int .i64 f, .int .i64 t, .int .i64 c, .int .i64 p, .int .i64 d, .int .i64 u, .int .i64 x, .int .i64 b, .int .i64 y] 38)) w.heap.size #[.int .i64 W, v] 24) := ((Blk.made w _ _).alloc _).alloc _
  have BT : Hid (Blk (((w.alloc (.cells #[.int .i64 W, v] 24)).alloc (.cells #[.int .i64 te, .int .i64 tb, .int .i64 td, .int .i64 tr] 78)).alloc (.cells #[.int .i64 i, .int .i64 f, .int .i64 t, .int .i64 c, .int .i64 p, .int .i64 d, .int .i64 u, .int .i64 x, .int .i64 b, .int .i64 y] 38)) (w.heap.size + 1) #[.int .i64 te, .int .i64 tb, .int .i64 td, .int .i64 tr] 78) := by
    have := (Blk.made (w.alloc (.cells #[.int .i64 W, v] 24)) #[.int .i64 te, .int .i64 tb, .int .i64 td, .int .i64 tr] 78).alloc (.cells #[.int .i64 i, .int .i64 f, .int .i64 t, .int .i64 c, .int .i64 p, .int .i64 d, .int .i64 u, .int .i64 x, .int .i64 b, .int .i64 y] 38)
    unfold Hid; simpa using this
  have BF : Hid (Blk (((w.alloc (.cells #[.int .i64 W, v] 24)).alloc (.cells #[.int .i64 te, .int .i64 tb, .int .i64 td, .int .i64 tr] 78)).alloc (.cells #[.int .i64 i, .int .i64 f, .int .i64 t, .int .i64 c, .int .i64 p, .int .i64 d, .int .i64 u, .int .i64 x, .int .i64 b, .int .i64 y] 38)) (w.heap.size + 2) #[.int .i64 i, .int .i64 f, .int .i64 t, .int .i64 c, .int .i64 p, .int .i64 d, .int .i64 u, .int .i64 x, .int .i64 b, .int .i64 y] 38) := by
    have := Blk.made ((w.alloc (.cells #[.int .i64 W, v] 24)).alloc (.cells #[.int .i64 te, .int .i64 tb, .int .i64 td, .int .i64 tr] 78)) #[.int .i64 i, .int .i64 f, .int .i64 t, .int .i64 c, .int .i64 p, .int .i64 d, .int .i64 u, .int .i64 x, .int .i64 b, .int .i64 y] 38
    unfold Hid; simpa using this
  obtain ⟨a, cap, rfl, -⟩ := hr
  unfold calV at *
  go_enter Try.func65, Try.ntmps65
  go_wp2_with (first
    | (go_at_call 109; (with_reducible refine (C0.out _ K0.out).mono ?_); rintro z q1 ⟨rfl, k1⟩; have K1 : Hid (Kpt w q1) := ktr K0.out k1; have BC := Lib.hid (BC.out.kpt k1); have BT := Lib.hid (BT.out.kpt k1); have BF := Lib.hid (BF.out.kpt k1); have a0 : World.cell? q1 ⟨w.heap.size, 0, none⟩ = some (.int .i64 W) := BC.out.cell 0; have a1 : World.cell? q1 ⟨w.heap.size, 1, none⟩ = some (.slice a hs.length cap) := BC.out.cell 1; have c0 : World.cell? q1 ⟨(w.heap.size + 1), 0, none⟩ = some (.int .i64 te) := BT.out.cell 0; have c1 : World.cell? q1 ⟨(w.heap.size + 1), 1, none⟩ = some (.int .i64 tb) := BT.out.cell 1; have c2 : World.cell? q1 ⟨(w.heap.size + 1), 2, none⟩ = some (.int .i64 td) := BT.out.cell 2; have c3 : World.cell? q1 ⟨(w.heap.size + 1), 3, none⟩ = some (.int .i64 tr) := BT.out.cell 3; have fd5 : World.cell? q1 ⟨(w.heap.size + 2), 5, none⟩ = some (.int .i64 d) := BF.out.cell 5; clear k1)
    | (go_at_call 112; (with_reducible refine (C1.out _ K1.out).mono ?_); rintro z q2 ⟨rfl, k1⟩; have K2 : Hid (Kpt w q2) := ktr K1.out k1; have BC := Lib.hid (BC.out.kpt k1); have BT := Lib.hid (BT.out.kpt k1); have BF := Lib.hid (BF.out.kpt k1); have a0 : World.cell? q2 ⟨w.heap.size, 0, none⟩ = some (.int .i64 W) := BC.out.cell 0; have a1 : World.cell? q2 ⟨w.heap.size, 1, none⟩ = some (.slice a hs.length cap) := BC.out.cell 1; have c0 : World.cell? q2 ⟨(w.heap.size + 1), 0, none⟩ = some (.int .i64 te) := BT.out.cell 0; have c1 : World.cell? q2 ⟨(w.heap.size + 1), 1, none⟩ = some (.int .i64 tb) := BT.out.cell 1; have c2 : World.cell? q2 ⟨(w.heap.size + 1), 2, none⟩ = some (.int .i64 td) := BT.out.cell 2; have c3 : World.cell? q2 ⟨(w.heap.size + 1), 3, none⟩ = some (.int .i64 tr) := BT.out.cell 3; have fd5 : World.cell? q2 ⟨(w.heap.size + 2), 5, none⟩ = some (.int .i64 d) := BF.out.cell 5; clear k1)
    | (go_at_call 78; (with_reducible refine (C2.out _ K2.out).mono ?_); rintro z q3 ⟨rfl, k1⟩; have K3 : Hid (Kpt w q3) := ktr K2.out k1; have BC := Lib.hid (BC.out.kpt k1); have BT := Lib.hid (BT.out.kpt k1); have BF := Lib.hid (BF.out.kpt k1); have a0 : World.cell? q3 ⟨w.heap.size, 0, none⟩ = some (.int .i64 W) := BC.out.cell 0; have a1 : World.cell? q3 ⟨w.heap.size, 1, none⟩ = some (.slice a hs.length cap) := BC.out.cell 1; have c0 : World.cell? q3 ⟨(w.heap.size + 1), 0, none⟩ = some (.int .i64 te) := BT.out.cell 0; have c1 : World.cell? q3 ⟨(w.heap.size + 1), 1, none⟩ = some (.int .i64 tb) := BT.out.cell 1; have c2 : World.cell? q3 ⟨(w.heap.size + 1), 2, none⟩ = some (.int .i64 td) := BT.out.cell 2; have c3 : World.cell? q3 ⟨(w.heap.size + 1), 3, none⟩ = some (.int .i64 tr) := BT.out.cell 3; have fd5 : World.cell? q3 ⟨(w.heap.size + 2), 5, none⟩ = some (.int .i64 d) := BF.out.cell 5; clear k1)
    | (go_at_call 113; (with_reducible refine (C3.out _ K3.out).mono ?_); rintro z q4 ⟨rfl, k1⟩; have K4 : Hid (Kpt w q4) := ktr K3.out k1; have BC := Lib.hid (BC.out.kpt k1); have BT := Lib.hid (BT.out.kpt k1); have BF := Lib.hid (BF.out.kpt k1); have a0 : World.cell? q4 ⟨w.heap.size, 0, none⟩ = some (.int .i64 W) := BC.out.cell 0; have a1 : World.cell? q4 ⟨w.heap.size, 1, none⟩ = some (.slice a hs.length cap) := BC.out.cell 1; have c0 : World.cell? q4 ⟨(w.heap.size + 1), 0, none⟩ = some (.int .i64 te) := BT.out.cell 0; have c1 : World.cell? q4 ⟨(w.heap.size + 1), 1, none⟩ = some (.int .i64 tb) := BT.out.cell 1; have c2 : World.cell? q4 ⟨(w.heap.size + 1), 2, none⟩ = some (.int .i64 td) := BT.out.cell 2; have c3 : World.cell? q4 ⟨(w.heap.size + 1), 3, none⟩ = some (.int .i64 tr) := BT.out.cell 3; have fd5 : World.cell? q4 ⟨(w.heap.size + 2), 5, none⟩ = some (.int .i64 d) := BF.out.cell 5; clear k1)
    | (refine wp_loadF rfl (.tmp 6) rfl (w.heap.size + 2) _ rfl BF.out rfl ?_)
    | (go_at_call 61; (with_reducible refine (rbt_any _ _ _ _ Y _).mono ?_); rintro z w9 ⟨rfl, rfl⟩))
  go_ret
  exact ⟨rfl, K4.out⟩

set_option maxRecDepth 100000 in
set_option maxHeartbeats 4000000 in
theorem rae_o (W te tb td tr i f t c p d u x b y q E g1 g2 g3 : Int) (v : Value) (hs : List Int) (w : World) (hr : Reads w v hs) (C0 : (∀ w' : World, Kpt w w' → Calls Try.prog 109 #[calV W v] w' fun z w'' => z = .returned (.int .i64 0) ∧ Kpt w' w'')) (C1 : (∀ w' : World, Kpt w w' → Calls Try.prog 112 #[.agg #[.int .i64 te, .int .i64 tb, .int .i64 td, .int .i64 tr]] w' fun z w'' => z = .returned (.int .i64 0) ∧ Kpt w' w'')) (C2 : (∀ w' : World, Kpt w w' → Calls Try.prog 78 #[.agg #[.int .i64 i, .int .i64 f, .int .i64 t, .int .i64 c, .int .i64 p, .int .i64 d, .int .i64 u, .int .i64 x, .int .i64 b, .int .i64 y]] w' fun z w'' => z = .returned (.int .i64 0) ∧ Kpt w' w'')) (C3 : (∀ w' : World, Kpt w w' → Calls Try.prog 113 #[calV W v, .agg #[.int .i64 te, .int .i64 tb, .int .i64 td, .int .i64 tr], .int .i64 d] w' fun z w'' => z = .returned (.tuple #[.int .i64 g1, .int .i64 g2, .int .i64 g3]) ∧ Kpt w' w'')) (Y : btw 0 3652058 q = true) (z1 : decide (g1 < 0) = false) (z2 : ¬ g1 < 0) :
    Calls Try.prog 65 #[calV W v, .agg #[.int .i64 te, .int .i64 tb, .int .i64 td, .int .i64 tr], .agg #[.int .i64 i, .int .i64 f, .int .i64 t, .int .i64 c, .int .i64 p, .int .i64 d, .int .i64 u, .int .i64 x, .int .i64 b, .int .i64 y], .int .i64 q] w fun z w' => z = .returned (.int .i64 0) ∧ Kpt w w' := by
  have C0 := Lib.hid C0
  have C1 := Lib.hid C1
  have C2 := Lib.hid C2
  have C3 := Lib.hid C3
  have K0 : Hid (Kpt w (((w.alloc (.cells #[.int .i64 W, v] 24)).alloc (.cells #[.int .i64 te, .int .i64 tb, .int .i64 td, .int .i64 tr] 78)).alloc (.cells #[.int .i64 i, .int .i64 f, .int .i64 t, .int .i64 c, .int .i64 p, .int .i64 d, .int .i64 u, .int .i64 x, .int .i64 b, .int .i64 y] 38))) := (((Kpt.refl w).alloc _).alloc _).alloc _
  have BC : Hid (Blk (((w.alloc (.cells #[.int .i64 W, v] 24)).alloc (.cells #[.int .i64 te, .int .i64 tb, .int .i64 td, .int .i64 tr] 78)).alloc (.cells #[.int .i64 i, .int .i64 f, .int .i64 t, .int .i64 c, .int .i64 p, .int .i64 d, .int .i64 u, .int .i64 x, .int .i64 b, .int .i64 y] 38)) w.heap.size #[.int .i64 W, v] 24) := ((Blk.made w _ _).alloc _).alloc _
  have BT : Hid (Blk (((w.alloc (.cells #[.int .i64 W, v] 24)).alloc (.cells #[.int .i64 te, .int .i64 tb, .int .i64 td, .int .i64 tr] 78)).alloc (.cells #[.int .i64 i, .int .i64 f, .int .i64 t, .int .i64 c, .int .i64 p, .int .i64 d, .int .i64 u, .int .i64 x, .int .i64 b, .int .i64 y] 38)) (w.heap.size + 1) #[.int .i64 te, .int .i64 tb, .int .i64 td, .int .i64 tr] 78) := by
    have := (Blk.made (w.alloc (.cells #[.int .i64 W, v] 24)) #[.int .i64 te, .int .i64 tb, .int .i64 td, .int .i64 tr] 78).alloc (.cells #[.int .i64 i, .int .i64 f, .int .i64 t, .int .i64 c, .int .i64 p, .int .i64 d, .int .i64 u, .int .i64 x, .int .i64 b, .int .i64 y] 38)
    unfold Hid; simpa using this
  have BF : Hid (Blk (((w.alloc (.cells #[.int .i64 W, v] 24)).alloc (.cells #[.int .i64 te, .int .i64 tb, .int .i64 td, .int .i64 tr] 78)).alloc (.cells #[.int .i64 i, .int .i64 f, .int .i64 t, .int .i64 c, .int .i64 p, .int .i64 d, .int .i64 u, .int .i64 x, .int .i64 b, .int .i64 y] 38)) (w.heap.size + 2) #[.int .i64 i, .int .i64 f, .int .i64 t, .int .i64 c, .int .i64 p, .int .i64 d, .int .i64 u, .int .i64 x, .int .i64 b, .int .i64 y] 38) := by
    have := Blk.made ((w.alloc (.cells #[.int .i64 W, v] 24)).alloc (.cells #[.int .i64 te, .int .i64 tb, .int .i64 td, .int .i64 tr] 78)) #[.int .i64 i, .int .i64 f, .int .i64 t, .int .i64 c, .int .i64 p, .int .i64 d, .int .i64 u, .int .i64 x, .int .i64 b, .int .i64 y] 38
    unfold Hid; simpa using this
  obtain ⟨a, cap, rfl, -⟩ := hr
  unfold calV at *
  go_enter Try.func65, Try.ntmps65
  go_wp2_with (first
    | (go_at_call 109; (with_reducible refine (C0.out _ K0.out).mono ?_); rintro z q1 ⟨rfl, k1⟩; have K1 : Hid (Kpt w q1) := ktr K0.out k1; have BC := Lib.hid (BC.out.kpt k1); have BT := Lib.hid (BT.out.kpt k1); have BF := Lib.hid (BF.out.kpt k1); have a0 : World.cell? q1 ⟨w.heap.size, 0, none⟩ = some (.int .i64 W) := BC.out.cell 0; have a1 : World.cell? q1 ⟨w.heap.size, 1, none⟩ = some (.slice a hs.length cap) := BC.out.cell 1; have c0 : World.cell? q1 ⟨(w.heap.size + 1), 0, none⟩ = some (.int .i64 te) := BT.out.cell 0; have c1 : World.cell? q1 ⟨(w.heap.size + 1), 1, none⟩ = some (.int .i64 tb) := BT.out.cell 1; have c2 : World.cell? q1 ⟨(w.heap.size + 1), 2, none⟩ = some (.int .i64 td) := BT.out.cell 2; have c3 : World.cell? q1 ⟨(w.heap.size + 1), 3, none⟩ = some (.int .i64 tr) := BT.out.cell 3; have fd5 : World.cell? q1 ⟨(w.heap.size + 2), 5, none⟩ = some (.int .i64 d) := BF.out.cell 5; clear k1)
    | (go_at_call 112; (with_reducible refine (C1.out _ K1.out).mono ?_); rintro z q2 ⟨rfl, k1⟩; have K2 : Hid (Kpt w q2) := ktr K1.out k1; have BC := Lib.hid (BC.out.kpt k1); have BT := Lib.hid (BT.out.kpt k1); have BF := Lib.hid (BF.out.kpt k1); have a0 : World.cell? q2 ⟨w.heap.size, 0, none⟩ = some (.int .i64 W) := BC.out.cell 0; have a1 : World.cell? q2 ⟨w.heap.size, 1, none⟩ = some (.slice a hs.length cap) := BC.out.cell 1; have c0 : World.cell? q2 ⟨(w.heap.size + 1), 0, none⟩ = some (.int .i64 te) := BT.out.cell 0; have c1 : World.cell? q2 ⟨(w.heap.size + 1), 1, none⟩ = some (.int .i64 tb) := BT.out.cell 1; have c2 : World.cell? q2 ⟨(w.heap.size + 1), 2, none⟩ = some (.int .i64 td) := BT.out.cell 2; have c3 : World.cell? q2 ⟨(w.heap.size + 1), 3, none⟩ = some (.int .i64 tr) := BT.out.cell 3; have fd5 : World.cell? q2 ⟨(w.heap.size + 2), 5, none⟩ = some (.int .i64 d) := BF.out.cell 5; clear k1)
    | (go_at_call 78; (with_reducible refine (C2.out _ K2.out).mono ?_); rintro z q3 ⟨rfl, k1⟩; have K3 : Hid (Kpt w q3) := ktr K2.out k1; have BC := Lib.hid (BC.out.kpt k1); have BT := Lib.hid (BT.out.kpt k1); have BF := Lib.hid (BF.out.kpt k1); have a0 : World.cell? q3 ⟨w.heap.size, 0, none⟩ = some (.int .i64 W) := BC.out.cell 0; have a1 : World.cell? q3 ⟨w.heap.size, 1, none⟩ = some (.slice a hs.length cap) := BC.out.cell 1; have c0 : World.cell? q3 ⟨(w.heap.size + 1), 0, none⟩ = some (.int .i64 te) := BT.out.cell 0; have c1 : World.cell? q3 ⟨(w.heap.size + 1), 1, none⟩ = some (.int .i64 tb) := BT.out.cell 1; have c2 : World.cell? q3 ⟨(w.heap.size + 1), 2, none⟩ = some (.int .i64 td) := BT.out.cell 2; have c3 : World.cell? q3 ⟨(w.heap.size + 1), 3, none⟩ = some (.int .i64 tr) := BT.out.cell 3; have fd5 : World.cell? q3 ⟨(w.heap.size + 2), 5, none⟩ = some (.int .i64 d) := BF.out.cell 5; clear k1)
    | (go_at_call 113; (with_reducible refine (C3.out _ K3.out).mono ?_); rintro z q4 ⟨rfl, k1⟩; have K4 : Hid (Kpt w q4) := ktr K3.out k1; have BC := Lib.hid (BC.out.kpt k1); have BT := Lib.hid (BT.out.kpt k1); have BF := Lib.hid (BF.out.kpt k1); have a0 : World.cell? q4 ⟨w.heap.size, 0, none⟩ = some (.int .i64 W) := BC.out.cell 0; have a1 : World.cell? q4 ⟨w.heap.size, 1, none⟩ = some (.slice a hs.length cap) := BC.out.cell 1; have c0 : World.cell? q4 ⟨(w.heap.size + 1), 0, none⟩ = some (.int .i64 te) := BT.out.cell 0; have c1 : World.cell? q4 ⟨(w.heap.size + 1), 1, none⟩ = some (.int .i64 tb) := BT.out.cell 1; have c2 : World.cell? q4 ⟨(w.heap.size + 1), 2, none⟩ = some (.int .i64 td) := BT.out.cell 2; have c3 : World.cell? q4 ⟨(w.heap.size + 1), 3, none⟩ = some (.int .i64 tr) := BT.out.cell 3; have fd5 : World.cell? q4 ⟨(w.heap.size + 2), 5, none⟩ = some (.int .i64 d) := BF.out.cell 5; clear k1)
    | (refine wp_loadF rfl (.tmp 6) rfl (w.heap.size + 2) _ rfl BF.out rfl ?_)
    | (go_at_call 61; (with_reducible refine (rbt_any _ _ _ _ Y _).mono ?_); rintro z w9 ⟨rfl, rfl⟩))
  go_ret
  exact ⟨rfl, K4.out⟩

theorem rae_run (W te tb td tr i f t c p d u x b y q : Int) (v : Value) (hs : List Int) (w : World) (hr : Reads w v hs) :
    Calls Try.prog 65 #[calV W v, .agg #[.int .i64 te, .int .i64 tb, .int .i64 td, .int .i64 tr], .agg #[.int .i64 i, .int .i64 f, .int .i64 t, .int .i64 c, .int .i64 p, .int .i64 d, .int .i64 u, .int .i64 x, .int .i64 b, .int .i64 y], .int .i64 q] w fun z w' => z = .returned (.int .i64 (lkE W hs te tb td tr i f t c p d u x b y q)) ∧ Kpt w w' := by
  have C0 := fun w' (k : Kpt w w') => rcc_run W v hs w' (hr.kpt k)
  have C1 := fun w' (_ : Kpt w w') => rtc_run te tb td tr w'
  have C2 := fun w' (_ : Kpt w w') => rfc_run i f t c p d u x b y w'
  by_cases h0 : calE W hs = 0
  · rw [h0] at C0
    by_cases h1 : termE te tb td tr = 0
    · rw [h1] at C1
      have ct : ctE W hs te tb td tr = 0 := by unfold ctE; rw [if_pos h0]; exact h1
      obtain ⟨-, b1, b2, b3, -⟩ := ct_0 ct
      by_cases h2 : failE i f t c p d u x b y = 0
      · rw [h2] at C2
        cases Y : btw 0 3652058 q with
        | false =>
          have e : lkE W hs te tb td tr i f t c p d u x b y q = 3 := by unfold lkE; rw [if_pos ct, if_pos h2, show dayB q = false from Y]; rfl
          rw [e]; exact rae_d W te tb td tr i f t c p d u x b y q 0 0 0 0 v hs w hr C0 C1 C2 Y
        | true =>
          have e : lkE W hs te tb td tr i f t c p d u x b y q = wlkE W hs d te tb td := by unfold lkE; rw [if_pos ct, if_pos h2, show dayB q = true from Y]; rfl
          obtain ⟨d0, d1⟩ := (fdue_t (fail_0 h2).1).1
          have C3 := fun w' (k : Kpt w w') => rad_run W te tb td tr d v hs w' (hr.kpt k) h0 b1 b2 b3 d0 d1
          rw [e]
          by_cases hw : wlkE W hs d te tb td = 0
          · have i1 : 0 ≤ dayAt W hs d te tb td 1 ∧ dayAt W hs d te tb td 1 ≤ 3652058 := dayAt_in (wlk_0 hw 0 (by omega))
            rw [hw]
            have r1 : radV W hs d te tb td 1 = dayAt W hs d te tb td 1 := by unfold radV; rw [if_pos hw]
            exact rae_o W te tb td tr i f t c p d u x b y q 0 _ _ _ v hs w hr C0 C1 C2 C3 Y (decide_eq_false (by rw [r1]; omega)) (by rw [r1]; omega)
          · have r1 : radV W hs d te tb td 1 = -1 := by unfold radV; rw [if_neg hw]
            rw [wlk_8 h0 b1 b2 b3 d0 d1 hw]
            exact rae_w W te tb td tr i f t c p d u x b y q 0 _ _ _ v hs w hr C0 C1 C2 C3 Y (decide_eq_true (by rw [r1]; omega)) (by rw [r1]; omega)
      · have e : lkE W hs te tb td tr i f t c p d u x b y q = failE i f t c p d u x b y := by unfold lkE; rw [if_pos ct, if_neg h2]
        rw [e]; exact rae_f W te tb td tr i f t c p d u x b y q _ 0 0 0 v hs w hr C0 C1 C2 (beq_eq_false_iff_ne.2 h2)
    · have ct : ctE W hs te tb td tr = termE te tb td tr := by unfold ctE; rw [if_pos h0]
      have e : lkE W hs te tb td tr i f t c p d u x b y q = termE te tb td tr := by unfold lkE; rw [if_neg (by rw [ct]; exact h1), ct]
      rw [e]; exact rae_t W te tb td tr i f t c p d u x b y q _ 0 0 0 v hs w hr C0 C1 (beq_eq_false_iff_ne.2 h1)
  · have ct : ctE W hs te tb td tr = calE W hs := by unfold ctE; rw [if_neg h0]
    have e : lkE W hs te tb td tr i f t c p d u x b y q = calE W hs := by unfold lkE; rw [if_neg (by rw [ct]; exact h0), ct]
    rw [e]; exact rae_c W te tb td tr i f t c p d u x b y q _ 0 0 0 v hs w hr C0 (beq_eq_false_iff_ne.2 h0)

set_option maxRecDepth 100000 in
set_option maxHeartbeats 4000000 in
theorem ras_o (W te tb td tr i f t c p d u x b y q E g1 g2 g3 : Int) (v : Value) (hs : List Int) (w : World) (hr : Reads w v hs) (C0 : (∀ w' : World, Kpt w w' → Calls Try.prog 67 #[.agg #[.int .i64 i, .int .i64 f, .int .i64 t, .int .i64 c, .int .i64 p, .int .i64 d, .int .i64 u, .int .i64 x, .int .i64 b, .int .i64 y]] w' fun z w'' => z = .returned (.int .i64 E) ∧ Kpt w' w'')) (z0 : (E == 0) = true) :
    Calls Try.prog 66 #[calV W v, .agg #[.int .i64 te, .int .i64 tb, .int .i64 td, .int .i64 tr], .agg #[.int .i64 i, .int .i64 f, .int .i64 t, .int .i64 c, .int .i64 p, .int .i64 d, .int .i64 u, .int .i64 x, .int .i64 b, .int .i64 y], .int .i64 q] w fun z w' => z = .returned (.int .i64 5) ∧ Kpt w w' := by
  have C0 := Lib.hid C0
  have K0 : Hid (Kpt w (((w.alloc (.cells #[.int .i64 W, v] 24)).alloc (.cells #[.int .i64 te, .int .i64 tb, .int .i64 td, .int .i64 tr] 78)).alloc (.cells #[.int .i64 i, .int .i64 f, .int .i64 t, .int .i64 c, .int .i64 p, .int .i64 d, .int .i64 u, .int .i64 x, .int .i64 b, .int .i64 y] 38))) := (((Kpt.refl w).alloc _).alloc _).alloc _
  have BC : Hid (Blk (((w.alloc (.cells #[.int .i64 W, v] 24)).alloc (.cells #[.int .i64 te, .int .i64 tb, .int .i64 td, .int .i64 tr] 78)).alloc (.cells #[.int .i64 i, .int .i64 f, .int .i64 t, .int .i64 c, .int .i64 p, .int .i64 d, .int .i64 u, .int .i64 x, .int .i64 b, .int .i64 y] 38)) w.heap.size #[.int .i64 W, v] 24) := ((Blk.made w _ _).alloc _).alloc _
  have BT : Hid (Blk (((w.alloc (.cells #[.int .i64 W, v] 24)).alloc (.cells #[.int .i64 te, .int .i64 tb, .int .i64 td, .int .i64 tr] 78)).alloc (.cells #[.int .i64 i, .int .i64 f, .int .i64 t, .int .i64 c, .int .i64 p, .int .i64 d, .int .i64 u, .int .i64 x, .int .i64 b, .int .i64 y] 38)) (w.heap.size + 1) #[.int .i64 te, .int .i64 tb, .int .i64 td, .int .i64 tr] 78) := by
    have := (Blk.made (w.alloc (.cells #[.int .i64 W, v] 24)) #[.int .i64 te, .int .i64 tb, .int .i64 td, .int .i64 tr] 78).alloc (.cells #[.int .i64 i, .int .i64 f, .int .i64 t, .int .i64 c, .int .i64 p, .int .i64 d, .int .i64 u, .int .i64 x, .int .i64 b, .int .i64 y] 38)
    unfold Hid; simpa using this
  have BF : Hid (Blk (((w.alloc (.cells #[.int .i64 W, v] 24)).alloc (.cells #[.int .i64 te, .int .i64 tb, .int .i64 td, .int .i64 tr] 78)).alloc (.cells #[.int .i64 i, .int .i64 f, .int .i64 t, .int .i64 c, .int .i64 p, .int .i64 d, .int .i64 u, .int .i64 x, .int .i64 b, .int .i64 y] 38)) (w.heap.size + 2) #[.int .i64 i, .int .i64 f, .int .i64 t, .int .i64 c, .int .i64 p, .int .i64 d, .int .i64 u, .int .i64 x, .int .i64 b, .int .i64 y] 38) := by
    have := Blk.made ((w.alloc (.cells #[.int .i64 W, v] 24)).alloc (.cells #[.int .i64 te, .int .i64 tb, .int .i64 td, .int .i64 tr] 78)) #[.int .i64 i, .int .i64 f, .int .i64 t, .int .i64 c, .int .i64 p, .int .i64 d, .int .i64 u, .int .i64 x, .int .i64 b, .int .i64 y] 38
    unfold Hid; simpa using this
  obtain ⟨a, cap, rfl, -⟩ := hr
  unfold calV at *
  go_enter Try.func66, Try.ntmps66
  go_wp2_with (first
    | (go_at_call 67; (with_reducible refine (C0.out _ K0.out).mono ?_); rintro z q1 ⟨rfl, k1⟩; have K1 : Hid (Kpt w q1) := ktr K0.out k1; have BC := Lib.hid (BC.out.kpt k1); have BT := Lib.hid (BT.out.kpt k1); have BF := Lib.hid (BF.out.kpt k1); have a0 : World.cell? q1 ⟨w.heap.size, 0, none⟩ = some (.int .i64 W) := BC.out.cell 0; have a1 : World.cell? q1 ⟨w.heap.size, 1, none⟩ = some (.slice a hs.length cap) := BC.out.cell 1; have c0 : World.cell? q1 ⟨(w.heap.size + 1), 0, none⟩ = some (.int .i64 te) := BT.out.cell 0; have c1 : World.cell? q1 ⟨(w.heap.size + 1), 1, none⟩ = some (.int .i64 tb) := BT.out.cell 1; have c2 : World.cell? q1 ⟨(w.heap.size + 1), 2, none⟩ = some (.int .i64 td) := BT.out.cell 2; have c3 : World.cell? q1 ⟨(w.heap.size + 1), 3, none⟩ = some (.int .i64 tr) := BT.out.cell 3; have fd5 : World.cell? q1 ⟨(w.heap.size + 2), 5, none⟩ = some (.int .i64 d) := BF.out.cell 5; clear k1)
    | (refine wp_loadF rfl (.tmp 6) rfl (w.heap.size + 2) _ rfl BF.out rfl ?_))
  go_ret
  exact ⟨rfl, K1.out⟩

set_option maxRecDepth 100000 in
set_option maxHeartbeats 4000000 in
theorem ras_0 (W te tb td tr i f t c p d u x b y q E g1 g2 g3 : Int) (v : Value) (hs : List Int) (w : World) (hr : Reads w v hs) (C0 : (∀ w' : World, Kpt w w' → Calls Try.prog 67 #[.agg #[.int .i64 i, .int .i64 f, .int .i64 t, .int .i64 c, .int .i64 p, .int .i64 d, .int .i64 u, .int .i64 x, .int .i64 b, .int .i64 y]] w' fun z w'' => z = .returned (.int .i64 E) ∧ Kpt w' w'')) (z0 : (E == 0) = false) (y0 : q ≤ d) (x0 : decide (q ≤ d) = true) :
    Calls Try.prog 66 #[calV W v, .agg #[.int .i64 te, .int .i64 tb, .int .i64 td, .int .i64 tr], .agg #[.int .i64 i, .int .i64 f, .int .i64 t, .int .i64 c, .int .i64 p, .int .i64 d, .int .i64 u, .int .i64 x, .int .i64 b, .int .i64 y], .int .i64 q] w fun z w' => z = .returned (.int .i64 0) ∧ Kpt w w' := by
  have C0 := Lib.hid C0
  have K0 : Hid (Kpt w (((w.alloc (.cells #[.int .i64 W, v] 24)).alloc (.cells #[.int .i64 te, .int .i64 tb, .int .i64 td, .int .i64 tr] 78)).alloc (.cells #[.int .i64 i, .int .i64 f, .int .i64 t, .int .i64 c, .int .i64 p, .int .i64 d, .int .i64 u, .int .i64 x, .int .i64 b, .int .i64 y] 38))) := (((Kpt.refl w).alloc _).alloc _).alloc _
  have BC : Hid (Blk (((w.alloc (.cells #[.int .i64 W, v] 24)).alloc (.cells #[.int .i64 te, .int .i64 tb, .int .i64 td, .int .i64 tr] 78)).alloc (.cells #[.int .i64 i, .int .i64 f, .int .i64 t, .int .i64 c, .int .i64 p, .int .i64 d, .int .i64 u, .int .i64 x, .int .i64 b, .int .i64 y] 38)) w.heap.size #[.int .i64 W, v] 24) := ((Blk.made w _ _).alloc _).alloc _
  have BT : Hid (Blk (((w.alloc (.cells #[.int .i64 W, v] 24)).alloc (.cells #[.int .i64 te, .int .i64 tb, .int .i64 td, .int .i64 tr] 78)).alloc (.cells #[.int .i64 i, .int .i64 f, .int .i64 t, .int .i64 c, .int .i64 p, .int .i64 d, .int .i64 u, .int .i64 x, .int .i64 b, .int .i64 y] 38)) (w.heap.size + 1) #[.int .i64 te, .int .i64 tb, .int .i64 td, .int .i64 tr] 78) := by
    have := (Blk.made (w.alloc (.cells #[.int .i64 W, v] 24)) #[.int .i64 te, .int .i64 tb, .int .i64 td, .int .i64 tr] 78).alloc (.cells #[.int .i64 i, .int .i64 f, .int .i64 t, .int .i64 c, .int .i64 p, .int .i64 d, .int .i64 u, .int .i64 x, .int .i64 b, .int .i64 y] 38)
    unfold Hid; simpa using this
  have BF : Hid (Blk (((w.alloc (.cells #[.int .i64 W, v] 24)).alloc (.cells #[.int .i64 te, .int .i64 tb, .int .i64 td, .int .i64 tr] 78)).alloc (.cells #[.int .i64 i, .int .i64 f, .int .i64 t, .int .i64 c, .int .i64 p, .int .i64 d, .int .i64 u, .int .i64 x, .int .i64 b, .int .i64 y] 38)) (w.heap.size + 2) #[.int .i64 i, .int .i64 f, .int .i64 t, .int .i64 c, .int .i64 p, .int .i64 d, .int .i64 u, .int .i64 x, .int .i64 b, .int .i64 y] 38) := by
    have := Blk.made ((w.alloc (.cells #[.int .i64 W, v] 24)).alloc (.cells #[.int .i64 te, .int .i64 tb, .int .i64 td, .int .i64 tr] 78)) #[.int .i64 i, .int .i64 f, .int .i64 t, .int .i64 c, .int .i64 p, .int .i64 d, .int .i64 u, .int .i64 x, .int .i64 b, .int .i64 y] 38
    unfold Hid; simpa using this
  obtain ⟨a, cap, rfl, -⟩ := hr
  unfold calV at *
  go_enter Try.func66, Try.ntmps66
  go_wp2_with (first
    | (go_at_call 67; (with_reducible refine (C0.out _ K0.out).mono ?_); rintro z q1 ⟨rfl, k1⟩; have K1 : Hid (Kpt w q1) := ktr K0.out k1; have BC := Lib.hid (BC.out.kpt k1); have BT := Lib.hid (BT.out.kpt k1); have BF := Lib.hid (BF.out.kpt k1); have a0 : World.cell? q1 ⟨w.heap.size, 0, none⟩ = some (.int .i64 W) := BC.out.cell 0; have a1 : World.cell? q1 ⟨w.heap.size, 1, none⟩ = some (.slice a hs.length cap) := BC.out.cell 1; have c0 : World.cell? q1 ⟨(w.heap.size + 1), 0, none⟩ = some (.int .i64 te) := BT.out.cell 0; have c1 : World.cell? q1 ⟨(w.heap.size + 1), 1, none⟩ = some (.int .i64 tb) := BT.out.cell 1; have c2 : World.cell? q1 ⟨(w.heap.size + 1), 2, none⟩ = some (.int .i64 td) := BT.out.cell 2; have c3 : World.cell? q1 ⟨(w.heap.size + 1), 3, none⟩ = some (.int .i64 tr) := BT.out.cell 3; have fd5 : World.cell? q1 ⟨(w.heap.size + 2), 5, none⟩ = some (.int .i64 d) := BF.out.cell 5; clear k1)
    | (refine wp_loadF rfl (.tmp 6) rfl (w.heap.size + 2) _ rfl BF.out rfl ?_))
  go_ret
  exact ⟨rfl, K1.out⟩

set_option maxRecDepth 100000 in
set_option maxHeartbeats 4000000 in
theorem ras_1 (W te tb td tr i f t c p d u x b y q E g1 g2 g3 : Int) (v : Value) (hs : List Int) (w : World) (hr : Reads w v hs) (C0 : (∀ w' : World, Kpt w w' → Calls Try.prog 67 #[.agg #[.int .i64 i, .int .i64 f, .int .i64 t, .int .i64 c, .int .i64 p, .int .i64 d, .int .i64 u, .int .i64 x, .int .i64 b, .int .i64 y]] w' fun z w'' => z = .returned (.int .i64 E) ∧ Kpt w' w'')) (z0 : (E == 0) = false) (C3 : (∀ w' : World, Kpt w w' → Calls Try.prog 113 #[calV W v, .agg #[.int .i64 te, .int .i64 tb, .int .i64 td, .int .i64 tr], .int .i64 d] w' fun z w'' => z = .returned (.tuple #[.int .i64 g1, .int .i64 g2, .int .i64 g3]) ∧ Kpt w' w'')) (y0 : ¬ q ≤ d) (x0 : decide (q ≤ d) = false) (y1 : q ≤ g1) (x1 : decide (q ≤ g1) = true) :
    Calls Try.prog 66 #[calV W v, .agg #[.int .i64 te, .int .i64 tb, .int .i64 td, .int .i64 tr], .agg #[.int .i64 i, .int .i64 f, .int .i64 t, .int .i64 c, .int .i64 p, .int .i64 d, .int .i64 u, .int .i64 x, .int .i64 b, .int .i64 y], .int .i64 q] w fun z w' => z = .returned (.int .i64 1) ∧ Kpt w w' := by
  have C0 := Lib.hid C0
  have C3 := Lib.hid C3
  have K0 : Hid (Kpt w (((w.alloc (.cells #[.int .i64 W, v] 24)).alloc (.cells #[.int .i64 te, .int .i64 tb, .int .i64 td, .int .i64 tr] 78)).alloc (.cells #[.int .i64 i, .int .i64 f, .int .i64 t, .int .i64 c, .int .i64 p, .int .i64 d, .int .i64 u, .int .i64 x, .int .i64 b, .int .i64 y] 38))) := (((Kpt.refl w).alloc _).alloc _).alloc _
  have BC : Hid (Blk (((w.alloc (.cells #[.int .i64 W, v] 24)).alloc (.cells #[.int .i64 te, .int .i64 tb, .int .i64 td, .int .i64 tr] 78)).alloc (.cells #[.int .i64 i, .int .i64 f, .int .i64 t, .int .i64 c, .int .i64 p, .int .i64 d, .int .i64 u, .int .i64 x, .int .i64 b, .int .i64 y] 38)) w.heap.size #[.int .i64 W, v] 24) := ((Blk.made w _ _).alloc _).alloc _
  have BT : Hid (Blk (((w.alloc (.cells #[.int .i64 W, v] 24)).alloc (.cells #[.int .i64 te, .int .i64 tb, .int .i64 td, .int .i64 tr] 78)).alloc (.cells #[.int .i64 i, .int .i64 f, .int .i64 t, .int .i64 c, .int .i64 p, .int .i64 d, .int .i64 u, .int .i64 x, .int .i64 b, .int .i64 y] 38)) (w.heap.size + 1) #[.int .i64 te, .int .i64 tb, .int .i64 td, .int .i64 tr] 78) := by
    have := (Blk.made (w.alloc (.cells #[.int .i64 W, v] 24)) #[.int .i64 te, .int .i64 tb, .int .i64 td, .int .i64 tr] 78).alloc (.cells #[.int .i64 i, .int .i64 f, .int .i64 t, .int .i64 c, .int .i64 p, .int .i64 d, .int .i64 u, .int .i64 x, .int .i64 b, .int .i64 y] 38)
    unfold Hid; simpa using this
  have BF : Hid (Blk (((w.alloc (.cells #[.int .i64 W, v] 24)).alloc (.cells #[.int .i64 te, .int .i64 tb, .int .i64 td, .int .i64 tr] 78)).alloc (.cells #[.int .i64 i, .int .i64 f, .int .i64 t, .int .i64 c, .int .i64 p, .int .i64 d, .int .i64 u, .int .i64 x, .int .i64 b, .int .i64 y] 38)) (w.heap.size + 2) #[.int .i64 i, .int .i64 f, .int .i64 t, .int .i64 c, .int .i64 p, .int .i64 d, .int .i64 u, .int .i64 x, .int .i64 b, .int .i64 y] 38) := by
    have := Blk.made ((w.alloc (.cells #[.int .i64 W, v] 24)).alloc (.cells #[.int .i64 te, .int .i64 tb, .int .i64 td, .int .i64 tr] 78)) #[.int .i64 i, .int .i64 f, .int .i64 t, .int .i64 c, .int .i64 p, .int .i64 d, .int .i64 u, .int .i64 x, .int .i64 b, .int .i64 y] 38
    unfold Hid; simpa using this
  obtain ⟨a, cap, rfl, -⟩ := hr
  unfold calV at *
  go_enter Try.func66, Try.ntmps66
  go_wp2_with (first
    | (go_at_call 67; (with_reducible refine (C0.out _ K0.out).mono ?_); rintro z q1 ⟨rfl, k1⟩; have K1 : Hid (Kpt w q1) := ktr K0.out k1; have BC := Lib.hid (BC.out.kpt k1); have BT := Lib.hid (BT.out.kpt k1); have BF := Lib.hid (BF.out.kpt k1); have a0 : World.cell? q1 ⟨w.heap.size, 0, none⟩ = some (.int .i64 W) := BC.out.cell 0; have a1 : World.cell? q1 ⟨w.heap.size, 1, none⟩ = some (.slice a hs.length cap) := BC.out.cell 1; have c0 : World.cell? q1 ⟨(w.heap.size + 1), 0, none⟩ = some (.int .i64 te) := BT.out.cell 0; have c1 : World.cell? q1 ⟨(w.heap.size + 1), 1, none⟩ = some (.int .i64 tb) := BT.out.cell 1; have c2 : World.cell? q1 ⟨(w.heap.size + 1), 2, none⟩ = some (.int .i64 td) := BT.out.cell 2; have c3 : World.cell? q1 ⟨(w.heap.size + 1), 3, none⟩ = some (.int .i64 tr) := BT.out.cell 3; have fd5 : World.cell? q1 ⟨(w.heap.size + 2), 5, none⟩ = some (.int .i64 d) := BF.out.cell 5; clear k1)
    | (go_at_call 113; (with_reducible refine (C3.out _ K1.out).mono ?_); rintro z q2 ⟨rfl, k1⟩; have K2 : Hid (Kpt w q2) := ktr K1.out k1; have BC := Lib.hid (BC.out.kpt k1); have BT := Lib.hid (BT.out.kpt k1); have BF := Lib.hid (BF.out.kpt k1); have a0 : World.cell? q2 ⟨w.heap.size, 0, none⟩ = some (.int .i64 W) := BC.out.cell 0; have a1 : World.cell? q2 ⟨w.heap.size, 1, none⟩ = some (.slice a hs.length cap) := BC.out.cell 1; have c0 : World.cell? q2 ⟨(w.heap.size + 1), 0, none⟩ = some (.int .i64 te) := BT.out.cell 0; have c1 : World.cell? q2 ⟨(w.heap.size + 1), 1, none⟩ = some (.int .i64 tb) := BT.out.cell 1; have c2 : World.cell? q2 ⟨(w.heap.size + 1), 2, none⟩ = some (.int .i64 td) := BT.out.cell 2; have c3 : World.cell? q2 ⟨(w.heap.size + 1), 3, none⟩ = some (.int .i64 tr) := BT.out.cell 3; have fd5 : World.cell? q2 ⟨(w.heap.size + 2), 5, none⟩ = some (.int .i64 d) := BF.out.cell 5; clear k1)
    | (refine wp_loadF rfl (.tmp 6) rfl (w.heap.size + 2) _ rfl BF.out rfl ?_))
  go_ret
  exact ⟨rfl, K2.out⟩

set_option maxRecDepth 100000 in
set_option maxHeartbeats 4000000 in
theorem ras_2 (W te tb td tr i f t c p d u x b y q E g1 g2 g3 : Int) (v : Value) (hs : List Int) (w : World) (hr : Reads w v hs) (C0 : (∀ w' : World, Kpt w w' → Calls Try.prog 67 #[.agg #[.int .i64 i, .int .i64 f, .int .i64 t, .int .i64 c, .int .i64 p, .int .i64 d, .int .i64 u, .int .i64 x, .int .i64 b, .int .i64 y]] w' fun z w'' => z = .returned (.int .i64 E) ∧ Kpt w' w'')) (z0 : (E == 0) = false) (C3 : (∀ w' : World, Kpt w w' → Calls Try.prog 113 #[calV W v, .agg #[.int .i64 te, .int .i64 tb, .int .i64 td, .int .i64 tr], .int .i64 d] w' fun z w'' => z = .returned (.tuple #[.int .i64 g1, .int .i64 g2, .int .i64 g3]) ∧ Kpt w' w'')) (y0 : ¬ q ≤ d) (x0 : decide (q ≤ d) = false) (y1 : ¬ q ≤ g1) (x1 : decide (q ≤ g1) = false) (y2 : q ≤ g2) (x2 : decide (q ≤ g2) = true) :
    Calls Try.prog 66 #[calV W v, .agg #[.int .i64 te, .int .i64 tb, .int .i64 td, .int .i64 tr], .agg #[.int .i64 i, .int .i64 f, .int .i64 t, .int .i64 c, .int .i64 p, .int .i64 d, .int .i64 u, .int .i64 x, .int .i64 b, .int .i64 y], .int .i64 q] w fun z w' => z = .returned (.int .i64 2) ∧ Kpt w w' := by
  have C0 := Lib.hid C0
  have C3 := Lib.hid C3
  have K0 : Hid (Kpt w (((w.alloc (.cells #[.int .i64 W, v] 24)).alloc (.cells #[.int .i64 te, .int .i64 tb, .int .i64 td, .int .i64 tr] 78)).alloc (.cells #[.int .i64 i, .int .i64 f, .int .i64 t, .int .i64 c, .int .i64 p, .int .i64 d, .int .i64 u, .int .i64 x, .int .i64 b, .int .i64 y] 38))) := (((Kpt.refl w).alloc _).alloc _).alloc _
  have BC : Hid (Blk (((w.alloc (.cells #[.int .i64 W, v] 24)).alloc (.cells #[.int .i64 te, .int .i64 tb, .int .i64 td, .int .i64 tr] 78)).alloc (.cells #[.int .i64 i, .int .i64 f, .int .i64 t, .int .i64 c, .int .i64 p, .int .i64 d, .int .i64 u, .int .i64 x, .int .i64 b, .int .i64 y] 38)) w.heap.size #[.int .i64 W, v] 24) := ((Blk.made w _ _).alloc _).alloc _
  have BT : Hid (Blk (((w.alloc (.cells #[.int .i64 W, v] 24)).alloc (.cells #[.int .i64 te, .int .i64 tb, .int .i64 td, .int .i64 tr] 78)).alloc (.cells #[.int .i64 i, .int .i64 f, .int .i64 t, .int .i64 c, .int .i64 p, .int .i64 d, .int .i64 u, .int .i64 x, .int .i64 b, .int .i64 y] 38)) (w.heap.size + 1) #[.int .i64 te, .int .i64 tb, .int .i64 td, .int .i64 tr] 78) := by
    have := (Blk.made (w.alloc (.cells #[.int .i64 W, v] 24)) #[.int .i64 te, .int .i64 tb, .int .i64 td, .int .i64 tr] 78).alloc (.cells #[.int .i64 i, .int .i64 f, .int .i64 t, .int .i64 c, .int .i64 p, .int .i64 d, .int .i64 u, .int .i64 x, .int .i64 b, .int .i64 y] 38)
    unfold Hid; simpa using this
  have BF : Hid (Blk (((w.alloc (.cells #[.int .i64 W, v] 24)).alloc (.cells #[.int .i64 te, .int .i64 tb, .int .i64 td, .int .i64 tr] 78)).alloc (.cells #[.int .i64 i, .int .i64 f, .int .i64 t, .int .i64 c, .int .i64 p, .int .i64 d, .int .i64 u, .int .i64 x, .int .i64 b, .int .i64 y] 38)) (w.heap.size + 2) #[.int .i64 i, .int .i64 f, .int .i64 t, .int .i64 c, .int .i64 p, .int .i64 d, .int .i64 u, .int .i64 x, .int .i64 b, .int .i64 y] 38) := by
    have := Blk.made ((w.alloc (.cells #[.int .i64 W, v] 24)).alloc (.cells #[.int .i64 te, .int .i64 tb, .int .i64 td, .int .i64 tr] 78)) #[.int .i64 i, .int .i64 f, .int .i64 t, .int .i64 c, .int .i64 p, .int .i64 d, .int .i64 u, .int .i64 x, .int .i64 b, .int .i64 y] 38
    unfold Hid; simpa using this
  obtain ⟨a, cap, rfl, -⟩ := hr
  unfold calV at *
  go_enter Try.func66, Try.ntmps66
  go_wp2_with (first
    | (go_at_call 67; (with_reducible refine (C0.out _ K0.out).mono ?_); rintro z q1 ⟨rfl, k1⟩; have K1 : Hid (Kpt w q1) := ktr K0.out k1; have BC := Lib.hid (BC.out.kpt k1); have BT := Lib.hid (BT.out.kpt k1); have BF := Lib.hid (BF.out.kpt k1); have a0 : World.cell? q1 ⟨w.heap.size, 0, none⟩ = some (.int .i64 W) := BC.out.cell 0; have a1 : World.cell? q1 ⟨w.heap.size, 1, none⟩ = some (.slice a hs.length cap) := BC.out.cell 1; have c0 : World.cell? q1 ⟨(w.heap.size + 1), 0, none⟩ = some (.int .i64 te) := BT.out.cell 0; have c1 : World.cell? q1 ⟨(w.heap.size + 1), 1, none⟩ = some (.int .i64 tb) := BT.out.cell 1; have c2 : World.cell? q1 ⟨(w.heap.size + 1), 2, none⟩ = some (.int .i64 td) := BT.out.cell 2; have c3 : World.cell? q1 ⟨(w.heap.size + 1), 3, none⟩ = some (.int .i64 tr) := BT.out.cell 3; have fd5 : World.cell? q1 ⟨(w.heap.size + 2), 5, none⟩ = some (.int .i64 d) := BF.out.cell 5; clear k1)
    | (go_at_call 113; (with_reducible refine (C3.out _ K1.out).mono ?_); rintro z q2 ⟨rfl, k1⟩; have K2 : Hid (Kpt w q2) := ktr K1.out k1; have BC := Lib.hid (BC.out.kpt k1); have BT := Lib.hid (BT.out.kpt k1); have BF := Lib.hid (BF.out.kpt k1); have a0 : World.cell? q2 ⟨w.heap.size, 0, none⟩ = some (.int .i64 W) := BC.out.cell 0; have a1 : World.cell? q2 ⟨w.heap.size, 1, none⟩ = some (.slice a hs.length cap) := BC.out.cell 1; have c0 : World.cell? q2 ⟨(w.heap.size + 1), 0, none⟩ = some (.int .i64 te) := BT.out.cell 0; have c1 : World.cell? q2 ⟨(w.heap.size + 1), 1, none⟩ = some (.int .i64 tb) := BT.out.cell 1; have c2 : World.cell? q2 ⟨(w.heap.size + 1), 2, none⟩ = some (.int .i64 td) := BT.out.cell 2; have c3 : World.cell? q2 ⟨(w.heap.size + 1), 3, none⟩ = some (.int .i64 tr) := BT.out.cell 3; have fd5 : World.cell? q2 ⟨(w.heap.size + 2), 5, none⟩ = some (.int .i64 d) := BF.out.cell 5; clear k1)
    | (refine wp_loadF rfl (.tmp 6) rfl (w.heap.size + 2) _ rfl BF.out rfl ?_))
  go_ret
  exact ⟨rfl, K2.out⟩

set_option maxRecDepth 100000 in
set_option maxHeartbeats 4000000 in
theorem ras_3 (W te tb td tr i f t c p d u x b y q E g1 g2 g3 : Int) (v : Value) (hs : List Int) (w : World) (hr : Reads w v hs) (C0 : (∀ w' : World, Kpt w w' → Calls Try.prog 67 #[.agg #[.int .i64 i, .int .i64 f, .int .i64 t, .int .i64 c, .int .i64 p, .int .i64 d, .int .i64 u, .int .i64 x, .int .i64 b, .int .i64 y]] w' fun z w'' => z = .returned (.int .i64 E) ∧ Kpt w' w'')) (z0 : (E == 0) = false) (C3 : (∀ w' : World, Kpt w w' → Calls Try.prog 113 #[calV W v, .agg #[.int .i64 te, .int .i64 tb, .int .i64 td, .int .i64 tr], .int .i64 d] w' fun z w'' => z = .returned (.tuple #[.int .i64 g1, .int .i64 g2, .int .i64 g3]) ∧ Kpt w' w'')) (y0 : ¬ q ≤ d) (x0 : decide (q ≤ d) = false) (y1 : ¬ q ≤ g1) (x1 : decide (q ≤ g1) = false) (y2 : ¬ q ≤ g2) (x2 : decide (q ≤ g2) = false) (y3 : q ≤ g3) (x3 : decide (q ≤ g3) = true) :
    Calls Try.prog 66 #[calV W v, .agg #[.int .i64 te, .int .i64 tb, .int .i64 td, .int .i64 tr], .agg #[.int .i64 i, .int .i64 f, .int .i64 t, .int .i64 c, .int .i64 p, .int .i64 d, .int .i64 u, .int .i64 x, .int .i64 b, .int .i64 y], .int .i64 q] w fun z w' => z = .returned (.int .i64 3) ∧ Kpt w w' := by
  have C0 := Lib.hid C0
  have C3 := Lib.hid C3
  have K0 : Hid (Kpt w (((w.alloc (.cells #[.int .i64 W, v] 24)).alloc (.cells #[.int .i64 te, .int .i64 tb, .int .i64 td, .int .i64 tr] 78)).alloc (.cells #[.int .i64 i, .int .i64 f, .int .i64 t, .int .i64 c, .int .i64 p, .int .i64 d, .int .i64 u, .int .i64 x, .int .i64 b, .int .i64 y] 38))) := (((Kpt.refl w).alloc _).alloc _).alloc _
  have BC : Hid (Blk (((w.alloc (.cells #[.int .i64 W, v] 24)).alloc (.cells #[.int .i64 te, .int .i64 tb, .int .i64 td, .int .i64 tr] 78)).alloc (.cells #[.int .i64 i, .int .i64 f, .int .i64 t, .int .i64 c, .int .i64 p, .int .i64 d, .int .i64 u, .int .i64 x, .int .i64 b, .int .i64 y] 38)) w.heap.size #[.int .i64 W, v] 24) := ((Blk.made w _ _).alloc _).alloc _
  have BT : Hid (Blk (((w.alloc (.cells #[.int .i64 W, v] 24)).alloc (.cells #[.int .i64 te, .int .i64 tb, .int .i64 td, .int .i64 tr] 78)).alloc (.cells #[.int .i64 i, .int .i64 f, .int .i64 t, .int .i64 c, .int .i64 p, .int .i64 d, .int .i64 u, .int .i64 x, .int .i64 b, .int .i64 y] 38)) (w.heap.size + 1) #[.int .i64 te, .int .i64 tb, .int .i64 td, .int .i64 tr] 78) := by
    have := (Blk.made (w.alloc (.cells #[.int .i64 W, v] 24)) #[.int .i64 te, .int .i64 tb, .int .i64 td, .int .i64 tr] 78).alloc (.cells #[.int .i64 i, .int .i64 f, .int .i64 t, .int .i64 c, .int .i64 p, .int .i64 d, .int .i64 u, .int .i64 x, .int .i64 b, .int .i64 y] 38)
    unfold Hid; simpa using this
  have BF : Hid (Blk (((w.alloc (.cells #[.int .i64 W, v] 24)).alloc (.cells #[.int .i64 te, .int .i64 tb, .int .i64 td, .int .i64 tr] 78)).alloc (.cells #[.int .i64 i, .int .i64 f, .int .i64 t, .int .i64 c, .int .i64 p, .int .i64 d, .int .i64 u, .int .i64 x, .int .i64 b, .int .i64 y] 38)) (w.heap.size + 2) #[.int .i64 i, .int .i64 f, .int .i64 t, .int .i64 c, .int .i64 p, .int .i64 d, .int .i64 u, .int .i64 x, .int .i64 b, .int .i64 y] 38) := by
    have := Blk.made ((w.alloc (.cells #[.int .i64 W, v] 24)).alloc (.cells #[.int .i64 te, .int .i64 tb, .int .i64 td, .int .i64 tr] 78)) #[.int .i64 i, .int .i64 f, .int .i64 t, .int .i64 c, .int .i64 p, .int .i64 d, .int .i64 u, .int .i64 x, .int .i64 b, .int .i64 y] 38
    unfold Hid; simpa using this
  obtain ⟨a, cap, rfl, -⟩ := hr
  unfold calV at *
  go_enter Try.func66, Try.ntmps66
  go_wp2_with (first
    | (go_at_call 67; (with_reducible refine (C0.out _ K0.out).mono ?_); rintro z q1 ⟨rfl, k1⟩; have K1 : Hid (Kpt w q1) := ktr K0.out k1; have BC := Lib.hid (BC.out.kpt k1); have BT := Lib.hid (BT.out.kpt k1); have BF := Lib.hid (BF.out.kpt k1); have a0 : World.cell? q1 ⟨w.heap.size, 0, none⟩ = some (.int .i64 W) := BC.out.cell 0; have a1 : World.cell? q1 ⟨w.heap.size, 1, none⟩ = some (.slice a hs.length cap) := BC.out.cell 1; have c0 : World.cell? q1 ⟨(w.heap.size + 1), 0, none⟩ = some (.int .i64 te) := BT.out.cell 0; have c1 : World.cell? q1 ⟨(w.heap.size + 1), 1, none⟩ = some (.int .i64 tb) := BT.out.cell 1; have c2 : World.cell? q1 ⟨(w.heap.size + 1), 2, none⟩ = some (.int .i64 td) := BT.out.cell 2; have c3 : World.cell? q1 ⟨(w.heap.size + 1), 3, none⟩ = some (.int .i64 tr) := BT.out.cell 3; have fd5 : World.cell? q1 ⟨(w.heap.size + 2), 5, none⟩ = some (.int .i64 d) := BF.out.cell 5; clear k1)
    | (go_at_call 113; (with_reducible refine (C3.out _ K1.out).mono ?_); rintro z q2 ⟨rfl, k1⟩; have K2 : Hid (Kpt w q2) := ktr K1.out k1; have BC := Lib.hid (BC.out.kpt k1); have BT := Lib.hid (BT.out.kpt k1); have BF := Lib.hid (BF.out.kpt k1); have a0 : World.cell? q2 ⟨w.heap.size, 0, none⟩ = some (.int .i64 W) := BC.out.cell 0; have a1 : World.cell? q2 ⟨w.heap.size, 1, none⟩ = some (.slice a hs.length cap) := BC.out.cell 1; have c0 : World.cell? q2 ⟨(w.heap.size + 1), 0, none⟩ = some (.int .i64 te) := BT.out.cell 0; have c1 : World.cell? q2 ⟨(w.heap.size + 1), 1, none⟩ = some (.int .i64 tb) := BT.out.cell 1; have c2 : World.cell? q2 ⟨(w.heap.size + 1), 2, none⟩ = some (.int .i64 td) := BT.out.cell 2; have c3 : World.cell? q2 ⟨(w.heap.size + 1), 3, none⟩ = some (.int .i64 tr) := BT.out.cell 3; have fd5 : World.cell? q2 ⟨(w.heap.size + 2), 5, none⟩ = some (.int .i64 d) := BF.out.cell 5; clear k1)
    | (refine wp_loadF rfl (.tmp 6) rfl (w.heap.size + 2) _ rfl BF.out rfl ?_))
  go_ret
  exact ⟨rfl, K2.out⟩

set_option maxRecDepth 100000 in
set_option maxHeartbeats 4000000 in
theorem ras_4 (W te tb td tr i f t c p d u x b y q E g1 g2 g3 : Int) (v : Value) (hs : List Int) (w : World) (hr : Reads w v hs) (C0 : (∀ w' : World, Kpt w w' → Calls Try.prog 67 #[.agg #[.int .i64 i, .int .i64 f, .int .i64 t, .int .i64 c, .int .i64 p, .int .i64 d, .int .i64 u, .int .i64 x, .int .i64 b, .int .i64 y]] w' fun z w'' => z = .returned (.int .i64 E) ∧ Kpt w' w'')) (z0 : (E == 0) = false) (C3 : (∀ w' : World, Kpt w w' → Calls Try.prog 113 #[calV W v, .agg #[.int .i64 te, .int .i64 tb, .int .i64 td, .int .i64 tr], .int .i64 d] w' fun z w'' => z = .returned (.tuple #[.int .i64 g1, .int .i64 g2, .int .i64 g3]) ∧ Kpt w' w'')) (y0 : ¬ q ≤ d) (x0 : decide (q ≤ d) = false) (y1 : ¬ q ≤ g1) (x1 : decide (q ≤ g1) = false) (y2 : ¬ q ≤ g2) (x2 : decide (q ≤ g2) = false) (y3 : ¬ q ≤ g3) (x3 : decide (q ≤ g3) = false) :
    Calls Try.prog 66 #[calV W v, .agg #[.int .i64 te, .int .i64 tb, .int .i64 td, .int .i64 tr], .agg #[.int .i64 i, .int .i64 f, .int .i64 t, .int .i64 c, .int .i64 p, .int .i64 d, .int .i64 u, .int .i64 x, .int .i64 b, .int .i64 y], .int .i64 q] w fun z w' => z = .returned (.int .i64 4) ∧ Kpt w w' := by
  have C0 := Lib.hid C0
  have C3 := Lib.hid C3
  have K0 : Hid (Kpt w (((w.alloc (.cells #[.int .i64 W, v] 24)).alloc (.cells #[.int .i64 te, .int .i64 tb, .int .i64 td, .int .i64 tr] 78)).alloc (.cells #[.int .i64 i, .int .i64 f, .int .i64 t, .int .i64 c, .int .i64 p, .int .i64 d, .int .i64 u, .int .i64 x, .int .i64 b, .int .i64 y] 38))) := (((Kpt.refl w).alloc _).alloc _).alloc _
  have BC : Hid (Blk (((w.alloc (.cells #[.int .i64 W, v] 24)).alloc (.cells #[.int .i64 te, .int .i64 tb, .int .i64 td, .int .i64 tr] 78)).alloc (.cells #[.int .i64 i, .int .i64 f, .int .i64 t, .int .i64 c, .int .i64 p, .int .i64 d, .int .i64 u, .int .i64 x, .int .i64 b, .int .i64 y] 38)) w.heap.size #[.int .i64 W, v] 24) := ((Blk.made w _ _).alloc _).alloc _
  have BT : Hid (Blk (((w.alloc (.cells #[.int .i64 W, v] 24)).alloc (.cells #[.int .i64 te, .int .i64 tb, .int .i64 td, .int .i64 tr] 78)).alloc (.cells #[.int .i64 i, .int .i64 f, .int .i64 t, .int .i64 c, .int .i64 p, .int .i64 d, .int .i64 u, .int .i64 x, .int .i64 b, .int .i64 y] 38)) (w.heap.size + 1) #[.int .i64 te, .int .i64 tb, .int .i64 td, .int .i64 tr] 78) := by
    have := (Blk.made (w.alloc (.cells #[.int .i64 W, v] 24)) #[.int .i64 te, .int .i64 tb, .int .i64 td, .int .i64 tr] 78).alloc (.cells #[.int .i64 i, .int .i64 f, .int .i64 t, .int .i64 c, .int .i64 p, .int .i64 d, .int .i64 u, .int .i64 x, .int .i64 b, .int .i64 y] 38)
    unfold Hid; simpa using this
  have BF : Hid (Blk (((w.alloc (.cells #[.int .i64 W, v] 24)).alloc (.cells #[.int .i64 te, .int .i64 tb, .int .i64 td, .int .i64 tr] 78)).alloc (.cells #[.int .i64 i, .int .i64 f, .int .i64 t, .int .i64 c, .int .i64 p, .int .i64 d, .int .i64 u, .int .i64 x, .int .i64 b, .int .i64 y] 38)) (w.heap.size + 2) #[.int .i64 i, .int .i64 f, .int .i64 t, .int .i64 c, .int .i64 p, .int .i64 d, .int .i64 u, .int .i64 x, .int .i64 b, .int .i64 y] 38) := by
    have := Blk.made ((w.alloc (.cells #[.int .i64 W, v] 24)).alloc (.cells #[.int .i64 te, .int .i64 tb, .int .i64 td, .int .i64 tr] 78)) #[.int .i64 i, .int .i64 f, .int .i64 t, .int .i64 c, .int .i64 p, .int .i64 d, .int .i64 u, .int .i64 x, .int .i64 b, .int .i64 y] 38
    unfold Hid; simpa using this
  obtain ⟨a, cap, rfl, -⟩ := hr
  unfold calV at *
  go_enter Try.func66, Try.ntmps66
  go_wp2_with (first
    | (go_at_call 67; (with_reducible refine (C0.out _ K0.out).mono ?_); rintro z q1 ⟨rfl, k1⟩; have K1 : Hid (Kpt w q1) := ktr K0.out k1; have BC := Lib.hid (BC.out.kpt k1); have BT := Lib.hid (BT.out.kpt k1); have BF := Lib.hid (BF.out.kpt k1); have a0 : World.cell? q1 ⟨w.heap.size, 0, none⟩ = some (.int .i64 W) := BC.out.cell 0; have a1 : World.cell? q1 ⟨w.heap.size, 1, none⟩ = some (.slice a hs.length cap) := BC.out.cell 1; have c0 : World.cell? q1 ⟨(w.heap.size + 1), 0, none⟩ = some (.int .i64 te) := BT.out.cell 0; have c1 : World.cell? q1 ⟨(w.heap.size + 1), 1, none⟩ = some (.int .i64 tb) := BT.out.cell 1; have c2 : World.cell? q1 ⟨(w.heap.size + 1), 2, none⟩ = some (.int .i64 td) := BT.out.cell 2; have c3 : World.cell? q1 ⟨(w.heap.size + 1), 3, none⟩ = some (.int .i64 tr) := BT.out.cell 3; have fd5 : World.cell? q1 ⟨(w.heap.size + 2), 5, none⟩ = some (.int .i64 d) := BF.out.cell 5; clear k1)
    | (go_at_call 113; (with_reducible refine (C3.out _ K1.out).mono ?_); rintro z q2 ⟨rfl, k1⟩; have K2 : Hid (Kpt w q2) := ktr K1.out k1; have BC := Lib.hid (BC.out.kpt k1); have BT := Lib.hid (BT.out.kpt k1); have BF := Lib.hid (BF.out.kpt k1); have a0 : World.cell? q2 ⟨w.heap.size, 0, none⟩ = some (.int .i64 W) := BC.out.cell 0; have a1 : World.cell? q2 ⟨w.heap.size, 1, none⟩ = some (.slice a hs.length cap) := BC.out.cell 1; have c0 : World.cell? q2 ⟨(w.heap.size + 1), 0, none⟩ = some (.int .i64 te) := BT.out.cell 0; have c1 : World.cell? q2 ⟨(w.heap.size + 1), 1, none⟩ = some (.int .i64 tb) := BT.out.cell 1; have c2 : World.cell? q2 ⟨(w.heap.size + 1), 2, none⟩ = some (.int .i64 td) := BT.out.cell 2; have c3 : World.cell? q2 ⟨(w.heap.size + 1), 3, none⟩ = some (.int .i64 tr) := BT.out.cell 3; have fd5 : World.cell? q2 ⟨(w.heap.size + 2), 5, none⟩ = some (.int .i64 d) := BF.out.cell 5; clear k1)
    | (refine wp_loadF rfl (.tmp 6) rfl (w.heap.size + 2) _ rfl BF.out rfl ?_))
  go_ret
  exact ⟨rfl, K2.out⟩

theorem ras_run (W te tb td tr i f t c p d u x b y q : Int) (v : Value) (hs : List Int) (w : World) (hr : Reads w v hs) (h : lkE W hs te tb td tr i f t c p d u x b y q = 0) :
    Calls Try.prog 66 #[calV W v, .agg #[.int .i64 te, .int .i64 tb, .int .i64 td, .int .i64 tr], .agg #[.int .i64 i, .int .i64 f, .int .i64 t, .int .i64 c, .int .i64 p, .int .i64 d, .int .i64 u, .int .i64 x, .int .i64 b, .int .i64 y], .int .i64 q] w fun z w' => z = .returned (.int .i64 (stgV (openV i f t c p d u x b y) d (dayAt W hs d te tb td 1) (dayAt W hs d te tb td 2) (dayAt W hs d te tb td 3) q)) ∧ Kpt w w' := by
  obtain ⟨c0, fe, dq, we⟩ := lk_0 h
  obtain ⟨hE, b1, b2, b3, b4⟩ := ct_0 c0
  obtain ⟨g1, g2, g3, g4⟩ := fail_0 fe
  obtain ⟨⟨d0, d1⟩, -, -, -, -, hu⟩ := fdue_t g1
  obtain ⟨hx, hb, hy⟩ := ftk_t g3
  have C0 := fun w' (_ : Kpt w w') => rfo_run i f t c p d u x b y w' hu hx hb hy
  have ov : openV i f t c p d u x b y = u - x - b - y := by unfold openV; rw [if_pos fe]
  rw [← ov] at C0
  have C3 := fun w' (k : Kpt w w') => rad_run W te tb td tr d v hs w' (hr.kpt k) hE b1 b2 b3 d0 d1
  have r : ∀ k, radV W hs d te tb td k = dayAt W hs d te tb td k := fun k => by unfold radV; rw [if_pos we]
  rw [r 1, r 2, r 3] at C3
  unfold stgV
  by_cases h0 : openV i f t c p d u x b y = 0
  · rw [if_pos h0]; exact ras_o W te tb td tr i f t c p d u x b y q _ 0 0 0 v hs w hr C0 (beq_iff_eq.2 h0)
  · have z0 : (openV i f t c p d u x b y == 0) = false := beq_eq_false_iff_ne.2 h0
    rw [if_neg h0]
    by_cases h1 : q ≤ d
    · rw [if_pos h1]; exact ras_0 W te tb td tr i f t c p d u x b y q _ 0 0 0 v hs w hr C0 z0 h1 (decide_eq_true h1)
    · rw [if_neg h1]
      by_cases h2 : q ≤ dayAt W hs d te tb td 1
      · rw [if_pos h2]; exact ras_1 W te tb td tr i f t c p d u x b y q _ _ _ _ v hs w hr C0 z0 C3 h1 (decide_eq_false h1) h2 (decide_eq_true h2)
      · rw [if_neg h2]
        by_cases h3 : q ≤ dayAt W hs d te tb td 2
        · rw [if_pos h3]; exact ras_2 W te tb td tr i f t c p d u x b y q _ _ _ _ v hs w hr C0 z0 C3 h1 (decide_eq_false h1) h2 (decide_eq_false h2) h3 (decide_eq_true h3)
        · rw [if_neg h3]
          by_cases h4 : q ≤ dayAt W hs d te tb td 3
          · rw [if_pos h4]; exact ras_3 W te tb td tr i f t c p d u x b y q _ _ _ _ v hs w hr C0 z0 C3 h1 (decide_eq_false h1) h2 (decide_eq_false h2) h3 (decide_eq_false h3) h4 (decide_eq_true h4)
          · rw [if_neg h4]; exact ras_4 W te tb td tr i f t c p d u x b y q _ _ _ _ v hs w hr C0 z0 C3 h1 (decide_eq_false h1) h2 (decide_eq_false h2) h3 (decide_eq_false h3) h4 (decide_eq_false h4)

end Go.Proofs.Ytgccipmeiceonaa
