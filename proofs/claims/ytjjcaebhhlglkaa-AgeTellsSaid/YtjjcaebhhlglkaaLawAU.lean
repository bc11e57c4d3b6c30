/-
  Ages: all calls answer just what the reference says: the last way, and all.
-/
import Derived.Test.YtjjcaebhhlglkaaLawAT
namespace Go.Proofs.Ytjjcaebhhlglkaa
open Go.RowKit
set_option linter.unusedVariables false

set_option maxRecDepth 100000 in
set_option maxHeartbeats 4000000 in
theorem at_near (W te tb td tr i f t c p d u x b y q E G S L g1 g2 g3 D : Int) (T : Int) (v : Value) (hs : List Int) (w : World) (hr : Reads w v hs) (hf : Fits hs) (HD : (∀ w' : World, Kpt w w' → Calls Try.prog 8 #[calV W v, .agg #[.int .i64 te, .int .i64 tb, .int .i64 td, .int .i64 tr], .int .i64 d] w' fun z w'' => z = .returned (.tuple #[.int .i64 g1, .int .i64 g2, .int .i64 g3, .int .i64 0]) ∧ Kpt w' w'')) (HS : (∀ w' : World, Kpt w w' → Calls Try.prog 9 #[calV W v, .agg #[.int .i64 te, .int .i64 tb, .int .i64 td, .int .i64 tr], .agg #[.int .i64 i, .int .i64 f, .int .i64 t, .int .i64 c, .int .i64 p, .int .i64 d, .int .i64 u, .int .i64 x, .int .i64 b, .int .i64 y], .int .i64 q] w' fun z w'' => z = .returned (.tuple #[.int .i64 S, .int .i64 0]) ∧ Kpt w' w'')) (HL : (∀ w' : World, Kpt w w' → Calls Try.prog 10 #[calV W v, .agg #[.int .i64 te, .int .i64 tb, .int .i64 td, .int .i64 tr], .agg #[.int .i64 i, .int .i64 f, .int .i64 t, .int .i64 c, .int .i64 p, .int .i64 d, .int .i64 u, .int .i64 x, .int .i64 b, .int .i64 y], .int .i64 q] w' fun z w'' => z = .returned (.tuple #[.int .i64 L, .int .i64 0]) ∧ Kpt w' w'')) (HC : (∀ w' : World, Kpt w w' → Calls Try.prog 11 #[calV W v] w' fun z w'' => z = .returned (.int .i64 0) ∧ Kpt w' w'')) (HT1 : (∀ w' : World, Calls Try.prog 18 #[.agg #[.int .i64 te, .int .i64 tb, .int .i64 td, .int .i64 tr]] w' fun z w'' => z = .returned (.int .i64 0) ∧ Kpt w' w'')) (HT2 : (∀ w' : World, Calls Try.prog 12 #[.agg #[.int .i64 te, .int .i64 tb, .int .i64 td, .int .i64 tr]] w' fun z w'' => z = .returned (.int .i64 0) ∧ Kpt w' w'')) (HA : (∀ w' : World, Kpt w w' → Calls Try.prog 13 #[calV W v, .agg #[.int .i64 te, .int .i64 tb, .int .i64 td, .int .i64 tr], .int .i64 d] w' fun z w'' => z = .returned (.tuple #[.int .i64 g1, .int .i64 g2, .int .i64 g3]) ∧ Kpt w' w'')) (HE : (∀ w' : World, Kpt w w' → Calls Try.prog 14 #[calV W v, .agg #[.int .i64 te, .int .i64 tb, .int .i64 td, .int .i64 tr], .agg #[.int .i64 i, .int .i64 f, .int .i64 t, .int .i64 c, .int .i64 p, .int .i64 d, .int .i64 u, .int .i64 x, .int .i64 b, .int .i64 y], .int .i64 q] w' fun z w'' => z = .returned (.int .i64 0) ∧ Kpt w' w'')) (HG : (∀ w' : World, Kpt w w' → Calls Try.prog 15 #[calV W v, .agg #[.int .i64 te, .int .i64 tb, .int .i64 td, .int .i64 tr], .agg #[.int .i64 i, .int .i64 f, .int .i64 t, .int .i64 c, .int .i64 p, .int .i64 d, .int .i64 u, .int .i64 x, .int .i64 b, .int .i64 y], .int .i64 q] w' fun z w'' => z = .returned (.int .i64 S) ∧ Kpt w' w'')) (d0 : 0 ≤ d) (d1 : d ≤ 3652058) (d2 : decide (d < 0) = false) (d3 : decide (3652058 < d) = false) (q0 : 0 ≤ q) (q1 : q ≤ 3652058) (i0 : 0 ≤ g3) (i1 : g3 ≤ 3652058) (y1 : decide (g1 < 0) = false) (y2 : ¬ g1 < 0) (x1 : ¬ 3000 < g3 - q) (x2 : decide (3000 < g3 - q) = false) (HB : ∀ w' : World, Kpt w w' → ∀ x : Int, 0 ≤ x → x ≤ 3652058 → Calls Try.prog 16 #[calV W v, .int .i64 x] w' fun z w'' => z = .returned (.bool (bizB W hs x)) ∧ Kpt w' w'') (HX : ∀ x c : Int, q + 1 ≤ x → (x = q + 1 ∨ x ≤ g3 + 1) → g3 < x → c = (cnt (bizB W hs) q (x - 1) : Nat) → c = L) :
    Calls Try.prog 3 #[calV W v, .agg #[.int .i64 te, .int .i64 tb, .int .i64 td, .int .i64 tr], .agg #[.int .i64 i, .int .i64 f, .int .i64 t, .int .i64 c, .int .i64 p, .int .i64 d, .int .i64 u, .int .i64 x, .int .i64 b, .int .i64 y], .int .i64 q] w fun z w' => z = .returned (.bool true) ∧ Kpt w w' := by
  have HD := Lib.hid HD
  have HS := Lib.hid HS
  have HL := Lib.hid HL
  have HC := Lib.hid HC
  have HE := Lib.hid HE
  have HT1 := Lib.hid HT1
  have HT2 := Lib.hid HT2
  have HA := Lib.hid HA
  have HG := Lib.hid HG
  have HB := Lib.hid HB
  have HX := Lib.hid HX
  have K0 : Hid (Kpt w (((w.alloc (.cells #[.int .i64 W, v] 24)).alloc (.cells #[.int .i64 te, .int .i64 tb, .int .i64 td, .int .i64 tr] 26)).alloc (.cells #[.int .i64 i, .int .i64 f, .int .i64 t, .int .i64 c, .int .i64 p, .int .i64 d, .int .i64 u, .int .i64 x, .int .i64 b, .int .i64 y] 28))) := (((Kpt.refl w).alloc _).alloc _).alloc _
  have BC : Hid (Blk (((w.alloc (.cells #[.int .i64 W, v] 24)).alloc (.cells #[.int .i64 te, .int .i64 tb, .int .i64 td, .int .i64 tr] 26)).alloc (.cells #[.int .i64 i, .int .i64 f, .int .i64 t, .int .i64 c, .int .i64 p, .int .i64 d, .int .i64 u, .int .i64 x, .int .i64 b, .int .i64 y] 28)) w.heap.size #[.int .i64 W, v] 24) := ((Blk.made w _ _).alloc _).alloc _
  have BT : Hid (Blk (((w.alloc (.cells #[.int .i64 W, v] 24)).alloc (.cells #[.int .i64 te, .int .i64 tb, .int .i64 td, .int .i64 tr] 26)).alloc (.cells #[.int .i64 i, .int .i64 f, .int .i64 t, .int .i64 c, .int .i64 p, .int .i64 d, .int .i64 u, .int .i64 x, .int .i64 b, .int .i64 y] 28)) (w.heap.size + 1) #[.int .i64 te, .int .i64 tb, .int .i64 td, .int .i64 tr] 26) := by
    have := (Blk.made (w.alloc (.cells #[.int .i64 W, v] 24)) #[.int .i64 te, .int .i64 tb, .int .i64 td, .int .i64 tr] 26).alloc (.cells #[.int .i64 i, .int .i64 f, .int .i64 t, .int .i64 c, .int .i64 p, .int .i64 d, .int .i64 u, .int .i64 x, .int .i64 b, .int .i64 y] 28)
    unfold Hid; simpa using this
  have BF : Hid (Blk (((w.alloc (.cells #[.int .i64 W, v] 24)).alloc (.cells #[.int .i64 te, .int .i64 tb, .int .i64 td, .int .i64 tr] 26)).alloc (.cells #[.int .i64 i, .int .i64 f, .int .i64 t, .int .i64 c, .int .i64 p, .int .i64 d, .int .i64 u, .int .i64 x, .int .i64 b, .int .i64 y] 28)) (w.heap.size + 2) #[.int .i64 i, .int .i64 f, .int .i64 t, .int .i64 c, .int .i64 p, .int .i64 d, .int .i64 u, .int .i64 x, .int .i64 b, .int .i64 y] 28) := by
    have := Blk.made ((w.alloc (.cells #[.int .i64 W, v] 24)).alloc (.cells #[.int .i64 te, .int .i64 tb, .int .i64 td, .int .i64 tr] 26)) #[.int .i64 i, .int .i64 f, .int .i64 t, .int .i64 c, .int .i64 p, .int .i64 d, .int .i64 u, .int .i64 x, .int .i64 b, .int .i64 y] 28
    unfold Hid; simpa using this
  obtain ⟨a, cap, rfl, -⟩ := hr
  unfold calV at *
  have a0 : World.cell? (((w.alloc (.cells #[.int .i64 W, .slice a hs.length cap] 24)).alloc (.cells #[.int .i64 te, .int .i64 tb, .int .i64 td, .int .i64 tr] 26)).alloc (.cells #[.int .i64 i, .int .i64 f, .int .i64 t, .int .i64 c, .int .i64 p, .int .i64 d, .int .i64 u, .int .i64 x, .int .i64 b, .int .i64 y] 28)) ⟨w.heap.size, 0, none⟩ = some (.int .i64 W) := BC.out.cell 0
  have a1 : World.cell? (((w.alloc (.cells #[.int .i64 W, .slice a hs.length cap] 24)).alloc (.cells #[.int .i64 te, .int .i64 tb, .int .i64 td, .int .i64 tr] 26)).alloc (.cells #[.int .i64 i, .int .i64 f, .int .i64 t, .int .i64 c, .int .i64 p, .int .i64 d, .int .i64 u, .int .i64 x, .int .i64 b, .int .i64 y] 28)) ⟨w.heap.size, 1, none⟩ = some (.slice a hs.length cap) := BC.out.cell 1
  have c0 : World.cell? (((w.alloc (.cells #[.int .i64 W, .slice a hs.length cap] 24)).alloc (.cells #[.int .i64 te, .int .i64 tb, .int .i64 td, .int .i64 tr] 26)).alloc (.cells #[.int .i64 i, .int .i64 f, .int .i64 t, .int .i64 c, .int .i64 p, .int .i64 d, .int .i64 u, .int .i64 x, .int .i64 b, .int .i64 y] 28)) ⟨(w.heap.size + 1), 0, none⟩ = some (.int .i64 te) := BT.out.cell 0
  have c1 : World.cell? (((w.alloc (.cells #[.int .i64 W, .slice a hs.length cap] 24)).alloc (.cells #[.int .i64 te, .int .i64 tb, .int .i64 td, .int .i64 tr] 26)).alloc (.cells #[.int .i64 i, .int .i64 f, .int .i64 t, .int .i64 c, .int .i64 p, .int .i64 d, .int .i64 u, .int .i64 x, .int .i64 b, .int .i64 y] 28)) ⟨(w.heap.size + 1), 1, none⟩ = some (.int .i64 tb) := BT.out.cell 1
  have c2 : World.cell? (((w.alloc (.cells #[.int .i64 W, .slice a hs.length cap] 24)).alloc (.cells #[.int .i64 te, .int .i64 tb, .int .i64 td, .int .i64 tr] 26)).alloc (.cells #[.int .i64 i, .int .i64 f, .int .i64 t, .int .i64 c, .int .i64 p, .int .i64 d, .int .i64 u, .int .i64 x, .int .i64 b, .int .i64 y] 28)) ⟨(w.heap.size + 1), 2, none⟩ = some (.int .i64 td) := BT.out.cell 2
  have c3 : World.cell? (((w.alloc (.cells #[.int .i64 W, .slice a hs.length cap] 24)).alloc (.cells #[.int .i64 te, .int .i64 tb, .int .i64 td, .int .i64 tr] 26)).alloc (.cells #[.int .i64 i, .int .i64 f, .int .i64 t, .int .i64 c, .int .i64 p, .int .i64 d, .int .i64 u, .int .i64 x, .int .i64 b, .int .i64 y] 28)) ⟨(w.heap.size + 1), 3, none⟩ = some (.int .i64 tr) := BT.out.cell 3
  have fd0 : World.cell? (((w.alloc (.cells #[.int .i64 W, .slice a hs.length cap] 24)).alloc (.cells #[.int .i64 te, .int .i64 tb, .int .i64 td, .int .i64 tr] 26)).alloc (.cells #[.int .i64 i, .int .i64 f, .int .i64 t, .int .i64 c, .int .i64 p, .int .i64 d, .int .i64 u, .int .i64 x, .int .i64 b, .int .i64 y] 28)) ⟨(w.heap.size + 2), 0, none⟩ = some (.int .i64 i) := BF.out.cell 0
  have fd1 : World.cell? (((w.alloc (.cells #[.int .i64 W, .slice a hs.length cap] 24)).alloc (.cells #[.int .i64 te, .int .i64 tb, .int .i64 td, .int .i64 tr] 26)).alloc (.cells #[.int .i64 i, .int .i64 f, .int .i64 t, .int .i64 c, .int .i64 p, .int .i64 d, .int .i64 u, .int .i64 x, .int .i64 b, .int .i64 y] 28)) ⟨(w.heap.size + 2), 1, none⟩ = some (.int .i64 f) := BF.out.cell 1
  have fd2 : World.cell? (((w.alloc (.cells #[.int .i64 W, .slice a hs.length cap] 24)).alloc (.cells #[.int .i64 te, .int .i64 tb, .int .i64 td, .int .i64 tr] 26)).alloc (.cells #[.int .i64 i, .int .i64 f, .int .i64 t, .int .i64 c, .int .i64 p, .int .i64 d, .int .i64 u, .int .i64 x, .int .i64 b, .int .i64 y] 28)) ⟨(w.heap.size + 2), 2, none⟩ = some (.int .i64 t) := BF.out.cell 2
  have fd3 : World.cell? (((w.alloc (.cells #[.int .i64 W, .slice a hs.length cap] 24)).alloc (.cells #[.int .i64 te, .int .i64 tb, .int .i64 td, .int .i64 tr] 26)).alloc (.cells #[.int .i64 i, .int .i64 f, .int .i64 t, .int .i64 c, .int .i64 p, .int .i64 d, .int .i64 u, .int .i64 x, .int .i64 b, .int .i64 y] 28)) ⟨(w.heap.size + 2), 3, none⟩ = some (.int .i64 c) := BF.out.cell 3
  have fd4 : World.cell? (((w.alloc (.cells #[.int .i64 W, .slice a hs.length cap] 24)).alloc (.cells #[.int .i64 te, .int .i64 tb, .int .i64 td, .int .i64 tr] 26)).alloc (.cells #[.int .i64 i, .int .i64 f, .int .i64 t, .int .i64 c, .int .i64 p, .int .i64 d, .int .i64 u, .int .i64 x, .int .i64 b, .int .i64 y] 28)) ⟨(w.heap.size + 2), 4, none⟩ = some (.int .i64 p) := BF.out.cell 4
  have fd5 : World.cell? (((w.alloc (.cells #[.int .i64 W, .slice a hs.length cap] 24)).alloc (.cells #[.int .i64 te, .int .i64 tb, .int .i64 td, .int .i64 tr] 26)).alloc (.cells #[.int .i64 i, .int .i64 f, .int .i64 t, .int .i64 c, .int .i64 p, .int .i64 d, .int .i64 u, .int .i64 x, .int .i64 b, .int .i64 y] 28)) ⟨(w.heap.size + 2), 5, none⟩ = some (.int .i64 d) := BF.out.cell 5
  have fd6 : World.cell? (((w.alloc (.cells #[.int .i64 W, .slice a hs.length cap] 24)).alloc (.cells #[.int .i64 te, .int .i64 tb, .int .i64 td, .int .i64 tr] 26)).alloc (.cells #[.int .i64 i, .int .i64 f, .int .i64 t, .int .i64 c, .int .i64 p, .int .i64 d, .int .i64 u, .int .i64 x, .int .i64 b, .int .i64 y] 28)) ⟨(w.heap.size + 2), 6, none⟩ = some (.int .i64 u) := BF.out.cell 6
  have fd7 : World.cell? (((w.alloc (.cells #[.int .i64 W, .slice a hs.length cap] 24)).alloc (.cells #[.int .i64 te, .int .i64 tb, .int .i64 td, .int .i64 tr] 26)).alloc (.cells #[.int .i64 i, .int .i64 f, .int .i64 t, .int .i64 c, .int .i64 p, .int .i64 d, .int .i64 u, .int .i64 x, .int .i64 b, .int .i64 y] 28)) ⟨(w.heap.size + 2), 7, none⟩ = some (.int .i64 x) := BF.out.cell 7
  have fd8 : World.cell? (((w.alloc (.cells #[.int .i64 W, .slice a hs.length cap] 24)).alloc (.cells #[.int .i64 te, .int .i64 tb, .int .i64 td, .int .i64 tr] 26)).alloc (.cells #[.int .i64 i, .int .i64 f, .int .i64 t, .int .i64 c, .int .i64 p, .int .i64 d, .int .i64 u, .int .i64 x, .int .i64 b, .int .i64 y] 28)) ⟨(w.heap.size + 2), 8, none⟩ = some (.int .i64 b) := BF.out.cell 8
  have fd9 : World.cell? (((w.alloc (.cells #[.int .i64 W, .slice a hs.length cap] 24)).alloc (.cells #[.int .i64 te, .int .i64 tb, .int .i64 td, .int .i64 tr] 26)).alloc (.cells #[.int .i64 i, .int .i64 f, .int .i64 t, .int .i64 c, .int .i64 p, .int .i64 d, .int .i64 u, .int .i64 x, .int .i64 b, .int .i64 y] 28)) ⟨(w.heap.size + 2), 9, none⟩ = some (.int .i64 y) := BF.out.cell 9
  go_enter Try.func3, Try.ntmps3
  go_wp2_with (first
    | (go_at_call 8; (with_reducible refine (HD.out _ K0.out).mono ?_); rintro z q1 ⟨rfl, k1⟩; have K1 : Hid (Kpt w q1) := ktr K0.out k1; have BC := Lib.hid (BC.out.kpt k1); have BT := Lib.hid (BT.out.kpt k1); have BF := Lib.hid (BF.out.kpt k1); have a0 : World.cell? q1 ⟨w.heap.size, 0, none⟩ = some (.int .i64 W) := BC.out.cell 0; have a1 : World.cell? q1 ⟨w.heap.size, 1, none⟩ = some (.slice a hs.length cap) := BC.out.cell 1; have c0 : World.cell? q1 ⟨(w.heap.size + 1), 0, none⟩ = some (.int .i64 te) := BT.out.cell 0; have c1 : World.cell? q1 ⟨(w.heap.size + 1), 1, none⟩ = some (.int .i64 tb) := BT.out.cell 1; have c2 : World.cell? q1 ⟨(w.heap.size + 1), 2, none⟩ = some (.int .i64 td) := BT.out.cell 2; have c3 : World.cell? q1 ⟨(w.heap.size + 1), 3, none⟩ = some (.int .i64 tr) := BT.out.cell 3; have fd0 : World.cell? q1 ⟨(w.heap.size + 2), 0, none⟩ = some (.int .i64 i) := BF.out.cell 0; have fd1 : World.cell? q1 ⟨(w.heap.size + 2), 1, none⟩ = some (.int .i64 f) := BF.out.cell 1; have fd2 : World.cell? q1 ⟨(w.heap.size + 2), 2, none⟩ = some (.int .i64 t) := BF.out.cell 2; have fd3 : World.cell? q1 ⟨(w.heap.size + 2), 3, none⟩ = some (.int .i64 c) := BF.out.cell 3; have fd4 : World.cell? q1 ⟨(w.heap.size + 2), 4, none⟩ = some (.int .i64 p) := BF.out.cell 4; have fd5 : World.cell? q1 ⟨(w.heap.size + 2), 5, none⟩ = some (.int .i64 d) := BF.out.cell 5; have fd6 : World.cell? q1 ⟨(w.heap.size + 2), 6, none⟩ = some (.int .i64 u) := BF.out.cell 6; have fd7 : World.cell? q1 ⟨(w.heap.size + 2), 7, none⟩ = some (.int .i64 x) := BF.out.cell 7; have fd8 : World.cell? q1 ⟨(w.heap.size + 2), 8, none⟩ = some (.int .i64 b) := BF.out.cell 8; have fd9 : World.cell? q1 ⟨(w.heap.size + 2), 9, none⟩ = some (.int .i64 y) := BF.out.cell 9; clear k1)
    | (go_at_call 9; (with_reducible refine (HS.out _ K1.out).mono ?_); rintro z q2 ⟨rfl, k1⟩; have K2 : Hid (Kpt w q2) := ktr K1.out k1; have BC := Lib.hid (BC.out.kpt k1); have BT := Lib.hid (BT.out.kpt k1); have BF := Lib.hid (BF.out.kpt k1); have a0 : World.cell? q2 ⟨w.heap.size, 0, none⟩ = some (.int .i64 W) := BC.out.cell 0; have a1 : World.cell? q2 ⟨w.heap.size, 1, none⟩ = some (.slice a hs.length cap) := BC.out.cell 1; have c0 : World.cell? q2 ⟨(w.heap.size + 1), 0, none⟩ = some (.int .i64 te) := BT.out.cell 0; have c1 : World.cell? q2 ⟨(w.heap.size + 1), 1, none⟩ = some (.int .i64 tb) := BT.out.cell 1; have c2 : World.cell? q2 ⟨(w.heap.size + 1), 2, none⟩ = some (.int .i64 td) := BT.out.cell 2; have c3 : World.cell? q2 ⟨(w.heap.size + 1), 3, none⟩ = some (.int .i64 tr) := BT.out.cell 3; have fd0 : World.cell? q2 ⟨(w.heap.size + 2), 0, none⟩ = some (.int .i64 i) := BF.out.cell 0; have fd1 : World.cell? q2 ⟨(w.heap.size + 2), 1, none⟩ = some (.int .i64 f) := BF.out.cell 1; have fd2 : World.cell? q2 ⟨(w.heap.size + 2), 2, none⟩ = some (.int .i64 t) := BF.out.cell 2; have fd3 : World.cell? q2 ⟨(w.heap.size + 2), 3, none⟩ = some (.int .i64 c) := BF.out.cell 3; have fd4 : World.cell? q2 ⟨(w.heap.size + 2), 4, none⟩ = some (.int .i64 p) := BF.out.cell 4; have fd5 : World.cell? q2 ⟨(w.heap.size + 2), 5, none⟩ = some (.int .i64 d) := BF.out.cell 5; have fd6 : World.cell? q2 ⟨(w.heap.size + 2), 6, none⟩ = some (.int .i64 u) := BF.out.cell 6; have fd7 : World.cell? q2 ⟨(w.heap.size + 2), 7, none⟩ = some (.int .i64 x) := BF.out.cell 7; have fd8 : World.cell? q2 ⟨(w.heap.size + 2), 8, none⟩ = some (.int .i64 b) := BF.out.cell 8; have fd9 : World.cell? q2 ⟨(w.heap.size + 2), 9, none⟩ = some (.int .i64 y) := BF.out.cell 9; clear k1)
    | (go_at_call 10; (with_reducible refine (HL.out _ K2.out).mono ?_); rintro z q3 ⟨rfl, k1⟩; have K3 : Hid (Kpt w q3) := ktr K2.out k1; have BC := Lib.hid (BC.out.kpt k1); have BT := Lib.hid (BT.out.kpt k1); have BF := Lib.hid (BF.out.kpt k1); have a0 : World.cell? q3 ⟨w.heap.size, 0, none⟩ = some (.int .i64 W) := BC.out.cell 0; have a1 : World.cell? q3 ⟨w.heap.size, 1, none⟩ = some (.slice a hs.length cap) := BC.out.cell 1; have c0 : World.cell? q3 ⟨(w.heap.size + 1), 0, none⟩ = some (.int .i64 te) := BT.out.cell 0; have c1 : World.cell? q3 ⟨(w.heap.size + 1), 1, none⟩ = some (.int .i64 tb) := BT.out.cell 1; have c2 : World.cell? q3 ⟨(w.heap.size + 1), 2, none⟩ = some (.int .i64 td) := BT.out.cell 2; have c3 : World.cell? q3 ⟨(w.heap.size + 1), 3, none⟩ = some (.int .i64 tr) := BT.out.cell 3; have fd0 : World.cell? q3 ⟨(w.heap.size + 2), 0, none⟩ = some (.int .i64 i) := BF.out.cell 0; have fd1 : World.cell? q3 ⟨(w.heap.size + 2), 1, none⟩ = some (.int .i64 f) := BF.out.cell 1; have fd2 : World.cell? q3 ⟨(w.heap.size + 2), 2, none⟩ = some (.int .i64 t) := BF.out.cell 2; have fd3 : World.cell? q3 ⟨(w.heap.size + 2), 3, none⟩ = some (.int .i64 c) := BF.out.cell 3; have fd4 : World.cell? q3 ⟨(w.heap.size + 2), 4, none⟩ = some (.int .i64 p) := BF.out.cell 4; have fd5 : World.cell? q3 ⟨(w.heap.size + 2), 5, none⟩ = some (.int .i64 d) := BF.out.cell 5; have fd6 : World.cell? q3 ⟨(w.heap.size + 2), 6, none⟩ = some (.int .i64 u) := BF.out.cell 6; have fd7 : World.cell? q3 ⟨(w.heap.size + 2), 7, none⟩ = some (.int .i64 x) := BF.out.cell 7; have fd8 : World.cell? q3 ⟨(w.heap.size + 2), 8, none⟩ = some (.int .i64 b) := BF.out.cell 8; have fd9 : World.cell? q3 ⟨(w.heap.size + 2), 9, none⟩ = some (.int .i64 y) := BF.out.cell 9; clear k1)
    | (go_at_call 11; (with_reducible refine (HC.out _ K3.out).mono ?_); rintro z q4 ⟨rfl, k1⟩; have K4 : Hid (Kpt w q4) := ktr K3.out k1; have BC := Lib.hid (BC.out.kpt k1); have BT := Lib.hid (BT.out.kpt k1); have BF := Lib.hid (BF.out.kpt k1); have a0 : World.cell? q4 ⟨w.heap.size, 0, none⟩ = some (.int .i64 W) := BC.out.cell 0; have a1 : World.cell? q4 ⟨w.heap.size, 1, none⟩ = some (.slice a hs.length cap) := BC.out.cell 1; have c0 : World.cell? q4 ⟨(w.heap.size + 1), 0, none⟩ = some (.int .i64 te) := BT.out.cell 0; have c1 : World.cell? q4 ⟨(w.heap.size + 1), 1, none⟩ = some (.int .i64 tb) := BT.out.cell 1; have c2 : World.cell? q4 ⟨(w.heap.size + 1), 2, none⟩ = some (.int .i64 td) := BT.out.cell 2; have c3 : World.cell? q4 ⟨(w.heap.size + 1), 3, none⟩ = some (.int .i64 tr) := BT.out.cell 3; have fd0 : World.cell? q4 ⟨(w.heap.size + 2), 0, none⟩ = some (.int .i64 i) := BF.out.cell 0; have fd1 : World.cell? q4 ⟨(w.heap.size + 2), 1, none⟩ = some (.int .i64 f) := BF.out.cell 1; have fd2 : World.cell? q4 ⟨(w.heap.size + 2), 2, none⟩ = some (.int .i64 t) := BF.out.cell 2; have fd3 : World.cell? q4 ⟨(w.heap.size + 2), 3, none⟩ = some (.int .i64 c) := BF.out.cell 3; have fd4 : World.cell? q4 ⟨(w.heap.size + 2), 4, none⟩ = some (.int .i64 p) := BF.out.cell 4; have fd5 : World.cell? q4 ⟨(w.heap.size + 2), 5, none⟩ = some (.int .i64 d) := BF.out.cell 5; have fd6 : World.cell? q4 ⟨(w.heap.size + 2), 6, none⟩ = some (.int .i64 u) := BF.out.cell 6; have fd7 : World.cell? q4 ⟨(w.heap.size + 2), 7, none⟩ = some (.int .i64 x) := BF.out.cell 7; have fd8 : World.cell? q4 ⟨(w.heap.size + 2), 8, none⟩ = some (.int .i64 b) := BF.out.cell 8; have fd9 : World.cell? q4 ⟨(w.heap.size + 2), 9, none⟩ = some (.int .i64 y) := BF.out.cell 9; clear k1)
    | (go_at_call 12; (with_reducible refine (HT2.out _).mono ?_); rintro z q5 ⟨rfl, k1⟩; have K5 : Hid (Kpt w q5) := ktr K4.out k1; have BC := Lib.hid (BC.out.kpt k1); have BT := Lib.hid (BT.out.kpt k1); have BF := Lib.hid (BF.out.kpt k1); have a0 : World.cell? q5 ⟨w.heap.size, 0, none⟩ = some (.int .i64 W) := BC.out.cell 0; have a1 : World.cell? q5 ⟨w.heap.size, 1, none⟩ = some (.slice a hs.length cap) := BC.out.cell 1; have c0 : World.cell? q5 ⟨(w.heap.size + 1), 0, none⟩ = some (.int .i64 te) := BT.out.cell 0; have c1 : World.cell? q5 ⟨(w.heap.size + 1), 1, none⟩ = some (.int .i64 tb) := BT.out.cell 1; have c2 : World.cell? q5 ⟨(w.heap.size + 1), 2, none⟩ = some (.int .i64 td) := BT.out.cell 2; have c3 : World.cell? q5 ⟨(w.heap.size + 1), 3, none⟩ = some (.int .i64 tr) := BT.out.cell 3; have fd0 : World.cell? q5 ⟨(w.heap.size + 2), 0, none⟩ = some (.int .i64 i) := BF.out.cell 0; have fd1 : World.cell? q5 ⟨(w.heap.size + 2), 1, none⟩ = some (.int .i64 f) := BF.out.cell 1; have fd2 : World.cell? q5 ⟨(w.heap.size + 2), 2, none⟩ = some (.int .i64 t) := BF.out.cell 2; have fd3 : World.cell? q5 ⟨(w.heap.size + 2), 3, none⟩ = some (.int .i64 c) := BF.out.cell 3; have fd4 : World.cell? q5 ⟨(w.heap.size + 2), 4, none⟩ = some (.int .i64 p) := BF.out.cell 4; have fd5 : World.cell? q5 ⟨(w.heap.size + 2), 5, none⟩ = some (.int .i64 d) := BF.out.cell 5; have fd6 : World.cell? q5 ⟨(w.heap.size + 2), 6, none⟩ = some (.int .i64 u) := BF.out.cell 6; have fd7 : World.cell? q5 ⟨(w.heap.size + 2), 7, none⟩ = some (.int .i64 x) := BF.out.cell 7; have fd8 : World.cell? q5 ⟨(w.heap.size + 2), 8, none⟩ = some (.int .i64 b) := BF.out.cell 8; have fd9 : World.cell? q5 ⟨(w.heap.size + 2), 9, none⟩ = some (.int .i64 y) := BF.out.cell 9; clear k1)
    | (go_at_call 13; (with_reducible refine (HA.out _ K5.out).mono ?_); rintro z q6 ⟨rfl, k1⟩; have K6 : Hid (Kpt w q6) := ktr K5.out k1; have BC := Lib.hid (BC.out.kpt k1); have BT := Lib.hid (BT.out.kpt k1); have BF := Lib.hid (BF.out.kpt k1); have a0 : World.cell? q6 ⟨w.heap.size, 0, none⟩ = some (.int .i64 W) := BC.out.cell 0; have a1 : World.cell? q6 ⟨w.heap.size, 1, none⟩ = some (.slice a hs.length cap) := BC.out.cell 1; have c0 : World.cell? q6 ⟨(w.heap.size + 1), 0, none⟩ = some (.int .i64 te) := BT.out.cell 0; have c1 : World.cell? q6 ⟨(w.heap.size + 1), 1, none⟩ = some (.int .i64 tb) := BT.out.cell 1; have c2 : World.cell? q6 ⟨(w.heap.size + 1), 2, none⟩ = some (.int .i64 td) := BT.out.cell 2; have c3 : World.cell? q6 ⟨(w.heap.size + 1), 3, none⟩ = some (.int .i64 tr) := BT.out.cell 3; have fd0 : World.cell? q6 ⟨(w.heap.size + 2), 0, none⟩ = some (.int .i64 i) := BF.out.cell 0; have fd1 : World.cell? q6 ⟨(w.heap.size + 2), 1, none⟩ = some (.int .i64 f) := BF.out.cell 1; have fd2 : World.cell? q6 ⟨(w.heap.size + 2), 2, none⟩ = some (.int .i64 t) := BF.out.cell 2; have fd3 : World.cell? q6 ⟨(w.heap.size + 2), 3, none⟩ = some (.int .i64 c) := BF.out.cell 3; have fd4 : World.cell? q6 ⟨(w.heap.size + 2), 4, none⟩ = some (.int .i64 p) := BF.out.cell 4; have fd5 : World.cell? q6 ⟨(w.heap.size + 2), 5, none⟩ = some (.int .i64 d) := BF.out.cell 5; have fd6 : World.cell? q6 ⟨(w.heap.size + 2), 6, none⟩ = some (.int .i64 u) := BF.out.cell 6; have fd7 : World.cell? q6 ⟨(w.heap.size + 2), 7, none⟩ = some (.int .i64 x) := BF.out.cell 7; have fd8 : World.cell? q6 ⟨(w.heap.size + 2), 8, none⟩ = some (.int .i64 b) := BF.out.cell 8; have fd9 : World.cell? q6 ⟨(w.heap.size + 2), 9, none⟩ = some (.int .i64 y) := BF.out.cell 9; clear k1)
    | (go_at_call 14; (with_reducible refine (HE.out _ K6.out).mono ?_); rintro z q7 ⟨rfl, k1⟩; have K7 : Hid (Kpt w q7) := ktr K6.out k1; have BC := Lib.hid (BC.out.kpt k1); have BT := Lib.hid (BT.out.kpt k1); have BF := Lib.hid (BF.out.kpt k1); have a0 : World.cell? q7 ⟨w.heap.size, 0, none⟩ = some (.int .i64 W) := BC.out.cell 0; have a1 : World.cell? q7 ⟨w.heap.size, 1, none⟩ = some (.slice a hs.length cap) := BC.out.cell 1; have c0 : World.cell? q7 ⟨(w.heap.size + 1), 0, none⟩ = some (.int .i64 te) := BT.out.cell 0; have c1 : World.cell? q7 ⟨(w.heap.size + 1), 1, none⟩ = some (.int .i64 tb) := BT.out.cell 1; have c2 : World.cell? q7 ⟨(w.heap.size + 1), 2, none⟩ = some (.int .i64 td) := BT.out.cell 2; have c3 : World.cell? q7 ⟨(w.heap.size + 1), 3, none⟩ = some (.int .i64 tr) := BT.out.cell 3; have fd0 : World.cell? q7 ⟨(w.heap.size + 2), 0, none⟩ = some (.int .i64 i) := BF.out.cell 0; have fd1 : World.cell? q7 ⟨(w.heap.size + 2), 1, none⟩ = some (.int .i64 f) := BF.out.cell 1; have fd2 : World.cell? q7 ⟨(w.heap.size + 2), 2, none⟩ = some (.int .i64 t) := BF.out.cell 2; have fd3 : World.cell? q7 ⟨(w.heap.size + 2), 3, none⟩ = some (.int .i64 c) := BF.out.cell 3; have fd4 : World.cell? q7 ⟨(w.heap.size + 2), 4, none⟩ = some (.int .i64 p) := BF.out.cell 4; have fd5 : World.cell? q7 ⟨(w.heap.size + 2), 5, none⟩ = some (.int .i64 d) := BF.out.cell 5; have fd6 : World.cell? q7 ⟨(w.heap.size + 2), 6, none⟩ = some (.int .i64 u) := BF.out.cell 6; have fd7 : World.cell? q7 ⟨(w.heap.size + 2), 7, none⟩ = some (.int .i64 x) := BF.out.cell 7; have fd8 : World.cell? q7 ⟨(w.heap.size + 2), 8, none⟩ = some (.int .i64 b) := BF.out.cell 8; have fd9 : World.cell? q7 ⟨(w.heap.size + 2), 9, none⟩ = some (.int .i64 y) := BF.out.cell 9; clear k1)
    | (go_at_call 15; (with_reducible refine (HG.out _ K7.out).mono ?_); rintro z q8 ⟨rfl, k1⟩; have K8 : Hid (Kpt w q8) := ktr K7.out k1; have BC := Lib.hid (BC.out.kpt k1); have BT := Lib.hid (BT.out.kpt k1); have BF := Lib.hid (BF.out.kpt k1); have a0 : World.cell? q8 ⟨w.heap.size, 0, none⟩ = some (.int .i64 W) := BC.out.cell 0; have a1 : World.cell? q8 ⟨w.heap.size, 1, none⟩ = some (.slice a hs.length cap) := BC.out.cell 1; have c0 : World.cell? q8 ⟨(w.heap.size + 1), 0, none⟩ = some (.int .i64 te) := BT.out.cell 0; have c1 : World.cell? q8 ⟨(w.heap.size + 1), 1, none⟩ = some (.int .i64 tb) := BT.out.cell 1; have c2 : World.cell? q8 ⟨(w.heap.size + 1), 2, none⟩ = some (.int .i64 td) := BT.out.cell 2; have c3 : World.cell? q8 ⟨(w.heap.size + 1), 3, none⟩ = some (.int .i64 tr) := BT.out.cell 3; have fd0 : World.cell? q8 ⟨(w.heap.size + 2), 0, none⟩ = some (.int .i64 i) := BF.out.cell 0; have fd1 : World.cell? q8 ⟨(w.heap.size + 2), 1, none⟩ = some (.int .i64 f) := BF.out.cell 1; have fd2 : World.cell? q8 ⟨(w.heap.size + 2), 2, none⟩ = some (.int .i64 t) := BF.out.cell 2; have fd3 : World.cell? q8 ⟨(w.heap.size + 2), 3, none⟩ = some (.int .i64 c) := BF.out.cell 3; have fd4 : World.cell? q8 ⟨(w.heap.size + 2), 4, none⟩ = some (.int .i64 p) := BF.out.cell 4; have fd5 : World.cell? q8 ⟨(w.heap.size + 2), 5, none⟩ = some (.int .i64 d) := BF.out.cell 5; have fd6 : World.cell? q8 ⟨(w.heap.size + 2), 6, none⟩ = some (.int .i64 u) := BF.out.cell 6; have fd7 : World.cell? q8 ⟨(w.heap.size + 2), 7, none⟩ = some (.int .i64 x) := BF.out.cell 7; have fd8 : World.cell? q8 ⟨(w.heap.size + 2), 8, none⟩ = some (.int .i64 b) := BF.out.cell 8; have fd9 : World.cell? q8 ⟨(w.heap.size + 2), 9, none⟩ = some (.int .i64 y) := BF.out.cell 9; clear k1))
  have KN : Hid (Kpt q8 q8) := Kpt.refl _
  go_loopw [23, 24] (fun lv dv wr => ∃ x c : Int, lv = .int .i64 c ∧ dv = .int .i64 x ∧ q + 1 ≤ x ∧ x ≤ 3652059 ∧ 0 ≤ c ∧ c ≤ x ∧ Hid ((x = q + 1 ∨ x ≤ g3 + 1) ∧ c = (cnt (bizB W hs) q (x - 1) : Nat)) ∧ Hid (Kpt q8 wr)) (fun _ dv _ => (3652060 - intOf dv).toNat)
  case atStart => exact ⟨q + 1, 0, rfl, rfl, Int.le_refl _, by omega, Int.le_refl _, by omega, ⟨.inl rfl, by rw [show q + 1 - 1 = q by omega, cnt_self]; rfl⟩, KN.out⟩
  case round =>
    obtain ⟨x, c9, rfl, rfl, x0, xm, cc0, cc1, HI, HK⟩ := hrel
    have BC := Lib.hid (BC.out.kpt HK.out)
    have BT := Lib.hid (BT.out.kpt HK.out)
    have a0 := BC.out.cell 0
    have a1 := BC.out.cell 1
    have KQ : Hid (Kpt w wr) := ktr K8.out HK.out
    by_cases hx : x ≤ g3
    · have yx : decide (x ≤ g3) = true := decide_eq_true hx
      have CSx := cnt_succ (bizB W hs) (show q ≤ x - 1 by omega)
      rw [show x - 1 + 1 = x by omega] at CSx
      have BB := Lib.hid (HB.out wr KQ.out x (by omega) (by omega))
      cases hb : bizB W hs x with
      | true =>
        rw [hb] at BB
        have HI2 : Hid ((x + 1 = q + 1 ∨ x + 1 ≤ g3 + 1) ∧ c9 + 1 = (cnt (bizB W hs) q (x + 1 - 1) : Nat)) := ⟨.inr (by omega), by rw [show x + 1 - 1 = x by omega, CSx, if_pos hb]; have := HI.out.2; omega⟩
        clear hb CSx HI
        go_wp2_with (go_at_call 16; (with_reducible refine BB.out.mono ?_); rintro z w5 ⟨rfl, k5⟩; have K5 := Lib.hid (ktr HK.out k5); clear k5)
        go_roundw
        case rel => exact ⟨x + 1, c9 + 1, rfl, rfl, by omega, by omega, by omega, by omega, HI2.out, K5.out⟩
        case measure => simp [intOf]; omega
      | false =>
        rw [hb] at BB
        have HI2 : Hid ((x + 1 = q + 1 ∨ x + 1 ≤ g3 + 1) ∧ c9 = (cnt (bizB W hs) q (x + 1 - 1) : Nat)) := ⟨.inr (by omega), by rw [show x + 1 - 1 = x by omega, CSx, if_neg (by rw [hb]; simp)]; have := HI.out.2; omega⟩
        clear hb CSx HI
        go_wp2_with (go_at_call 16; (with_reducible refine BB.out.mono ?_); rintro z w5 ⟨rfl, k5⟩; have K5 := Lib.hid (ktr HK.out k5); clear k5)
        go_roundw
        case rel => exact ⟨x + 1, c9, rfl, rfl, by omega, by omega, by omega, by omega, HI2.out, K5.out⟩
        case measure => simp [intOf]; omega
    · have yx : decide (x ≤ g3) = false := decide_eq_false hx
      obtain rfl : c9 = L := HX.out x c9 x0 HI.out.1 (by omega) HI.out.2
      clear HI
      go_wp2
      have f0 := cell_k (q := wr) (a := ⟨(w.heap.size + 1), 0, none⟩) (v := .int .i64 te) (BT.out.cell 0)
      have f1 := cell_k (q := wr) (a := ⟨(w.heap.size + 1), 1, none⟩) (v := .int .i64 tb) (BT.out.cell 1)
      have f2 := cell_k (q := wr) (a := ⟨(w.heap.size + 1), 2, none⟩) (v := .int .i64 td) (BT.out.cell 2)
      have f3 := cell_k (q := wr) (a := ⟨(w.heap.size + 1), 3, none⟩) (v := .int .i64 tr) (BT.out.cell 3)
      have mixed : Try.prog.follows .mixedOrders = true := by kernel_rfl
      refine quiet_k (q := wr) mixed (by kernel_rfl) ?_
      repeat (quiet_step (first | (go_at_call 17; with_reducible refine calls_k (ageBegun _)) | (go_at_call 18; with_reducible refine calls_k (HT1.out _)) | (go_at_call 12; with_reducible refine calls_k (HT2.out _))))
      refine wpQuiet_nil ?_
      intro w8 hw1
      obtain ⟨⟨wz, kz⟩, hw2⟩ := hw1
      have hw3 : w8 = wz := hw2
      clear hw2
      subst hw3
      go_wp2
      go_ret
      exact ⟨rfl, ktr KQ.out kz⟩

def lefW (W : Int) (hs : List Int) (q D : Int) : Int := if D < q then 0 else couR W hs q D
def lfR (W : Int) (hs : List Int) (te tb td tr i f t c p d u x b y q : Int) : Int := if lkE W hs te tb td tr i f t c p d u x b y q = 0 then lefW W hs q (dayAt W hs d te tb td 3) else 0
theorem lft_any (W te tb td tr i f t c p d u x b y q : Int) (v : Value) (hs : List Int) (w : World) (hr : Reads w v hs) (hf : Fits hs) :
    Calls Try.prog 10 #[calV W v, .agg #[.int .i64 te, .int .i64 tb, .int .i64 td, .int .i64 tr], .agg #[.int .i64 i, .int .i64 f, .int .i64 t, .int .i64 c, .int .i64 p, .int .i64 d, .int .i64 u, .int .i64 x, .int .i64 b, .int .i64 y], .int .i64 q] w fun z w' => z = .returned (.tuple #[.int .i64 (lfR W hs te tb td tr i f t c p d u x b y q), .int .i64 (lkE W hs te tb td tr i f t c p d u x b y q)]) ∧ Kpt w w' := by
  unfold lfR lefW
  by_cases h : lkE W hs te tb td tr i f t c p d u x b y q = 0
  · rw [if_pos h, h]
    obtain ⟨c0, fe, dq, we⟩ := lk_0 h
    obtain ⟨hE, b1, b2, b3, b4⟩ := ct_0 c0
    obtain ⟨q0, q1⟩ := day_t dq
    by_cases hp : dayAt W hs d te tb td 3 < q
    · rw [if_pos hp]; exact lft_past W te tb td tr i f t c p d u x b y q v hs w hr hf h hp
    · rw [if_neg hp]
      have up : dayAt W hs d te tb td 3 ≤ 3652058 := (dayAt_in (wlk_0 we 2 (by omega))).2
      have := lft_ok W te tb td tr i f t c p d u x b y q v hs w hr hf h hp
      rw [(cou_ok (W := W) (hs := hs) (f := q) (t := dayAt W hs d te tb td 3) hE q0 (by omega) up).2] at this
      exact this
  · rw [if_neg h]; exact lft_bad W te tb td tr i f t c p d u x b y q v hs w hr hf _ rfl h

set_option maxHeartbeats 4000000 in
theorem ageTells_walk (W te tb td tr i f t c p d u x b y q : Int) (v : Value) (hs : List Int) (w : World) (hr : Reads w v hs) (hf : Fits hs) :
    Calls Try.prog 3 #[calV W v, .agg #[.int .i64 te, .int .i64 tb, .int .i64 td, .int .i64 tr], .agg #[.int .i64 i, .int .i64 f, .int .i64 t, .int .i64 c, .int .i64 p, .int .i64 d, .int .i64 u, .int .i64 x, .int .i64 b, .int .i64 y], .int .i64 q] w fun z w' => z = .returned (.bool true) ∧ Kpt w w' := by
  have HD := fun w' (k : Kpt w w') => days_run W d te tb td tr v hs w' (hr.kpt k) hf
  have HS := fun w' (k : Kpt w w') => stage_any W te tb td tr i f t c p d u x b y q v hs w' (hr.kpt k) hf
  have HL := fun w' (k : Kpt w w') => lft_any W te tb td tr i f t c p d u x b y q v hs w' (hr.kpt k) hf
  have HC := fun w' (k : Kpt w w') => rcc_run W v hs w' (hr.kpt k)
  have HT1 := fun w' => term_run te tb td tr w'
  have HT2 := fun w' => rtc_run te tb td tr w'
  have HE := fun w' (k : Kpt w w') => rae_run W te tb td tr i f t c p d u x b y q v hs w' (hr.kpt k)
  have bad : lkE W hs te tb td tr i f t c p d u x b y q ≠ 0 → stgR W hs te tb td tr i f t c p d u x b y q = 0 ∧ lfR W hs te tb td tr i f t c p d u x b y q = 0 ∧ (lkE W hs te tb td tr i f t c p d u x b y q == 0) = false := fun h => by
    refine ⟨by unfold stgR; rw [if_neg h], by unfold lfR; rw [if_neg h], beq_eq_false_iff_ne.2 h⟩
  have noD : ∀ e, agE W hs te tb td tr d = e → e ≠ 0 → (agD W hs te tb td tr d 1 = 0 ∧ agD W hs te tb td tr d 2 = 0 ∧ agD W hs te tb td tr d 3 = 0) := fun e he h => by
    have h' : ¬ agE W hs te tb td tr d = 0 := by rw [he]; exact h
    unfold agD; rw [if_neg h', if_neg h', if_neg h']; exact ⟨rfl, rfl, rfl⟩
  by_cases h0 : calE W hs = 0
  · rw [h0] at HC
    have ct : ctE W hs te tb td tr = termE te tb td tr := by unfold ctE; rw [if_pos h0]
    by_cases h1 : termE te tb td tr = 0
    · rw [h1] at HT1 HT2
      have ct0 : ctE W hs te tb td tr = 0 := by rw [ct]; exact h1
      obtain ⟨-, b1, b2, b3, -⟩ := ct_0 ct0
      have ag : agE W hs te tb td tr d = wlkE W hs d te tb td := by unfold agE; rw [if_pos ct0]
      by_cases hd : 0 ≤ d ∧ d ≤ 3652058
      · obtain ⟨d0, d1⟩ := hd
        have HA := fun w' (k : Kpt w w') => rad_run W te tb td tr d v hs w' (hr.kpt k) h0 b1 b2 b3 d0 d1
        by_cases hw : wlkE W hs d te tb td = 0
        · have r : ∀ k, radV W hs d te tb td k = dayAt W hs d te tb td k := fun k => by unfold radV; rw [if_pos hw]
          have e : ∀ k, agD W hs te tb td tr d k = dayAt W hs d te tb td k := fun k => by unfold agD; rw [if_pos (ag.trans hw)]
          rw [r 1, r 2, r 3] at HA
          rw [e 1, e 2, e 3, ag.trans hw] at HD
          have i1 : 0 ≤ dayAt W hs d te tb td 1 ∧ dayAt W hs d te tb td 1 ≤ 3652058 := dayAt_in (wlk_0 hw 0 (by omega))
          have i3 : 0 ≤ dayAt W hs d te tb td 3 ∧ dayAt W hs d te tb td 3 ≤ 3652058 := dayAt_in (wlk_0 hw 2 (by omega))
          have y1 : decide (dayAt W hs d te tb td 1 < 0) = false := decide_eq_false (by omega)
          by_cases hk : lkE W hs te tb td tr i f t c p d u x b y q = 0
          · obtain ⟨c0, fe, dq, we⟩ := lk_0 hk
            obtain ⟨q0, q1⟩ := day_t dq
            have HG := fun w' (k : Kpt w w') => ras_run W te tb td tr i f t c p d u x b y q v hs w' (hr.kpt k) hk
            have s1 : stgR W hs te tb td tr i f t c p d u x b y q = stgV (openV i f t c p d u x b y) d (dayAt W hs d te tb td 1) (dayAt W hs d te tb td 2) (dayAt W hs d te tb td 3) q := by unfold stgR; rw [if_pos hk]
            rw [← s1] at HG
            rw [hk] at HS HL HE
            by_cases hx : 3000 < dayAt W hs d te tb td 3 - q
            · exact at_far W te tb td tr i f t c p d u x b y q 0 0 _ _ _ _ _ 0 0 v hs w hr hf HD HS HL HC HT1 HT2 HA HE HG d0 d1 (decide_eq_false (by omega)) (decide_eq_false (by omega)) q0 q1 i3.1 i3.2 y1 (by omega) hx (decide_eq_true hx)
            · have HB : ∀ w' : World, Kpt w w' → ∀ x : Int, 0 ≤ x → x ≤ 3652058 → Calls Try.prog 16 #[calV W v, .int .i64 x] w' fun z w'' => z = .returned (.bool (bizB W hs x)) ∧ Kpt w' w'' := fun w' k x x0 x1 => by
                have := rbz_run W x v hs w' (hr.kpt k) h0
                rw [show dayB x = true from decide_eq_true ⟨x0, x1⟩, Bool.true_and] at this
                exact this
              refine at_near W te tb td tr i f t c p d u x b y q 0 0 _ _ _ _ _ 0 0 v hs w hr hf HD HS HL HC HT1 HT2 HA HE HG d0 d1 (decide_eq_false (by omega)) (decide_eq_false (by omega)) q0 q1 i3.1 i3.2 y1 (by omega) hx (decide_eq_false hx) HB ?_
              intro x c x0 x1 x2 x3
              unfold lfR lefW
              rw [if_pos hk]
              by_cases hp : dayAt W hs d te tb td 3 < q
              · rw [if_pos hp, x3, show x = q + 1 by omega, show q + 1 - 1 = q by omega, cnt_self]; rfl
              · rw [if_neg hp, (cou_ok (W := W) (hs := hs) (f := q) (t := dayAt W hs d te tb td 3) h0 q0 (by omega) i3.2).1, x3]
                rcases x1 with x1 | x1
                · rw [show x - 1 = dayAt W hs d te tb td 3 by omega]
                · rw [show x - 1 = dayAt W hs d te tb td 3 by omega]
          · obtain ⟨s1, s2, s3⟩ := bad hk
            rw [s1] at HS; rw [s2] at HL
            exact at_g W te tb td tr i f t c p d u x b y q 0 _ 0 0 _ _ _ 0 0 v hs w hr hf HD HS HL HC HT1 HT2 HA HE s3 d0 d1 (decide_eq_false (by omega)) (decide_eq_false (by omega)) y1 (by omega)
        · have r : ∀ k, radV W hs d te tb td k = -1 := fun k => by unfold radV; rw [if_neg hw]
          rw [r 1, r 2, r 3] at HA
          have w8 := wlk_8 h0 b1 b2 b3 d0 d1 hw
          obtain ⟨n1, n2, n3⟩ := noD 8 (ag.trans w8) (by decide)
          rw [n1, n2, n3, ag.trans w8] at HD
          have hk : lkE W hs te tb td tr i f t c p d u x b y q ≠ 0 := fun h => hw (lk_0 h).2.2.2
          obtain ⟨s1, s2, s3⟩ := bad hk
          rw [s1] at HS; rw [s2] at HL
          exact at_w W te tb td tr i f t c p d u x b y q 0 _ 0 0 0 0 0 0 0 v hs w hr hf HD HS HL HC HT1 HT2 HA HE s3 d0 d1 (decide_eq_false (by omega)) (decide_eq_false (by omega))
      · have w3 : wlkE W hs d te tb td = 3 := by
          have e0 : errAt W hs d te tb td 0 = 3 := by
            show steE W hs d te = 3
            unfold steE
            have : daysE W hs [d] = 3 := by
              unfold daysE; rw [if_pos h0]; unfold dysE
              rw [if_neg (by simp [dayB]; omega)]
            rw [this]; rfl
          unfold wlkE; rw [e0]; rfl
        obtain ⟨n1, n2, n3⟩ := noD 3 (ag.trans w3) (by decide)
        rw [n1, n2, n3, ag.trans w3] at HD
        have hk : lkE W hs te tb td tr i f t c p d u x b y q ≠ 0 := fun h => by have := (lk_0 h).2.2.2; omega
        obtain ⟨s1, s2, s3⟩ := bad hk
        rw [s1] at HS; rw [s2] at HL
        by_cases d0 : d < 0
        · exact at_lo W te tb td tr i f t c p d u x b y q 0 _ 0 0 0 0 0 0 0 v hs w hr hf HD HS HL HC HT1 HT2 HE s3 d0 (decide_eq_true d0)
        · exact at_hi W te tb td tr i f t c p d u x b y q 0 _ 0 0 0 0 0 0 0 v hs w hr hf HD HS HL HC HT1 HT2 HE s3 d0 (by omega) (decide_eq_false d0) (decide_eq_true (by omega))
    · have ag : agE W hs te tb td tr d = termE te tb td tr := by unfold agE; rw [if_neg (by rw [ct]; exact h1), ct]
      obtain ⟨n1, n2, n3⟩ := noD _ ag h1
      rw [n1, n2, n3, ag] at HD
      have hk : lkE W hs te tb td tr i f t c p d u x b y q ≠ 0 := fun h => h1 (by rw [← ct]; exact (lk_0 h).1)
      obtain ⟨s1, s2, s3⟩ := bad hk
      rw [s1] at HS; rw [s2] at HL
      exact at_t W te tb td tr i f t c p d u x b y q _ _ 0 0 0 0 0 0 0 v hs w hr hf HD HS HL HC HT1 HT2 HE s3 (beq_eq_false_iff_ne.2 h1)
  · have ct : ctE W hs te tb td tr = calE W hs := by unfold ctE; rw [if_neg h0]
    have ag : agE W hs te tb td tr d = calE W hs := by unfold agE; rw [if_neg (by rw [ct]; exact h0), ct]
    obtain ⟨n1, n2, n3⟩ := noD _ ag h0
    rw [n1, n2, n3, ag] at HD
    have hk : lkE W hs te tb td tr i f t c p d u x b y q ≠ 0 := fun h => h0 (by rw [← ct]; exact (lk_0 h).1)
    obtain ⟨s1, s2, s3⟩ := bad hk
    rw [s1] at HS; rw [s2] at HL
    exact at_c W te tb td tr i f t c p d u x b y q _ _ 0 0 0 0 0 0 _ v hs w hr hf HD HS HL HC HT1 HT2 HE s3 (beq_eq_false_iff_ne.2 h0)

end Go.Proofs.Ytjjcaebhhlglkaa
