/-
  Business days: all calls answer just what the reference says.
-/
import Derived.Test.YtpkhhbplabfeaaaDoorRefCal3
import Derived.Test.YtpkhhbplabfeaaaDoorCalJ
import Derived.Test.YtpkhhbplabfeaaaDoorQuietK
import Derived.Deep.Cut
import Derived.Deep.CutRange
namespace Go.Proofs.YtpkhhbplabfeaaaDoor
open Go.RowKit
set_option linter.unusedVariables false

set_option maxRecDepth 100000 in
set_option maxHeartbeats 8000000 in
theorem ctl_e (W n m tq : Int) (E C : Int) (v : Value) (hs : List Int) (w : World) (ht : Tab w) (hsl : ∃ a l cap, v = .slice a l cap) (HI : (∀ w' : World, Kpt w w' → Calls Tryd.prog 4 #[calV W v, .int .i64 n] w' fun z w'' => z = .returned (.tuple #[.bool false, .int .i64 E]) ∧ Kpt w' w'')) (HN : (∀ w' : World, Kpt w w' → Calls Tryd.prog 5 #[calV W v, .int .i64 n] w' fun z w'' => z = .returned (.tuple #[.int .i64 0, .int .i64 E]) ∧ Kpt w' w'')) (HS : (∀ w' : World, Kpt w w' → Calls Tryd.prog 6 #[calV W v, .int .i64 n, .int .i64 m] w' fun z w'' => z = .returned (.tuple #[.int .i64 0, .int .i64 E]) ∧ Kpt w' w'')) (HK : (∀ w' : World, Kpt w w' → Calls Tryd.prog 7 #[calV W v, .int .i64 n, .int .i64 tq] w' fun z w'' => z = .returned (.tuple #[.int .i64 0, .int .i64 E]) ∧ Kpt w' w'')) (HF : (∀ w' : World, Kpt w w' → Calls Tryd.prog 8 #[calV W v, .int .i64 n] w' fun z w'' => z = .returned (.tuple #[.int .i64 0, .int .i64 E]) ∧ Kpt w' w'')) (HE : (∀ w' : World, Kpt w w' → Calls Tryd.prog 9 #[calV W v, .int .i64 n] w' fun z w'' => z = .returned (.int .i64 E) ∧ Kpt w' w'')) (HCK : (∀ w' : World, Kpt w w' → Calls Tryd.prog 15 #[calV W v] w' fun z w'' => z = .returned (.int .i64 C) ∧ Kpt w' w'')) (HCC : (∀ w' : World, Kpt w w' → Calls Tryd.prog 16 #[calV W v] w' fun z w'' => z = .returned (.int .i64 C) ∧ Kpt w' w'')) (z1 : (E == 0) = false) :
    Calls Tryd.prog 3 #[calV W v, .int .i64 n, .int .i64 m, .int .i64 tq] w fun z w' => z = .returned (.bool true) ∧ Kpt w w' := by
  obtain ⟨a, l, cap, rfl⟩ := hsl
  obtain ⟨k0, a0, a1⟩ := W1cells W a l cap w
  have K0 := Lib.hid k0
  have HT := Lib.hid ht
  have KW : Hid (Kpt (w.alloc (.cells #[.int .i64 W, .slice a l cap] 24)) (w.alloc (.cells #[.int .i64 W, .slice a l cap] 24))) := Kpt.refl _
  have B0 := Lib.hid a0
  have B1 := Lib.hid a1
  clear k0 ht
  have HI := Lib.hid HI
  have HN := Lib.hid HN
  have HS := Lib.hid HS
  have HK := Lib.hid HK
  have HF := Lib.hid HF
  have HE := Lib.hid HE
  have HCK := Lib.hid HCK
  have HCC := Lib.hid HCC
  unfold calV at *
  go_enter Tryd.func3, Tryd.ntmps3
  go_wp2_with (first
    | (go_at_call 4; (with_reducible refine (HI.out _ (ktr K0.out KW.out)).mono ?_); rintro e q1 ⟨rfl, k1⟩; have K1 : Hid (Kpt (w.alloc (.cells #[.int .i64 W, .slice a l cap] 24)) q1) := ktr KW.out k1; have a0 := k1.cell a0; have a1 := k1.cell a1; clear k1)
    | (go_at_call 5; (with_reducible refine (HN.out _ (ktr K0.out K1.out)).mono ?_); rintro e q2 ⟨rfl, k1⟩; have K2 : Hid (Kpt (w.alloc (.cells #[.int .i64 W, .slice a l cap] 24)) q2) := ktr K1.out k1; have a0 := k1.cell a0; have a1 := k1.cell a1; clear k1)
    | (go_at_call 6; (with_reducible refine (HS.out _ (ktr K0.out K2.out)).mono ?_); rintro e q3 ⟨rfl, k1⟩; have K3 : Hid (Kpt (w.alloc (.cells #[.int .i64 W, .slice a l cap] 24)) q3) := ktr K2.out k1; have a0 := k1.cell a0; have a1 := k1.cell a1; clear k1)
    | (go_at_call 7; (with_reducible refine (HK.out _ (ktr K0.out K3.out)).mono ?_); rintro e q4 ⟨rfl, k1⟩; have K4 : Hid (Kpt (w.alloc (.cells #[.int .i64 W, .slice a l cap] 24)) q4) := ktr K3.out k1; have a0 := k1.cell a0; have a1 := k1.cell a1; clear k1)
    | (go_at_call 8; (with_reducible refine (HF.out _ (ktr K0.out K4.out)).mono ?_); rintro e q5 ⟨rfl, k1⟩; have K5 : Hid (Kpt (w.alloc (.cells #[.int .i64 W, .slice a l cap] 24)) q5) := ktr K4.out k1; have a0 := k1.cell a0; have a1 := k1.cell a1; clear k1)
    | (go_at_call 9; (with_reducible refine (HE.out _ (ktr K0.out K5.out)).mono ?_); rintro e q6 ⟨rfl, k1⟩; have K6 : Hid (Kpt (w.alloc (.cells #[.int .i64 W, .slice a l cap] 24)) q6) := ktr K5.out k1; have a0 := k1.cell a0; have a1 := k1.cell a1; clear k1))
  have f0 := cell_k (q := q6) (a := ⟨w.heap.size, 0, none⟩) (v := .int .i64 W) a0
  have f1 := cell_k (q := q6) (a := ⟨w.heap.size, 1, none⟩) (v := .slice a l cap) a1
  have CBQ := Lib.hid (fun p : KptTo q6 => calBegun p.w (HT.out.kpt (ktr K0.out (ktr K6.out p.h))))
  have CKQ := Lib.hid (fun p : KptTo q6 => HCK.out p.w (ktr K0.out (ktr K6.out p.h)))
  have CCQ := Lib.hid (fun p : KptTo q6 => HCC.out p.w (ktr K0.out (ktr K6.out p.h)))
  have mixed : Tryd.prog.follows .mixedOrders = true := by kernel_rfl
  refine quiet_k (q := q6) mixed (by kernel_rfl) ?_
  repeat (quiet_step (first | (go_at_call 14; with_reducible refine calls_k (CBQ.out _)) | (go_at_call 15; with_reducible refine calls_k (CKQ.out _)) | (go_at_call 16; with_reducible refine calls_k (CCQ.out _))))
  refine wpQuiet_nil ?_
  intro w8 hw1
  obtain ⟨⟨wz, kz⟩, hw2⟩ := hw1
  have hw3 : w8 = wz := hw2
  clear hw2
  subst hw3
  go_wp2
  go_ret
  exact ⟨rfl, ktr K0.out (ktr K6.out kz)⟩

end Go.Proofs.YtpkhhbplabfeaaaDoor
