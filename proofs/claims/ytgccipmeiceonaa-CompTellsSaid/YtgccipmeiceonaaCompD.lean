/-
  What must be of compensation in any case: compBegun answers true.
-/
import Derived.Test.YtgccipmeiceonaaCompB
import Derived.Test.YtgccipmeiceonaaCompC
import Derived.Test.YtgccipmeiceonaaFailF
import Derived.Test.YtgccipmeiceonaaSameP
namespace Go.Proofs.Ytgccipmeiceonaa
open Go.RowKit
set_option linter.unusedVariables false

theorem two_post {w : World} {g : Nat} {f t m n : Int} (B : Blk w g #[.int .i64 f, .int .i64 0, .int .i64 m, .int .i64 t, .int .i64 0, .int .i64 n] 94) (h : InP [(f, 0, m), (t, 0, n)]) : ReadsP w (.slice (some ⟨g, 0, none⟩) 2 2) [(f, 0, m), (t, 0, n)] := by
  refine ⟨_, 2, rfl, (fun e => by cases e), by unfold maxLen; simp, h, fun j hj => ⟨g, 0, rfl, ?_⟩⟩
  rcases (show j = 0 ∨ j = 1 by simp at hj; omega) with rfl | rfl
  · exact ⟨B.cell 0, B.cell 1, B.cell 2⟩
  · exact ⟨B.cell 3, B.cell 4, B.cell 5⟩
theorem cb_worth (w : World) : Calls Try.prog 15 #[.int .i64 30, .int .i64 100000, .int .i64 500] w fun e w' => e = .returned (.tuple #[.int .i64 315, .int .i64 0]) ∧ Kpt w w' := worth_any 30 100000 500 w
def F0 : Array Value := #[.int .i64 7, .int .i64 1, .int .i64 2, .int .i64 0, .int .i64 3, .int .i64 739935, .int .i64 100, .int .i64 0, .int .i64 0, .int .i64 0]
theorem cb_pay (w : World) : Calls Try.prog 16 #[.agg #[.int .i64 7, .int .i64 1, .int .i64 2, .int .i64 0, .int .i64 3, .int .i64 739935, .int .i64 100, .int .i64 0, .int .i64 0, .int .i64 0], .int .i64 100000, .int .i64 0] w fun e w' => ∃ g, e = .returned (.tuple #[.agg #[.int .i64 7, .int .i64 1, .int .i64 2, .int .i64 0, .int .i64 3, .int .i64 739935, .int .i64 100, .int .i64 0, .int .i64 0, .int .i64 100], .slice (some ⟨g, 0, none⟩) 2 2, .int .i64 0]) ∧ Blk w' g #[.int .i64 1, .int .i64 0, .int .i64 (-1000), .int .i64 2, .int .i64 0, .int .i64 1000] 94 ∧ Kpt w w' :=
  cpay_ok 7 1 2 0 3 739935 100 0 0 0 100 100 0 1000 100000 0 (by decide) (by decide) (by decide) (fun w => pay_ok 7 1 2 0 3 739935 100 0 0 0 w 100 (by decide) (by decide) (by decide) (by decide) (by decide) (by decide) (by decide)) (wt_is 100 100000 0) w
theorem cb_none (w : World) : Calls Try.prog 16 #[.agg #[.int .i64 7, .int .i64 1, .int .i64 2, .int .i64 0, .int .i64 3, .int .i64 739935, .int .i64 100, .int .i64 0, .int .i64 0, .int .i64 100], .int .i64 1, .int .i64 1] w fun e w' => e = .returned (.tuple #[.agg #[.int .i64 0, .int .i64 0, .int .i64 0, .int .i64 0, .int .i64 0, .int .i64 0, .int .i64 0, .int .i64 0, .int .i64 0, .int .i64 0], .slice none 0 0, .int .i64 5]) ∧ Kpt w w' :=
  cpay_err 7 1 2 0 3 739935 100 0 0 100 0 0 5 0 1 1 (by decide) (fun w => pay_none 7 1 2 0 3 739935 100 0 0 100 w (by decide) (by decide)) w
theorem srt_4 : srt [9, 2, 5, 7] = [2, 5, 7, 9] := by
  exact srt_is (by decide) (by decide)
theorem cb_mid (w : World) (H : Nat) (hH : w.heap.size = H) : Calls Try.prog 17 #[.slice (some ⟨H, 0, none⟩) 4 4] (w.alloc (.cells #[.int .i64 9, .int .i64 2, .int .i64 5, .int .i64 7] 3)) fun e w' => e = .returned (.tuple #[.int .i64 5, .int .i64 0]) ∧ Kpt w w' := by
  subst hH
  have B := Blk.made w #[.int .i64 9, .int .i64 2, .int .i64 5, .int .i64 7] 3
  have r : Reads (w.alloc (.cells #[.int .i64 9, .int .i64 2, .int .i64 5, .int .i64 7] 3)) (.slice (some ⟨w.heap.size, 0, none⟩) 4 4) [9, 2, 5, 7] := by
    refine reads_mk rfl (by unfold maxLen; decide) fun j hj => ?_
    rw [Nat.zero_add]
    rcases (show j = 0 ∨ j = 1 ∨ j = 2 ∨ j = 3 by simp at hj; omega) with rfl | rfl | rfl | rfl
    · exact B.cell 0
    · exact B.cell 1
    · exact B.cell 2
    · exact B.cell 3
  refine (middle_any _ _ _ r).mono ?_
  rintro e w' ⟨rfl, k⟩
  have e1 : midE [9, 2, 5, 7] = 0 := by decide
  have e2 : midQ [9, 2, 5, 7] = 5 := by rw [(mid_0 e1).2.2.2, srt_4]; rfl
  exact ⟨by rw [e1, e2], ktr ((Kpt.refl w).alloc _) k⟩
theorem cb_lim (w : World) : Calls Try.prog 18 #[.int .i64 150, .int .i64 100, .int .i64 2000] w fun e w' => e = .returned (.tuple #[.int .i64 120, .int .i64 0]) ∧ Kpt w w' := limit_any 150 100 2000 w

set_option maxRecDepth 100000 in
set_option maxHeartbeats 4000000 in
theorem compBegun (w : World) : Calls Try.prog 23 #[] w fun e w' => e = .returned (.bool true) ∧ Kpt w w' := by
  have K0 : Hid (Kpt w w) := Kpt.refl w
  have BX : Hid True := trivial
  have PB : Hid True := trivial
  go_enter Try.func23, Try.ntmps23
  go_wp2_with (first
    | (go_at_call 15; (with_reducible refine (cb_worth _).mono ?_); rintro e w1 ⟨rfl, k1⟩; have K0 := Lib.hid (ktr K0.out k1); clear k1)
    | (go_at_call 68; (with_reducible refine (some_run _).mono ?_); rintro e w1 ⟨rfl, k1⟩; have K0 := Lib.hid (ktr K0.out k1); clear k1)
    | (go_at_call 16; (with_reducible refine (cb_pay _).mono ?_); rintro e w3 ⟨g, rfl, pb, k1⟩; have K0 := Lib.hid ((ktr K0.out k1).alloc (.cells #[.int .i64 7, .int .i64 1, .int .i64 2, .int .i64 0, .int .i64 3, .int .i64 739935, .int .i64 100, .int .i64 0, .int .i64 0, .int .i64 100] 38)); have BX : Hid (Blk (w3.alloc (.cells #[.int .i64 7, .int .i64 1, .int .i64 2, .int .i64 0, .int .i64 3, .int .i64 739935, .int .i64 100, .int .i64 0, .int .i64 0, .int .i64 100] 38)) w3.heap.size #[.int .i64 7, .int .i64 1, .int .i64 2, .int .i64 0, .int .i64 3, .int .i64 739935, .int .i64 100, .int .i64 0, .int .i64 0, .int .i64 100] 38) := Blk.made _ _ _; have PB := Lib.hid (Blk.alloc pb (.cells #[.int .i64 7, .int .i64 1, .int .i64 2, .int .i64 0, .int .i64 3, .int .i64 739935, .int .i64 100, .int .i64 0, .int .i64 0, .int .i64 100] 38)); clear k1 pb)
    | (go_at_call 17; (with_reducible refine (cb_mid _ _ (by simp)).mono ?_); rintro e w4 ⟨rfl, k1⟩; have K0 := Lib.hid (ktr K0.out k1); have BX := Lib.hid (Blk.kpt BX.out k1); have PB := Lib.hid (Blk.kpt PB.out k1); clear k1)
    | (go_at_call 18; (with_reducible refine (cb_lim _).mono ?_); rintro e w4 ⟨rfl, k1⟩; have K0 := Lib.hid (ktr K0.out k1); have BX := Lib.hid (Blk.kpt BX.out k1); have PB := Lib.hid (Blk.kpt PB.out k1); clear k1)
    | (go_at_call 17; (with_reducible refine (middle_none none 0 _).mono ?_); rintro e w4 ⟨rfl, k1⟩; have K0 := Lib.hid (ktr K0.out k1); have BX := Lib.hid (Blk.kpt BX.out k1); have PB := Lib.hid (Blk.kpt PB.out k1); clear k1)
    | (refine wp_loadF rfl (.tmp 3) rfl w3.heap.size _ rfl BX.out rfl ?_)
    | (go_at_call 16; (with_reducible refine (cb_none _).mono ?_); rintro e w7 ⟨rfl, k1⟩; have K0 := Lib.hid ((ktr K0.out k1).alloc (.cells #[.int .i64 0, .int .i64 0, .int .i64 0, .int .i64 0, .int .i64 0, .int .i64 0, .int .i64 0, .int .i64 0, .int .i64 0, .int .i64 0] 38)); have c8 : World.cell? w7 ⟨w3.heap.size, 9, none⟩ = some (.int .i64 100) := (Blk.kpt BX.out k1).cell 9; have c9 : World.cell? (w7.alloc (.cells #[.int .i64 0, .int .i64 0, .int .i64 0, .int .i64 0, .int .i64 0, .int .i64 0, .int .i64 0, .int .i64 0, .int .i64 0, .int .i64 0] 38)) ⟨w3.heap.size, 9, none⟩ = some (.int .i64 100) := ((Blk.kpt BX.out k1).alloc _).cell 9; have PB := Lib.hid (Blk.alloc (Blk.kpt PB.out k1) (.cells #[.int .i64 0, .int .i64 0, .int .i64 0, .int .i64 0, .int .i64 0, .int .i64 0, .int .i64 0, .int .i64 0, .int .i64 0, .int .i64 0] 38)); clear k1)
    | (go_at_call 24; (with_reducible refine (sameP_any _ _ [(1, 0, -1000), (2, 0, 1000)] _ (two_post (Blk.alloc PB.out _) (by unfold InP; decide)) (two_post (by have := Blk.made (w7.alloc (.cells #[.int .i64 0, .int .i64 0, .int .i64 0, .int .i64 0, .int .i64 0, .int .i64 0, .int .i64 0, .int .i64 0, .int .i64 0, .int .i64 0] 38)) #[.int .i64 1, .int .i64 0, .int .i64 (-1000), .int .i64 2, .int .i64 0, .int .i64 1000] 94; rw [World.size_alloc] at this; exact this) (by unfold InP; decide))).mono ?_); rintro e w9 ⟨rfl, k2⟩; have K0 := Lib.hid (ktr (K0.out.alloc _) k2); clear k2))
  go_ret
  exact ⟨rfl, K0.out⟩

end Go.Proofs.Ytgccipmeiceonaa
