/-
  What Days of package age does.
-/
import Derived.Test.YtbidafbllnhmnaaAgeB
namespace Go.Proofs.Ytbidafbllnhmnaa
open Go.RowKit
set_option linter.unusedVariables false

/-- the error of Days -/
def agE (W : Int) (hs : List Int) (e b d r n : Int) : Int := if ctE W hs e b d r = 0 then wlkE W hs n e b d else ctE W hs e b d r
/-- what Days gives: the k-th of the days, nothing where there is an error -/
def agD (W : Int) (hs : List Int) (e b d r n : Int) (k : Nat) : Int := if agE W hs e b d r n = 0 then dayAt W hs n e b d k else 0
theorem ag_0 {W : Int} {hs : List Int} {e b d r n : Int} (h : agE W hs e b d r n = 0) : ctE W hs e b d r = 0 ∧ wlkE W hs n e b d = 0 := by
  unfold agE at h
  split at h
  · next h1 => exact ⟨h1, h⟩
  · next h1 => exact absurd h h1
set_option maxHeartbeats 4000000 in
theorem days_run (W n e b d r : Int) (v : Value) (hs : List Int) (w : World) (hr : Reads w v hs) (hf : Fits hs) :
    Calls Try.prog 67 #[calV W v, .agg #[.int .i64 e, .int .i64 b, .int .i64 d, .int .i64 r], .int .i64 n] w fun x w' => x = .returned (.tuple #[.int .i64 (agD W hs e b d r n 1), .int .i64 (agD W hs e b d r n 2), .int .i64 (agD W hs e b d r n 3), .int .i64 (agE W hs e b d r n)]) ∧ Kpt w w' := by
  have CT := Lib.hid (fun w' (k : Kpt w w') => ct_run W e b d r v hs w' (hr.kpt k) hf)
  have WK := Lib.hid (fun w' g (k : Kpt w w') hc => walk_run W n e b d v hs g w' (hr.kpt k) hf hc)
  have K1 : Hid (Kpt w ((w.alloc (.cells #[.int .i64 W, v] 24)).alloc (.cells #[.int .i64 e, .int .i64 b, .int .i64 d, .int .i64 r] 41))) := ((Kpt.refl w).alloc _).alloc _
  have B1 : Hid (Blk ((w.alloc (.cells #[.int .i64 W, v] 24)).alloc (.cells #[.int .i64 e, .int .i64 b, .int .i64 d, .int .i64 r] 41)) (w.heap.size + 1) #[.int .i64 e, .int .i64 b, .int .i64 d, .int .i64 r] 41) := by
    have := Blk.made (w.alloc (.cells #[.int .i64 W, v] 24)) #[.int .i64 e, .int .i64 b, .int .i64 d, .int .i64 r] 41
    unfold Hid; simpa using this
  have A1 : Hid (Blk ((w.alloc (.cells #[.int .i64 W, v] 24)).alloc (.cells #[.int .i64 e, .int .i64 b, .int .i64 d, .int .i64 r] 41)) w.heap.size #[.int .i64 W, v] 24) := (Blk.made w _ _).alloc _
  have HC3 : Hid (∀ w1 : World, ∀ k, k < 3 → World.cell? (w1.alloc (.cells #[.int .i64 e, .int .i64 b, .int .i64 d] 3)) ⟨w1.heap.size, k, none⟩ = some (.int .i64 (three e b d k))) := fun w1 k hk => by
    rw [(Blk.made w1 #[.int .i64 e, .int .i64 b, .int .i64 d] 3).cell k]
    rcases (show k = 0 ∨ k = 1 ∨ k = 2 by omega) with rfl | rfl | rfl <;> rfl
  obtain ⟨a, cap, rfl, -⟩ := hr
  unfold calV at *
  by_cases h : ctE W hs e b d r = 0
  · have hE : agE W hs e b d r n = wlkE W hs n e b d := by unfold agE; rw [if_pos h]
    rw [h] at CT
    by_cases h2 : wlkE W hs n e b d = 0
    · have WK := Lib.hid (fun w' g k hc => (WK.out w' g k hc).2 h2)
      rw [show agD W hs e b d r n 1 = dayAt W hs n e b d 1 by unfold agD; rw [hE, if_pos h2], show agD W hs e b d r n 2 = dayAt W hs n e b d 2 by unfold agD; rw [hE, if_pos h2], show agD W hs e b d r n 3 = dayAt W hs n e b d 3 by unfold agD; rw [hE, if_pos h2], hE, h2]
      clear h h2 hE
      go_enter Try.func67, Try.ntmps67
      go_wp2_with (first
        | (go_at_call 106; (with_reducible refine (CT.out _ K1.out).mono ?_); rintro x w1 ⟨rfl, k1⟩; have K2 := Lib.hid (ktr K1.out k1); have B2 := Lib.hid (B1.out.kpt k1); have A2 := Lib.hid (A1.out.kpt k1); have c0 : World.cell? w1 ⟨w.heap.size + 1, 0, none⟩ = some (.int .i64 e) := B2.out.cell 0; have c1 : World.cell? w1 ⟨w.heap.size + 1, 1, none⟩ = some (.int .i64 b) := B2.out.cell 1; have c2 : World.cell? w1 ⟨w.heap.size + 1, 2, none⟩ = some (.int .i64 d) := B2.out.cell 2; have a0 : World.cell? w1 ⟨w.heap.size, 0, none⟩ = some (.int .i64 W) := A2.out.cell 0; have a1 : World.cell? w1 ⟨w.heap.size, 1, none⟩ = some (.slice a hs.length cap) := A2.out.cell 1; clear k1)
        | (go_at_call 107; (with_reducible refine (WK.out _ _ (K2.out.alloc _) (HC3.out w1)).mono ?_); rintro x w2 ⟨G, rfl, HG, k2⟩; have K3 := Lib.hid (ktr (K2.out.alloc _) k2); have g0 : World.cell? w2 ⟨G, 0, none⟩ = some (.int .i64 (dayAt W hs n e b d 1)) := Row.cell HG.out (j := 0) (by rw [row_len]; omega); have g1 : World.cell? w2 ⟨G, 1, none⟩ = some (.int .i64 (dayAt W hs n e b d 2)) := Row.cell HG.out (j := 1) (by rw [row_len]; omega); have g2 : World.cell? w2 ⟨G, 2, none⟩ = some (.int .i64 (dayAt W hs n e b d 3)) := Row.cell HG.out (j := 2) (by rw [row_len]; omega); clear k2))
      have i0 : (0 : Int) < 3 := by omega
      have i1 : (1 : Int) < 3 := by omega
      have i2 : (2 : Int) < 3 := by omega
      go_quiet (fail)
      go_wp2
      exact bodyPost_ret (v := .tuple #[.int .i64 (dayAt W hs n e b d 1), .int .i64 (dayAt W hs n e b d 2), .int .i64 (dayAt W hs n e b d 3), .int .i64 0]) (by simp [results, Try.results67, go_sem]) rfl ⟨rfl, K3.out.drewN _⟩
    · have WK := Lib.hid (fun w' g k hc => (WK.out w' g k hc).1 h2)
      rw [show agD W hs e b d r n 1 = 0 by unfold agD; rw [hE, if_neg h2], show agD W hs e b d r n 2 = 0 by unfold agD; rw [hE, if_neg h2], show agD W hs e b d r n 3 = 0 by unfold agD; rw [hE, if_neg h2], hE]
      have z0 : (wlkE W hs n e b d != 0) = true := bne_iff_ne.2 h2
      clear h h2 hE
      generalize wlkE W hs n e b d = E at *
      go_enter Try.func67, Try.ntmps67
      go_wp2_with (first
        | (go_at_call 106; (with_reducible refine (CT.out _ K1.out).mono ?_); rintro x w1 ⟨rfl, k1⟩; have K2 := Lib.hid (ktr K1.out k1); have B2 := Lib.hid (B1.out.kpt k1); have A2 := Lib.hid (A1.out.kpt k1); have c0 : World.cell? w1 ⟨w.heap.size + 1, 0, none⟩ = some (.int .i64 e) := B2.out.cell 0; have c1 : World.cell? w1 ⟨w.heap.size + 1, 1, none⟩ = some (.int .i64 b) := B2.out.cell 1; have c2 : World.cell? w1 ⟨w.heap.size + 1, 2, none⟩ = some (.int .i64 d) := B2.out.cell 2; have a0 : World.cell? w1 ⟨w.heap.size, 0, none⟩ = some (.int .i64 W) := A2.out.cell 0; have a1 : World.cell? w1 ⟨w.heap.size, 1, none⟩ = some (.slice a hs.length cap) := A2.out.cell 1; clear k1)
        | (go_at_call 107; (with_reducible refine (WK.out _ _ (K2.out.alloc _) (HC3.out w1)).mono ?_); rintro x w2 ⟨rfl, k2⟩; have K3 := Lib.hid (ktr (K2.out.alloc _) k2); clear k2))
      exact bodyPost_ret (v := .tuple #[.int .i64 0, .int .i64 0, .int .i64 0, .int .i64 E]) (by simp [results, Try.results67, go_sem]) rfl ⟨rfl, K3.out⟩
  · have hE : agE W hs e b d r n = ctE W hs e b d r := by unfold agE; rw [if_neg h]
    rw [show agD W hs e b d r n 1 = 0 by unfold agD; rw [hE, if_neg h], show agD W hs e b d r n 2 = 0 by unfold agD; rw [hE, if_neg h], show agD W hs e b d r n 3 = 0 by unfold agD; rw [hE, if_neg h], hE]
    have z0 : (ctE W hs e b d r != 0) = true := bne_iff_ne.2 h
    clear h hE
    generalize ctE W hs e b d r = E at *
    go_enter Try.func67, Try.ntmps67
    go_wp2_with (go_at_call 106; (with_reducible refine (CT.out _ K1.out).mono ?_); rintro x w1 ⟨rfl, k1⟩; have K2 := Lib.hid (ktr K1.out k1); clear k1)
    exact bodyPost_ret (v := .tuple #[.int .i64 0, .int .i64 0, .int .i64 0, .int .i64 E]) (by simp [results, Try.results67, go_sem]) rfl ⟨rfl, K2.out⟩

end Go.Proofs.Ytbidafbllnhmnaa
