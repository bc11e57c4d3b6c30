/-
  What must be of business days in any case.
-/
import Derived.Test.YtmoanndonfmihaaCalI
namespace Go.Proofs.Ytmoanndonfmihaa
open Go.RowKit
set_option linter.unusedVariables false

theorem up_at {W : Int} {hs : List Int} {n k : Int} {m : Nat} (h0 : -1 ≤ n) (h1 : n < k) (h2 : k ≤ 3652058) (hm : 1 ≤ m) (hb : bizB W hs k = true) (hc : cnt (bizB W hs) n k = m) : upR W hs (n + 1) m = k ∧ upE W hs (n + 1) m = 0 := by
  rcases up_cases W hs h0 (by omega) hm with ⟨e1, e2, e3, e4, e5⟩ | ⟨e1, e2, e3⟩
  · exact ⟨cnt_inj e2 h1 e4 hb (e5.trans hc.symm), e1⟩
  · have := cnt_mono (bizB W hs) (Int.le_of_lt h1) h2; omega
theorem dn_at {W : Int} {hs : List Int} {n k : Int} {m : Nat} (h0 : 0 ≤ k) (h1 : k ≤ n) (h2 : n ≤ 3652058) (hm : 1 ≤ m) (hb : bizB W hs k = true) (hc : cnt (bizB W hs) (k - 1) n = m) : dnR W hs n m = k ∧ dnE W hs n m = 0 := by
  rcases dn_cases W hs (show -1 ≤ n by omega) h2 hm with ⟨e1, e2, e3, e4, e5⟩ | ⟨e1, e2, e3⟩
  · exact ⟨cnt_inj_dn e3 h1 e4 hb (e5.trans hc.symm), e1⟩
  · have := cnt_add (bizB W hs) (show -1 ≤ k - 1 by omega) (show k - 1 ≤ n by omega); omega
theorem next_at {W : Int} {hs : List Int} {n k : Int} (h0 : 0 ≤ n) (h1 : n ≤ k) (h2 : k ≤ 3652058) (hb : bizB W hs k = true) (hc : cnt (bizB W hs) (n - 1) k = 1) : upR W hs n 1 = k ∧ upE W hs n 1 = 0 := by
  have := up_at (W := W) (hs := hs) (n := n - 1) (k := k) (m := 1) (by omega) (by omega) h2 (by omega) hb hc
  rw [show n - 1 + 1 = n by omega] at this
  exact this

/-- Fit, where a date is known -/
def FitIs (W : Int) (hs : List Int) (n : Int) (w : World) (e : Ending) (w' : World) : Prop :=
  (∃ k, e = .returned (.tuple #[.int .i64 k, .int .i64 0]) ∧ Kpt w w' ∧ upR W hs n 1 = k ∧ upE W hs n 1 = 0 ∧ (∃ y m d D, vldB y m d = true ∧ num y m d = n ∧ vldB y m D = true ∧ num y m D = k)) ∨
  (e = .returned (.tuple #[.int .i64 (dnR W hs (n - 1) 1), .int .i64 (dnE W hs (n - 1) 1)]) ∧ Kpt w w' ∧
    ((∃ k y m d Y M D, upR W hs n 1 = k ∧ upE W hs n 1 = 0 ∧ vldB y m d = true ∧ num y m d = n ∧ vldB Y M D = true ∧ num Y M D = k ∧ ¬ (y = Y ∧ m = M)) ∨ (upE W hs n 1 = 8 ∧ upR W hs n 1 = 0 ∧ cnt (bizB W hs) (n - 1) 3652058 = 0)))
/-- the week of the laws -/
def wkH : List Int := [739936]
def WeekIs (w : World) (e : Ending) (w' : World) : Prop := ∃ v, e = .returned (calV 96 v) ∧ Reads w' v wkH ∧ Kpt w w'
theorem week_any (w : World) : Calls Try.prog 38 #[] w (WeekIs w) := by
  go_enter Try.func38, Try.ntmps38
  go_wp2
  refine bodyPost_ret (v := calV 96 (.slice (some ⟨w.heap.size + 1, 0, none⟩) 1 1)) (by simp [results, Try.results38, go_sem]) rfl ⟨_, rfl, ?_, ?_⟩
  · refine reads_mk (zs := wkH) rfl (by unfold maxLen; omega) fun j hj => ?_
    obtain rfl : j = 0 := by simpa [wkH] using hj
    simp [go_sem, wkH]
  · exact ((Kpt.refl _).alloc _).alloc _

theorem wk_fits : Fits wkH := fun j hj => by
  obtain rfl : j = 0 := by simpa [wkH] using hj
  simp [wkH]
theorem wb_is (v : Value) (w : World) (hr : Reads w v wkH) : Calls Try.prog 81 #[calV 96 v, .int .i64 739936] w fun e w' => e = .returned (.tuple #[.bool false, .int .i64 0]) ∧ Kpt w w' := by
  have := is_ok 96 739936 v wkH w hr wk_fits (by decide)
  rw [show bizB 96 wkH 739936 = false by decide +kernel] at this
  exact this.mono fun e w' h => ⟨h.1, h.2.kpt⟩
theorem wb_step1 (v : Value) (w : World) (hr : Reads w v wkH) : Calls Try.prog 116 #[calV 96 v, .int .i64 739935, .int .i64 4] w fun e w' => e = .returned (.tuple #[.int .i64 739942, .int .i64 0]) ∧ Kpt w w' := by
  have := step_up 96 739935 4 v wkH (by decide) (by decide) w hr wk_fits (by decide)
  obtain ⟨a, b⟩ := up_at (W := 96) (hs := wkH) (n := 739935) (k := 739942) (m := (4 : Int).toNat) (by decide) (by decide) (by decide) (by decide) (by decide +kernel) (by decide +kernel)
  rw [a, b] at this
  exact this
theorem wb_step2 (v : Value) (w : World) (hr : Reads w v wkH) : Calls Try.prog 116 #[calV 96 v, .int .i64 739937, .int .i64 (-2)] w fun e w' => e = .returned (.tuple #[.int .i64 739932, .int .i64 0]) ∧ Kpt w w' := by
  have := step_dn 96 739937 (-2) v wkH (by decide) (by decide) w hr wk_fits (by decide)
  obtain ⟨a, b⟩ := dn_at (W := 96) (hs := wkH) (n := 739937 - 1) (k := 739932) (m := (- -2 : Int).toNat) (by decide) (by decide) (by decide) (by decide) (by decide +kernel) (by decide +kernel)
  rw [a, b] at this
  exact this
theorem wb_count (v : Value) (w : World) (hr : Reads w v wkH) : Calls Try.prog 85 #[calV 96 v, .int .i64 739935, .int .i64 739942] w fun e w' => e = .returned (.tuple #[.int .i64 4, .int .i64 0]) ∧ Kpt w w' := by
  have := count_ok 96 739935 739942 v wkH w hr wk_fits (by decide) (by decide)
  rw [show cnt (bizB 96 wkH) 739935 739942 = 4 by decide +kernel] at this
  exact this
theorem wb_check1 (w : World) : Calls Try.prog 26 #[calV 127 (.slice none 0 0)] w fun e w' => e = .returned (.int .i64 3) ∧ Kpt w w' :=
  (calCheck_w 127 none 0 0 (.inr (by decide)) w).mono fun e w' h => ⟨h.1, h.2.kpt⟩
theorem wb_check2 (w : World) (g : Nat) (hc : ∀ j, j < 2 → w.cell? ⟨g, 0 + j, none⟩ = some (.int .i64 ([2, 1].getD j 0))) : Calls Try.prog 26 #[calV 0 (.slice (some ⟨g, 0, none⟩) 2 2)] w fun e w' => e = .returned (.int .i64 4) ∧ Kpt w w' := by
  have := calCheck_some 0 g 0 2 [2, 1] (by decide) (by decide) (by decide) w hc (by intro j hj; rcases (show j = 0 ∨ j = 1 by simp at hj; omega) with rfl | rfl <;> simp)
  exact this.mono fun e w' h => ⟨h.1, h.2.kpt⟩

end Go.Proofs.Ytmoanndonfmihaa
