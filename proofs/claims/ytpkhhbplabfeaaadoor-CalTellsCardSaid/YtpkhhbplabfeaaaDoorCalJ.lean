/-
  What must be of business days in any case.
-/
import Derived.Test.YtpkhhbplabfeaaaDoorCalI
namespace Go.Proofs.YtpkhhbplabfeaaaDoor
open Go.RowKit
set_option linter.unusedVariables false

theorem up_at {W : Int} {hs : List Int} {n k : Int} {m : Nat} (h0 : -1 ≤ n) (h1 : n < k) (h2 : k ≤ 3652058) (hm : 1 ≤ m) (hb : bizB W hs k = true) (hc : cnt (bizB W hs) n k = m) : upR W hs (n + 1) m = k ∧ upE W hs (n + 1) m = 0 := by
  rcases up_cases W hs h0 (by omega) hm with ⟨e1, e2, e3, e4, e5⟩ | ⟨e1, e2, e3⟩
  · exact ⟨cnt_inj e2 h1 e4 hb (e5.trans hc.symm), e1⟩
  · have := cnt_mono (bizB W hs) (Int.le_of_lt h1) h2; omega
theorem dn_at {W : Int} {hs : List Int} {n k : Int} {m : Nat} (h0 : 0 ≤ k) (h1 : k ≤ n) (h2 : n ≤ 3652058) (hm : 1 ≤ m) (hb : bizB W hs k = true) (hc : cnt (bizB W hs) (k - 1) n = m) : dnR W hs n m = k ∧ dnE W hs n m = 0 := by
  rcases dn_cases W hs (show -1 ≤ n by omega) h2 hm with ⟨e1, e2, e3, e4, e5⟩ | ⟨e1, e2, e3⟩
  · exact ⟨cnt_inj_dn e3 h1 e4 hb (e5.trans hc.symm), e1⟩
  · have := cnt_add (bizB W hs) (show -1 ≤ k - 1 by omega) (show k - 1 ≤ n by omega); omega
theorem next_at {W : Int} {hs : List Int} {n k : Int} (h0 : 0 ≤ n) (h1 : n ≤ k) (h2 : k ≤ 3652058) (hb : bizB W hs k = true) (hc : cnt (bizB W hs) (n - 1) k = 1) : upR W hs n 1 = k ∧ upE W hs n 1 = 0 := by
  have := up_at (W := W) (hs := hs) (n := n - 1) (k := k) (m := 1) (by omega) (by omega) h2 (by omega) hb hc
  rw [show n - 1 + 1 = n by omega] at this
  exact this

/-- Fit, where a date is known -/
def FitIs (W : Int) (hs : List Int) (n : Int) (w : World) (e : Ending) (w' : World) : Prop :=
  (∃ k, e = .returned (.tuple #[.int .i64 k, .int .i64 0]) ∧ Kpt w w' ∧ upR W hs n 1 = k ∧ upE W hs n 1 = 0 ∧ (∃ y m d D, vldB y m d = true ∧ num y m d = n ∧ vldB y m D = true ∧ num y m D = k)) ∨
  (e = .returned (.tuple #[.int .i64 (dnR W hs (n - 1) 1), .int .i64 (dnE W hs (n - 1) 1)]) ∧ Kpt w w' ∧
    ((∃ k y m d Y M D, upR W hs n 1 = k ∧ upE W hs n 1 = 0 ∧ vldB y m d = true ∧ num y m d = n ∧ vldB Y M D = true ∧ num Y M D = k ∧ ¬ (y = Y ∧ m = M)) ∨ (upE W hs n 1 = 8 ∧ upR W hs n 1 = 0 ∧ cnt (bizB W hs) (n - 1) 3652058 = 0)))
theorem fit_ok (W n : Int) (v : Value) (hs : List Int) (w : World) (ht : Tab w) (hr : Reads w v hs) (hf : Fits hs) (hE : daysE W hs [n] = 0) :
    Calls Tryd.prog 8 #[calV W v, .int .i64 n] w (FitIs W hs n w) := by
  obtain ⟨hE0, n0, n1⟩ := daysE_1 hE
  obtain ⟨y, m, d, hv, hN⟩ := num_onto n n0 n1
  have uc := up_cases W hs (n := n - 1) (m := 1) (by omega) (by omega) (by omega)
  rw [show n - 1 + 1 = n by omega] at uc
  rcases uc with ⟨e1, e2, e3, e4, e5⟩ | ⟨e1, e2, e3⟩
  · obtain ⟨Y, M, D, hV, hM⟩ := num_onto (upR W hs n 1) (by omega) e3
    by_cases hs' : y = Y ∧ m = M
    · obtain ⟨rfl, rfl⟩ := hs'
      refine (fit_same W n v hs y m d D _ hv hN hV hM w ht hr hf hE rfl e1).mono ?_
      rintro e w' ⟨rfl, g⟩
      exact .inl ⟨_, rfl, g, rfl, e1, y, m, d, D, hv, hN, hV, hM⟩
    · refine (fit_other W n v hs y m d Y M D _ hv hN hV hM hs' w ht hr hf hE rfl e1).mono ?_
      rintro e w' ⟨rfl, g⟩
      exact .inr ⟨rfl, g, .inl ⟨_, y, m, d, Y, M, D, rfl, e1, hv, hN, hV, hM, hs'⟩⟩
  · refine (fit_none W n v hs w ht hr hf hE e1).mono ?_
    rintro e w' ⟨rfl, g⟩
    exact .inr ⟨rfl, g, .inr ⟨e1, e2, by omega⟩⟩

/-- the week of the laws -/
def wkH : List Int := [739936]
def WeekIs (w : World) (e : Ending) (w' : World) : Prop := ∃ v, e = .returned (calV 96 v) ∧ Reads w' v wkH ∧ Kpt w w'
theorem week_any (w : World) : Calls Tryd.prog 27 #[] w (WeekIs w) := by
  go_enter Tryd.func27, Tryd.ntmps27
  go_wp2
  refine bodyPost_ret (v := calV 96 (.slice (some ⟨w.heap.size + 1, 0, none⟩) 1 1)) (by simp [results, Tryd.results27, go_sem]) rfl ⟨_, rfl, ?_, ?_⟩
  · refine reads_mk (zs := wkH) rfl (by unfold maxLen; omega) fun j hj => ?_
    obtain rfl : j = 0 := by simpa [wkH] using hj
    simp [go_sem, wkH]
  · exact ((Kpt.refl _).alloc _).alloc _

theorem wk_fits : Fits wkH := fun j hj => by
  obtain rfl : j = 0 := by simpa [wkH] using hj
  simp [wkH]
theorem wb_is (v : Value) (w : World) (hr : Reads w v wkH) : Calls Tryd.prog 4 #[calV 96 v, .int .i64 739936] w fun e w' => e = .returned (.tuple #[.bool false, .int .i64 0]) ∧ Kpt w w' := by
  have := is_ok 96 739936 v wkH w hr wk_fits (by decide)
  rw [show bizB 96 wkH 739936 = false by decide +kernel] at this
  exact this.mono fun e w' h => ⟨h.1, h.2.kpt⟩
theorem wb_next (v : Value) (w : World) (hr : Reads w v wkH) : Calls Tryd.prog 5 #[calV 96 v, .int .i64 739936] w fun e w' => e = .returned (.tuple #[.int .i64 739937, .int .i64 0]) ∧ Kpt w w' := by
  have := next_ok 96 739936 v wkH w hr wk_fits (by decide)
  obtain ⟨a, b⟩ := next_at (W := 96) (hs := wkH) (n := 739936) (k := 739937) (by decide) (by decide) (by decide) (by decide +kernel) (by decide +kernel)
  rw [a, b] at this
  exact this
theorem wb_step1 (v : Value) (w : World) (hr : Reads w v wkH) : Calls Tryd.prog 6 #[calV 96 v, .int .i64 739935, .int .i64 4] w fun e w' => e = .returned (.tuple #[.int .i64 739942, .int .i64 0]) ∧ Kpt w w' := by
  have := step_up 96 739935 4 v wkH (by decide) (by decide) w hr wk_fits (by decide)
  obtain ⟨a, b⟩ := up_at (W := 96) (hs := wkH) (n := 739935) (k := 739942) (m := (4 : Int).toNat) (by decide) (by decide) (by decide) (by decide) (by decide +kernel) (by decide +kernel)
  rw [a, b] at this
  exact this
theorem wb_step2 (v : Value) (w : World) (hr : Reads w v wkH) : Calls Tryd.prog 6 #[calV 96 v, .int .i64 739937, .int .i64 (-2)] w fun e w' => e = .returned (.tuple #[.int .i64 739932, .int .i64 0]) ∧ Kpt w w' := by
  have := step_dn 96 739937 (-2) v wkH (by decide) (by decide) w hr wk_fits (by decide)
  obtain ⟨a, b⟩ := dn_at (W := 96) (hs := wkH) (n := 739937 - 1) (k := 739932) (m := (- -2 : Int).toNat) (by decide) (by decide) (by decide) (by decide) (by decide +kernel) (by decide +kernel)
  rw [a, b] at this
  exact this
theorem wb_count (v : Value) (w : World) (hr : Reads w v wkH) : Calls Tryd.prog 7 #[calV 96 v, .int .i64 739935, .int .i64 739942] w fun e w' => e = .returned (.tuple #[.int .i64 4, .int .i64 0]) ∧ Kpt w w' := by
  have := count_ok 96 739935 739942 v wkH w hr wk_fits (by decide) (by decide)
  rw [show cnt (bizB 96 wkH) 739935 739942 = 4 by decide +kernel] at this
  exact this
theorem wb_fit (v : Value) (w : World) (ht : Tab w) (hr : Reads w v wkH) : Calls Tryd.prog 8 #[calV 96 v, .int .i64 739949] w fun e w' => e = .returned (.tuple #[.int .i64 739949, .int .i64 0]) ∧ Kpt w w' := by
  obtain ⟨a, b⟩ := next_at (W := 96) (hs := wkH) (n := 739949) (k := 739949) (by decide) (by decide) (by decide) (by decide +kernel) (by decide +kernel)
  exact fit_same 96 739949 v wkH 2026 11 30 30 739949 (by decide) (by decide) (by decide) (by decide) w ht hr wk_fits (by decide) a b
theorem wb_check1 (w : World) : Calls Tryd.prog 15 #[calV 127 (.slice none 0 0)] w fun e w' => e = .returned (.int .i64 3) ∧ Kpt w w' :=
  (calCheck_w 127 none 0 0 (.inr (by decide)) w).mono fun e w' h => ⟨h.1, h.2.kpt⟩
theorem wb_check2 (w : World) (g : Nat) (hc : ∀ j, j < 2 → w.cell? ⟨g, 0 + j, none⟩ = some (.int .i64 ([2, 1].getD j 0))) : Calls Tryd.prog 15 #[calV 0 (.slice (some ⟨g, 0, none⟩) 2 2)] w fun e w' => e = .returned (.int .i64 4) ∧ Kpt w w' := by
  have := calCheck_some 0 g 0 2 [2, 1] (by decide) (by decide) (by decide) w hc (by intro j hj; rcases (show j = 0 ∨ j = 1 by simp at hj; omega) with rfl | rfl <;> simp)
  exact this.mono fun e w' h => ⟨h.1, h.2.kpt⟩

set_option maxRecDepth 100000 in
set_option maxHeartbeats 2000000 in
theorem calBegun (w : World) (ht : Tab w) : Calls Tryd.prog 14 #[] w fun e w' => e = .returned (.bool true) ∧ Kpt w w' := by
  have HT := Lib.hid ht
  have G := Lib.hid (Kpt.refl w)
  clear ht
  go_enter Tryd.func14, Tryd.ntmps14
  go_wp2_with (first
    | (go_at_call 27; (with_reducible refine (week_any _).mono ?_); rintro e wk ⟨v, rfl, hR, hK⟩; have HR := Lib.hid hR; have GK := Lib.hid (ktr G.out hK); clear hR hK G)
    | (go_at_call 4; (with_reducible refine (wb_is _ _ HR.out).mono ?_); rintro e w1 ⟨rfl, g1⟩; have G := Lib.hid (ktr GK.out g1); clear g1 GK HR)
    | (go_at_call 5; (with_reducible refine (wb_next _ _ HR.out).mono ?_); rintro e w1 ⟨rfl, g1⟩; have G := Lib.hid (ktr GK.out g1); clear g1 GK HR)
    | (go_at_call 6; (with_reducible refine (wb_step1 _ _ HR.out).mono ?_); rintro e w1 ⟨rfl, g1⟩; have G := Lib.hid (ktr GK.out g1); clear g1 GK HR)
    | (go_at_call 6; (with_reducible refine (wb_step2 _ _ HR.out).mono ?_); rintro e w1 ⟨rfl, g1⟩; have G := Lib.hid (ktr GK.out g1); clear g1 GK HR)
    | (go_at_call 7; (with_reducible refine (wb_count _ _ HR.out).mono ?_); rintro e w1 ⟨rfl, g1⟩; have G := Lib.hid (ktr GK.out g1); clear g1 GK HR)
    | (go_at_call 8; (with_reducible refine (wb_fit _ _ (HT.out.kpt GK.out) HR.out).mono ?_); rintro e w1 ⟨rfl, g1⟩; have G := Lib.hid (ktr GK.out g1); clear g1 GK HR)
    | (go_at_call 15; (with_reducible refine (wb_check1 _).mono ?_); rintro e w2 ⟨rfl, g2⟩; have G2 := Lib.hid (ktr G.out g2); clear g2)
    | (go_at_call 15; (with_reducible refine (wb_check2 _ _ (by intro j hj; rcases (show j = 0 ∨ j = 1 by omega) with rfl | rfl <;> simp [go_sem])).mono ?_); rintro e w3 ⟨rfl, g3⟩; have G3 := Lib.hid (ktr (G2.out.alloc _) g3); clear g3))
  go_ret
  exact ⟨rfl, G3.out⟩

end Go.Proofs.YtpkhhbplabfeaaaDoor
