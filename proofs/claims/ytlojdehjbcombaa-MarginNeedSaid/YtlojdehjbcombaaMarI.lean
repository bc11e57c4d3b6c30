/-
  What Need of package margin answers.
-/
import Derived.Test.YtlojdehjbcombaaMarH
namespace Go.Proofs.Ytlojdehjbcombaa
open Go.RowKit
set_option linter.unusedVariables false

set_option maxHeartbeats 2000000 in
theorem need_any (v u : Value) (fs : List (List Int)) (ps : List Int) (party rate : Int) (w : World) (hl : ReadsF w v fs) (hr : Reads w u ps) :
    Calls Try.prog 35 #[v, u, .int .i64 party, .int .i64 rate] w fun e w' => e = .returned (.tuple #[.int .i64 (ndV fs ps party rate), .int .i64 (ndE fs ps party rate)]) ∧ Kpt w w' := by
  have CC := Lib.hid (checks_run v fs w hl)
  have PC := Lib.hid (fun w' (k : Kpt w w') => prices_run u ps w' (hr.kpt k))
  by_cases h1 : checksE fs = 0
  · rw [h1] at CC
    obtain ⟨h60, hs⟩ := checks_0 h1
    by_cases h2 : prsE ps = 0
    · rw [h2] at PC
      have hps := prsOk h2
      have OW := Lib.hid (fun w' (k : Kpt w w') => owed_run v u fs ps party w' (hl.kpt k) (hr.kpt k) hps hs h60)
      have eE : ndE fs ps party rate = (if rteB party rate = true then amE (owS ps party fs) else 3) := (orE_r h1).trans (orE_r h2)
      by_cases h3 : rteB party rate = true
      · rw [if_pos h3] at eE
        have hb := of_decide_eq_true h3
        have y1 : decide (party < 0) = false := decide_eq_false (by omega)
        have y2 : decide (30 < party) = false := decide_eq_false (by omega)
        have y3 : decide (rate < 0) = false := decide_eq_false (by omega)
        have y4 : decide (10000 < rate) = false := decide_eq_false (by omega)
        by_cases h4 : amtB (owS ps party fs) = true
        · rw [(am_ok h4).2] at eE
          have eV : ndV fs ps party rate = owS ps party fs * rate / 10000 := by unfold ndV; rw [if_pos eE]
          rw [eE, eV]
          rw [(am_ok h4).1, (am_ok h4).2] at OW
          have a := amt_t h4
          have ob := owS_bd hps (party := party) hs
          have nb := nd_part (S := owS ps party fs) (r := rate) ⟨ob.1, a.2⟩ (by omega)
          have PT := Lib.hid (fun w => part_ok (owS ps party fs) rate 10000 h4 (rng_mk (by omega) (by omega) (by decide) (by decide)) (amt_mk (by omega) (by omega)) w)
          clear h1 h2 h3 h4 eE eV a ob nb hs hps hb hl hr
          generalize owS ps party fs * rate / 10000 = q at *
          generalize owS ps party fs * rate % 10000 = o at *
          generalize owS ps party fs = S at *
          go_enter Try.func35, Try.ntmps35
          go_wp2_with (first
            | (go_at_call 33; (with_reducible refine CC.out.mono ?_); rintro e w1 ⟨rfl, k1⟩; have K1 := Lib.hid k1; clear k1)
            | (go_at_call 73; (with_reducible refine (PC.out _ K1.out).mono ?_); rintro e w2 ⟨rfl, rfl⟩)
            | (go_at_call 74; (with_reducible refine (OW.out _ K1.out).mono ?_); rintro e w3 ⟨rfl, k2⟩; have K2 := Lib.hid (ktr K1.out k2); clear k2)
            | (go_at_call 75; (with_reducible refine (PT.out _).mono ?_); rintro e w4 ⟨rfl, g2⟩; have K3 := Lib.hid (ktr K2.out g2.kpt); clear g2))
          go_ret2
          exact ⟨rfl, K3.out⟩
        · have h4' : amtB (owS ps party fs) = false := by simpa using h4
          rw [(am_no h4').2] at eE
          have eV : ndV fs ps party rate = 0 := by unfold ndV; rw [if_neg (by rw [eE]; decide)]
          rw [eE, eV]
          rw [(am_no h4').1, (am_no h4').2] at OW
          clear h1 h2 h3 h4 h4' eE eV hs hps hb hl hr
          go_enter Try.func35, Try.ntmps35
          go_wp2_with (first
            | (go_at_call 33; (with_reducible refine CC.out.mono ?_); rintro e w1 ⟨rfl, k1⟩; have K1 := Lib.hid k1; clear k1)
            | (go_at_call 73; (with_reducible refine (PC.out _ K1.out).mono ?_); rintro e w2 ⟨rfl, rfl⟩)
            | (go_at_call 74; (with_reducible refine (OW.out _ K1.out).mono ?_); rintro e w3 ⟨rfl, k2⟩; have K2 := Lib.hid (ktr K1.out k2); clear k2))
          go_ret2
          exact ⟨rfl, K2.out⟩
      · rw [if_neg h3] at eE
        have eV : ndV fs ps party rate = 0 := by unfold ndV; rw [if_neg (by rw [eE]; decide)]
        rw [eE, eV]
        have hb : ¬ (0 ≤ party ∧ party ≤ 30 ∧ 0 ≤ rate ∧ rate ≤ 10000) := of_decide_eq_false (by simpa [rteB] using h3)
        clear h1 h2 h3 eE eV hs hps hl hr OW
        by_cases g1 : party < 0
        · have y1 : decide (party < 0) = true := decide_eq_true g1
          clear hb
          go_enter Try.func35, Try.ntmps35
          go_wp2_with (first
            | (go_at_call 33; (with_reducible refine CC.out.mono ?_); rintro e w1 ⟨rfl, k1⟩; have K1 := Lib.hid k1; clear k1)
            | (go_at_call 73; (with_reducible refine (PC.out _ K1.out).mono ?_); rintro e w2 ⟨rfl, rfl⟩))
          go_ret2
          exact ⟨rfl, K1.out⟩
        have y1 : decide (party < 0) = false := decide_eq_false g1
        by_cases g2 : 30 < party
        · have y2 : decide (30 < party) = true := decide_eq_true g2
          clear hb
          go_enter Try.func35, Try.ntmps35
          go_wp2_with (first
            | (go_at_call 33; (with_reducible refine CC.out.mono ?_); rintro e w1 ⟨rfl, k1⟩; have K1 := Lib.hid k1; clear k1)
            | (go_at_call 73; (with_reducible refine (PC.out _ K1.out).mono ?_); rintro e w2 ⟨rfl, rfl⟩))
          go_ret2
          exact ⟨rfl, K1.out⟩
        have y2 : decide (30 < party) = false := decide_eq_false g2
        by_cases g3 : rate < 0
        · have y3 : decide (rate < 0) = true := decide_eq_true g3
          clear hb
          go_enter Try.func35, Try.ntmps35
          go_wp2_with (first
            | (go_at_call 33; (with_reducible refine CC.out.mono ?_); rintro e w1 ⟨rfl, k1⟩; have K1 := Lib.hid k1; clear k1)
            | (go_at_call 73; (with_reducible refine (PC.out _ K1.out).mono ?_); rintro e w2 ⟨rfl, rfl⟩))
          go_ret2
          exact ⟨rfl, K1.out⟩
        have y3 : decide (rate < 0) = false := decide_eq_false g3
        have g4 : 10000 < rate := by omega
        have y4 : decide (10000 < rate) = true := decide_eq_true g4
        clear hb
        go_enter Try.func35, Try.ntmps35
        go_wp2_with (first
          | (go_at_call 33; (with_reducible refine CC.out.mono ?_); rintro e w1 ⟨rfl, k1⟩; have K1 := Lib.hid k1; clear k1)
          | (go_at_call 73; (with_reducible refine (PC.out _ K1.out).mono ?_); rintro e w2 ⟨rfl, rfl⟩))
        go_ret2
        exact ⟨rfl, K1.out⟩
    · have eE : ndE fs ps party rate = prsE ps := (orE_r h1).trans (orE_l _ h2)
      have eV : ndV fs ps party rate = 0 := by unfold ndV; rw [if_neg (by rw [eE]; exact h2)]
      rw [eE, eV]
      have z : (prsE ps != 0) = true := bne_iff_ne.2 h2
      clear h1 h2 hs eE eV hl hr
      generalize prsE ps = E at *
      go_enter Try.func35, Try.ntmps35
      go_wp2_with (first
        | (go_at_call 33; (with_reducible refine CC.out.mono ?_); rintro e w1 ⟨rfl, k1⟩; have K1 := Lib.hid k1; clear k1)
        | (go_at_call 73; (with_reducible refine (PC.out _ K1.out).mono ?_); rintro e w2 ⟨rfl, rfl⟩))
      go_ret2
      exact ⟨rfl, K1.out⟩
  · have eE : ndE fs ps party rate = checksE fs := orE_l _ h1
    have eV : ndV fs ps party rate = 0 := by unfold ndV; rw [if_neg (by rw [eE]; exact h1)]
    rw [eE, eV]
    have z : (checksE fs != 0) = true := bne_iff_ne.2 h1
    clear h1 eE eV hl hr PC
    generalize checksE fs = E at *
    go_enter Try.func35, Try.ntmps35
    go_wp2_with (first
      | (go_at_call 33; (with_reducible refine CC.out.mono ?_); rintro e w1 ⟨rfl, k1⟩; have K1 := Lib.hid k1; clear k1))
    go_ret2
    exact ⟨rfl, K1.out⟩

end Go.Proofs.Ytlojdehjbcombaa
