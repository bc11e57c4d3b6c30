/-
  Merged: LawMT.
-/
import Derived.Test.YtgccipmeiceonaaMm47
import Derived.Test.YtgccipmeiceonaaMm46
import Derived.Test.YtgccipmeiceonaaMm45
import Derived.Deep.CutRange
-- LawMT
namespace Go.Proofs.Ytgccipmeiceonaa
open Go.RowKit
set_option linter.unusedVariables false

set_option maxRecDepth 100000 in
set_option maxHeartbeats 16000000 in
theorem mtells_plain (v u fv : Value) (party rate has need least atI : Int) (l : List (Int × Int × Int)) (ps : List Int) (fs : List (List Int)) (w : World) (hl : ReadsP w v l) (hr : Reads w u ps) (hF : ReadsF w fv fs) :
    Calls Try.prog 5 #[v, u, fv, .int .i64 party, .int .i64 rate, .int .i64 has, .int .i64 need, .int .i64 least, .int .i64 atI] w fun e w' => e = .returned (.bool true) ∧ Kpt w w' := by
  have A1 := Lib.hid (fun w' (k : Kpt w w') => value_run v u l ps w' (hl.kpt k) (hr.kpt k))
  have A2 := Lib.hid (fun w' (k : Kpt w w') => need_any fv u fs ps party rate w' (hF.kpt k) (hr.kpt k))
  have A3 := Lib.hid (fun w' => call_run has need least w')
  have A4 := Lib.hid (fun w' (k : Kpt w w') => (spare_any v u l ps need atI w' (hl.kpt k) (hr.kpt k)).run)
  have B1 := Lib.hid (fun w' (k : Kpt w w') => rmv_run v u l ps w' (hl.kpt k) (hr.kpt k))
  have B2 := Lib.hid (fun w' (k : Kpt w w') => rnd_run fv u fs ps party rate w' (hF.kpt k) (hr.kpt k))
  have B4 := Lib.hid (fun (h : spE l ps need atI = 0) w' (k : Kpt w w') => rms_run v u l ps need atI w' (hl.kpt k) (hr.kpt k) h)
  have C1 := Lib.hid (fun w' (k : Kpt w w') => rsk_run v l w' (hl.kpt k))
  have C2 := Lib.hid (fun w' (k : Kpt w w') => rprs_run u ps w' (hr.kpt k))
  have C3 := Lib.hid (fun w' (k : Kpt w w') => stkE_run v l w' (hl.kpt k))
  obtain ⟨av, nv, cv, rfl, hnv⟩ : ∃ a n c, v = .slice a n c ∧ n = l.length := by obtain ⟨a, c, rfl, -⟩ := hl; exact ⟨_, _, _, rfl, rfl⟩
  obtain ⟨au, nu, cu, rfl⟩ : ∃ a n c, u = .slice a n c := by obtain ⟨a, c, rfl, -⟩ := hr; exact ⟨_, _, _, rfl⟩
  obtain ⟨af, nf, cf, rfl⟩ : ∃ a n c, fv = .slice a n c := by obtain ⟨a, c, rfl, -⟩ := hF; exact ⟨_, _, _, rfl⟩
  have hm : nv ≤ maxLen := by obtain ⟨a, c, e, -, h, -⟩ := hl; rw [hnv]; exact h
  unfold maxLen at hm
  obtain ⟨sv, hsv⟩ : ∃ x, x = spV l ps need atI := ⟨_, rfl⟩
  obtain ⟨se, hse⟩ : ∃ x, x = spE l ps need atI := ⟨_, rfl⟩
  obtain ⟨vv, hvv⟩ : ∃ x, x = valV l ps := ⟨_, rfl⟩
  obtain ⟨ve, hve⟩ : ∃ x, x = valE l ps := ⟨_, rfl⟩
  obtain ⟨cc, hcc⟩ : ∃ x, x = callV has need least := ⟨_, rfl⟩
  obtain ⟨ce, hce⟩ : ∃ x, x = callE has need least := ⟨_, rfl⟩
  obtain ⟨k1, hk1⟩ : ∃ x, x = stkE l := ⟨_, rfl⟩
  obtain ⟨k2, hk2⟩ : ∃ x, x = prsE ps := ⟨_, rfl⟩
  -- how a call comes about
  have HB1 : Hid ((has < 0 ∨ 1152921504606846976 < has ∨ need < 0 ∨ 1152921504606846976 < need ∨ least < 0 ∨ 1152921504606846976 < least) → ce = 3 ∧ cc = 0) := fun h => by
    have hn : ¬ (sumB has = true ∧ sumB need = true ∧ sumB least = true) := fun ⟨a, b, c⟩ => by have := sum_t a; have := sum_t b; have := sum_t c; omega
    exact ⟨hce.trans (if_neg hn), hcc.trans (if_neg hn)⟩
  have HB0 : Hid (¬ (has < 0 ∨ 1152921504606846976 < has ∨ need < 0 ∨ 1152921504606846976 < need ∨ least < 0 ∨ 1152921504606846976 < least) → ce = 0 ∧ cc = if need - has < least then 0 else need - has) := fun h => by
    have hn : sumB has = true ∧ sumB need = true ∧ sumB least = true := ⟨decide_eq_true (by omega), decide_eq_true (by omega), decide_eq_true (by omega)⟩
    exact ⟨hce.trans (if_pos hn), hcc.trans (if_pos hn)⟩
  -- how an error of Spare comes about
  have HS : Hid ((k1 ≠ 0 ∧ se = k1 ∧ sv = 0) ∨ (k1 = 0 ∧ k2 ≠ 0 ∧ se = k2 ∧ sv = 0) ∨ (k1 = 0 ∧ k2 = 0 ∧ (need < 0 ∨ 1152921504606846976 < need) ∧ se = 3 ∧ sv = 0) ∨ (k1 = 0 ∧ k2 = 0 ∧ (0 ≤ need ∧ need ≤ 1152921504606846976) ∧ (atI < 0 ∨ (nv : Int) ≤ atI) ∧ se = 5 ∧ sv = 0) ∨
      (k1 = 0 ∧ k2 = 0 ∧ (0 ≤ need ∧ need ≤ 1152921504606846976) ∧ (0 ≤ atI ∧ atI < (nv : Int)) ∧ ve ≠ 0 ∧ se = ve ∧ sv = 0) ∨ (k1 = 0 ∧ k2 = 0 ∧ (0 ≤ need ∧ need ≤ 1152921504606846976) ∧ (0 ≤ atI ∧ atI < (nv : Int)) ∧ ve = 0 ∧ vv < need ∧ se = 4 ∧ sv = 0) ∨
      (k1 = 0 ∧ k2 = 0 ∧ (0 ≤ need ∧ need ≤ 1152921504606846976) ∧ (0 ≤ atI ∧ atI < (nv : Int)) ∧ ve = 0 ∧ ¬ vv < need ∧ se = 0)) := by
    have z : ∀ X : Int, X ≠ 0 → spE l ps need atI = X → se = X ∧ sv = 0 := fun X h h2 => ⟨hse.trans h2, hsv.trans (if_neg (by rw [h2]; exact h))⟩
    by_cases h1 : k1 = 0
    · by_cases h2 : k2 = 0
      · have hmc : mcE l ps = 0 := by unfold mcE; rw [orE_r (hk1.symm.trans h1)]; exact hk2.symm.trans h2
        have e0 : spE l ps need atI = (if sumB need = true then (if 0 ≤ atI ∧ atI < l.length then orE (amE (wsum ps l)) (if wsum ps l < need then 4 else 0) else 5) else 3) := orE_r hmc
        have ev : ve = amE (wsum ps l) := hve.trans (orE_r hmc)
        have evv : vv = amV (wsum ps l) := hvv.trans (if_pos hmc)
        by_cases h3 : 0 ≤ need ∧ need ≤ 1152921504606846976
        · rw [if_pos (show sumB need = true from decide_eq_true h3)] at e0
          by_cases h4 : 0 ≤ atI ∧ atI < (nv : Int)
          · rw [if_pos (by omega)] at e0
            by_cases h5 : ve = 0
            · rw [orE_r (ev.symm.trans h5)] at e0
              have e6 : vv = wsum ps l := by
                cases hA : amtB (wsum ps l) with
                | true => rw [evv, (am_ok hA).1]
                | false => rw [ev, (am_no hA).2] at h5; cases h5
              rw [← e6] at e0
              by_cases h6 : vv < need
              · rw [if_pos h6] at e0
                exact .inr (.inr (.inr (.inr (.inr (.inl ⟨h1, h2, h3, h4, h5, h6, z 4 (by decide) e0⟩)))))
              · rw [if_neg h6] at e0
                exact .inr (.inr (.inr (.inr (.inr (.inr ⟨h1, h2, h3, h4, h5, h6, hse.trans e0⟩)))))
            · rw [← ev, orE_l _ h5] at e0
              exact .inr (.inr (.inr (.inr (.inl ⟨h1, h2, h3, h4, h5, z _ h5 e0⟩))))
          · rw [if_neg (by omega)] at e0
            exact .inr (.inr (.inr (.inl ⟨h1, h2, h3, by omega, z 5 (by decide) e0⟩)))
        · rw [if_neg (show ¬ sumB need = true from fun h => h3 (sum_t h))] at e0
          exact .inr (.inr (.inl ⟨h1, h2, by omega, z 3 (by decide) e0⟩))
      · have e0 : spE l ps need atI = k2 := by
          have hmc : mcE l ps = k2 := by unfold mcE; rw [orE_r (hk1.symm.trans h1)]; exact hk2.symm
          unfold spE; rw [hmc, orE_l _ h2]
        exact .inr (.inl ⟨h1, h2, z _ h2 e0⟩)
    · have e0 : spE l ps need atI = k1 := by
        have hmc : mcE l ps = k1 := by unfold mcE; rw [orE_l _ (by rw [← hk1]; exact h1)]; exact hk1.symm
        unfold spE; rw [hmc, orE_l _ h1]
      exact .inl ⟨h1, z _ h1 e0⟩
  rw [← hvv, ← hve] at A1 B1
  rw [← hcc, ← hce] at A3
  rw [← hsv, ← hse] at A4
  rw [← hse, ← hsv] at B4
  rw [← hk1] at C1 C3
  rw [← hk2] at C2
  clear hl hr hF hsv hse hvv hve hcc hce hk1 hk2 hnv
  generalize ndV fs ps party rate = nn at *
  generalize ndE fs ps party rate = ne at *
  obtain ⟨bad, hbad⟩ : ∃ b : Bool, b = decide (has < 0 ∨ 1152921504606846976 < has ∨ need < 0 ∨ 1152921504606846976 < need ∨ least < 0 ∨ 1152921504606846976 < least) := ⟨_, rfl⟩
  have HBAD := Lib.hid hbad
  clear hbad
  have K0 : Hid (Kpt w w) := Kpt.refl w
  go_enter Try.func5, Try.ntmps5
  go_upto_region 8 with (first
    | (go_at_call 25; (with_reducible refine (A1.out _ K0.out).mono ?_); rintro e w1 ⟨rfl, kk⟩; have K1 := Lib.hid (ktr K0.out kk); clear kk)
    | (go_at_call 26; (with_reducible refine (A2.out _ K1.out).mono ?_); rintro e w2 ⟨rfl, kk⟩; have K2 := Lib.hid (ktr K1.out kk); clear kk)
    | (go_at_call 27; (with_reducible refine (A3.out _).mono ?_); rintro e w3 ⟨rfl, kk⟩; have K3 := Lib.hid (ktr K2.out kk); clear kk)
    | (go_at_call 28; (with_reducible refine (A4.out _ K3.out).mono ?_); rintro e w4 ⟨rfl, kk⟩; have K4 := Lib.hid (ktr K3.out kk); clear kk)
    | (go_at_call 29; (with_reducible refine (B1.out _ K4.out).mono ?_); rintro e w5 ⟨rfl, kk⟩; have K5 := Lib.hid (ktr K4.out kk); clear kk)
    | (go_at_call 30; (with_reducible refine (B2.out _ K5.out).mono ?_); rintro e w6 ⟨rfl, kk⟩; have K6 := Lib.hid (ktr K5.out kk); clear kk)
    | fail)
  go_cut [99] from 78 to 98 (fun v0 wx => v0 = .bool bad ∧ wx = w6)
  case first =>
    by_cases c0 : has < 0
    · have y0 : decide (has < 0) = true := decide_eq_true c0
      go_wp2
      go_meet
      case rel => exact ⟨by rw [HBAD.out, decide_eq_true (by omega)], rfl⟩
    · have y0 : decide (has < 0) = false := decide_eq_false c0
      by_cases c1 : 1152921504606846976 < has
      · have y1 : decide (1152921504606846976 < has) = true := decide_eq_true c1
        go_wp2
        go_meet
        case rel => exact ⟨by rw [HBAD.out, decide_eq_true (by omega)], rfl⟩
      · have y1 : decide (1152921504606846976 < has) = false := decide_eq_false c1
        by_cases c2 : need < 0
        · have y2 : decide (need < 0) = true := decide_eq_true c2
          go_wp2
          go_meet
          case rel => exact ⟨by rw [HBAD.out, decide_eq_true (by omega)], rfl⟩
        · have y2 : decide (need < 0) = false := decide_eq_false c2
          by_cases c3 : 1152921504606846976 < need
          · have y3 : decide (1152921504606846976 < need) = true := decide_eq_true c3
            go_wp2
            go_meet
            case rel => exact ⟨by rw [HBAD.out, decide_eq_true (by omega)], rfl⟩
          · have y3 : decide (1152921504606846976 < need) = false := decide_eq_false c3
            by_cases c4 : least < 0
            · have y4 : decide (least < 0) = true := decide_eq_true c4
              go_wp2
              go_meet
              case rel => exact ⟨by rw [HBAD.out, decide_eq_true (by omega)], rfl⟩
            · have y4 : decide (least < 0) = false := decide_eq_false c4
              by_cases c5 : 1152921504606846976 < least
              · have y5 : decide (1152921504606846976 < least) = true := decide_eq_true c5
                go_wp2
                go_meet
                case rel => exact ⟨by rw [HBAD.out, decide_eq_true (by omega)], rfl⟩
              · have y5 : decide (1152921504606846976 < least) = false := decide_eq_false c5
                go_wp2
                go_meet
                case rel => exact ⟨by rw [HBAD.out, decide_eq_false (by omega)], rfl⟩
  case rest =>
  obtain ⟨rfl, hw⟩ := hcut
  subst hw
  go_upto_if 99 with fail
  go_cut [31, 32] from 100 to 112 (fun v31 v32 wx => v31 = .int .i64 ce ∧ v32 = .int .i64 cc ∧ wx = wc)
  case first =>
    by_cases c0 : has < 0 ∨ 1152921504606846976 < has ∨ need < 0 ∨ 1152921504606846976 < need ∨ least < 0 ∨ 1152921504606846976 < least
    · obtain rfl : bad = true := by rw [HBAD.out]; exact decide_eq_true c0
      have HH := Lib.hid (HB1.out c0)
      clear c0
      go_wp2
      go_meet
      case rel => exact ⟨by rw [HH.out.1], by rw [HH.out.2], rfl⟩
    · obtain rfl : bad = false := by rw [HBAD.out]; exact decide_eq_false c0
      have HH := Lib.hid (HB0.out c0)
      have m1 : IntKind.i64.wrap (need - has) = need - has := IntWalk.i64_in _ (by omega)
      by_cases c1 : has < need
      · have y1 : decide (has < need) = true := decide_eq_true c1
        by_cases c2 : need - has < least
        · have y2 : decide (least ≤ need - has) = false := decide_eq_false (by omega)
          have HV : Hid (cc = 0) := by unfold Hid; rw [HH.out.2, if_pos c2]
          clear c0 c1 c2
          go_wp2
          go_meet
          case rel => exact ⟨by rw [HH.out.1], by rw [HV.out], rfl⟩
        · have y2 : decide (least ≤ need - has) = true := decide_eq_true (by omega)
          have HV : Hid (cc = need - has) := by unfold Hid; rw [HH.out.2, if_neg c2]
          clear c0 c1 c2
          go_wp2
          go_meet
          case rel => exact ⟨by rw [HH.out.1], by rw [HV.out], rfl⟩
      · have y1 : decide (has < need) = false := decide_eq_false c1
        have HV : Hid (cc = 0) := by unfold Hid; rw [HH.out.2]; split <;> omega
        clear c0 c1
        go_wp2
        go_meet
        case rel => exact ⟨by rw [HH.out.1], by rw [HV.out], rfl⟩
  case rest =>
  obtain ⟨rfl, rfl, hw⟩ := hcut
  subst hw
  clear HB1 HB0 HBAD A1 A2 A3 A4 B1 B2
  rcases HS.out with ⟨h1, e1, e2⟩ | ⟨h1, h2, e1, e2⟩ | ⟨h1, h2, h3, e1, e2⟩ | ⟨h1, h2, h3, h4, e1, e2⟩ | ⟨h1, h2, h3, h4, h5, e1, e2⟩ | ⟨h1, h2, h3, h4, h5, h6, e1, e2⟩ | ⟨h1, h2, h3, h4, h5, h6, e1⟩
  · subst e1; subst e2
    have q0 : (se == 0) = false := beq_eq_false_iff_ne.2 h1
    clear h1 HS B4
    go_wp2_with (first
      | (go_at_call 34; (with_reducible refine (C3.out _ X1.out).mono ?_); rintro e x2 ⟨rfl, kk⟩; have X2 := Lib.hid (ktr X1.out kk); clear kk)
      | (go_at_call 31; (with_reducible refine (C1.out _ X2.out).mono ?_); rintro e x3 ⟨rfl, kk⟩; have X3 := Lib.hid (ktr X2.out kk); clear kk)
      | (go_at_call 33; (with_reducible refine (marginBegun _).mono ?_); rintro e x1 ⟨rfl, kk⟩; have X1 := Lib.hid (ktr K7.out kk); clear kk)
      | (go_at_call 31; (with_reducible refine (C1.out _ K6.out).mono ?_); rintro e w7 ⟨rfl, kk⟩; have K7 := Lib.hid (ktr K6.out kk); clear kk)
      | fail)
    go_ret
    exact ⟨rfl, X3.out⟩
  · subst e1; subst e2; subst h1
    have q0 : (se == 0) = false := beq_eq_false_iff_ne.2 h2
    clear h2 HS B4
    go_wp2_with (first
      | (go_at_call 34; (with_reducible refine (C3.out _ X1.out).mono ?_); rintro e x2 ⟨rfl, kk⟩; have X2 := Lib.hid (ktr X1.out kk); clear kk)
      | (go_at_call 31; (with_reducible refine (C1.out _ X2.out).mono ?_); rintro e x3 ⟨rfl, kk⟩; have X3 := Lib.hid (ktr X2.out kk); clear kk)
      | (go_at_call 33; (with_reducible refine (marginBegun _).mono ?_); rintro e x1 ⟨rfl, kk⟩; have X1 := Lib.hid (ktr K7.out kk); clear kk)
      | (go_at_call 31; (with_reducible refine (C1.out _ K6.out).mono ?_); rintro e w7 ⟨rfl, kk⟩; have K7 := Lib.hid (ktr K6.out kk); clear kk)
      | (go_at_call 13; (with_reducible refine (C2.out _ K7.out).mono ?_); rintro e w8 ⟨rfl, rfl⟩)
      | fail)
    go_ret
    exact ⟨rfl, X3.out⟩
  · subst e1; subst e2; subst h1; subst h2
    clear HS B4
    by_cases c1 : need < 0
    · have y1 : decide (need < 0) = true := decide_eq_true c1
      clear h3 c1
      go_wp2_with (first
        | (go_at_call 34; (with_reducible refine (C3.out _ X1.out).mono ?_); rintro e x2 ⟨rfl, kk⟩; have X2 := Lib.hid (ktr X1.out kk); clear kk)
        | (go_at_call 31; (with_reducible refine (C1.out _ X2.out).mono ?_); rintro e x3 ⟨rfl, kk⟩; have X3 := Lib.hid (ktr X2.out kk); clear kk)
        | (go_at_call 33; (with_reducible refine (marginBegun _).mono ?_); rintro e x1 ⟨rfl, kk⟩; have X1 := Lib.hid (ktr K7.out kk); clear kk)
        | (go_at_call 31; (with_reducible refine (C1.out _ K6.out).mono ?_); rintro e w7 ⟨rfl, kk⟩; have K7 := Lib.hid (ktr K6.out kk); clear kk)
        | (go_at_call 13; (with_reducible refine (C2.out _ K7.out).mono ?_); rintro e w8 ⟨rfl, rfl⟩)
        | fail)
      go_ret
      exact ⟨rfl, X3.out⟩
    · have y1 : decide (need < 0) = false := decide_eq_false c1
      have y2 : decide (1152921504606846976 < need) = true := decide_eq_true (by omega)
      clear h3 c1
      go_wp2_with (first
        | (go_at_call 34; (with_reducible refine (C3.out _ X1.out).mono ?_); rintro e x2 ⟨rfl, kk⟩; have X2 := Lib.hid (ktr X1.out kk); clear kk)
        | (go_at_call 31; (with_reducible refine (C1.out _ X2.out).mono ?_); rintro e x3 ⟨rfl, kk⟩; have X3 := Lib.hid (ktr X2.out kk); clear kk)
        | (go_at_call 33; (with_reducible refine (marginBegun _).mono ?_); rintro e x1 ⟨rfl, kk⟩; have X1 := Lib.hid (ktr K7.out kk); clear kk)
        | (go_at_call 31; (with_reducible refine (C1.out _ K6.out).mono ?_); rintro e w7 ⟨rfl, kk⟩; have K7 := Lib.hid (ktr K6.out kk); clear kk)
        | (go_at_call 13; (with_reducible refine (C2.out _ K7.out).mono ?_); rintro e w8 ⟨rfl, rfl⟩)
        | fail)
      go_ret
      exact ⟨rfl, X3.out⟩
  · subst e1; subst e2; subst h1; subst h2
    clear HS B4
    have y1 : decide (need < 0) = false := decide_eq_false (by omega)
    have y2 : decide (1152921504606846976 < need) = false := decide_eq_false (by omega)
    by_cases c1 : atI < 0
    · have y3 : decide (atI < 0) = true := decide_eq_true c1
      clear h3 h4 c1
      go_wp2_with (first
        | (go_at_call 34; (with_reducible refine (C3.out _ X1.out).mono ?_); rintro e x2 ⟨rfl, kk⟩; have X2 := Lib.hid (ktr X1.out kk); clear kk)
        | (go_at_call 31; (with_reducible refine (C1.out _ X2.out).mono ?_); rintro e x3 ⟨rfl, kk⟩; have X3 := Lib.hid (ktr X2.out kk); clear kk)
        | (go_at_call 33; (with_reducible refine (marginBegun _).mono ?_); rintro e x1 ⟨rfl, kk⟩; have X1 := Lib.hid (ktr K7.out kk); clear kk)
        | (go_at_call 31; (with_reducible refine (C1.out _ K6.out).mono ?_); rintro e w7 ⟨rfl, kk⟩; have K7 := Lib.hid (ktr K6.out kk); clear kk)
        | (go_at_call 13; (with_reducible refine (C2.out _ K7.out).mono ?_); rintro e w8 ⟨rfl, rfl⟩)
        | fail)
      go_ret
      exact ⟨rfl, X3.out⟩
    · have y3 : decide (atI < 0) = false := decide_eq_false c1
      have y4 : decide ((nv : Int) ≤ atI) = true := decide_eq_true (by omega)
      clear h3 h4 c1
      go_wp2_with (first
        | (go_at_call 34; (with_reducible refine (C3.out _ X1.out).mono ?_); rintro e x2 ⟨rfl, kk⟩; have X2 := Lib.hid (ktr X1.out kk); clear kk)
        | (go_at_call 31; (with_reducible refine (C1.out _ X2.out).mono ?_); rintro e x3 ⟨rfl, kk⟩; have X3 := Lib.hid (ktr X2.out kk); clear kk)
        | (go_at_call 33; (with_reducible refine (marginBegun _).mono ?_); rintro e x1 ⟨rfl, kk⟩; have X1 := Lib.hid (ktr K7.out kk); clear kk)
        | (go_at_call 31; (with_reducible refine (C1.out _ K6.out).mono ?_); rintro e w7 ⟨rfl, kk⟩; have K7 := Lib.hid (ktr K6.out kk); clear kk)
        | (go_at_call 13; (with_reducible refine (C2.out _ K7.out).mono ?_); rintro e w8 ⟨rfl, rfl⟩)
        | fail)
      go_ret
      exact ⟨rfl, X3.out⟩
  · subst e1; subst e2; subst h1; subst h2
    clear HS B4
    have y1 : decide (need < 0) = false := decide_eq_false (by omega)
    have y2 : decide (1152921504606846976 < need) = false := decide_eq_false (by omega)
    have y3 : decide (atI < 0) = false := decide_eq_false (by omega)
    have y4 : decide ((nv : Int) ≤ atI) = false := decide_eq_false (by omega)
    have q0 : (se == 0) = false := beq_eq_false_iff_ne.2 h5
    clear h3 h4 h5
    go_wp2_with (first
      | (go_at_call 34; (with_reducible refine (C3.out _ X1.out).mono ?_); rintro e x2 ⟨rfl, kk⟩; have X2 := Lib.hid (ktr X1.out kk); clear kk)
      | (go_at_call 31; (with_reducible refine (C1.out _ X2.out).mono ?_); rintro e x3 ⟨rfl, kk⟩; have X3 := Lib.hid (ktr X2.out kk); clear kk)
      | (go_at_call 33; (with_reducible refine (marginBegun _).mono ?_); rintro e x1 ⟨rfl, kk⟩; have X1 := Lib.hid (ktr K7.out kk); clear kk)
      | (go_at_call 31; (with_reducible refine (C1.out _ K6.out).mono ?_); rintro e w7 ⟨rfl, kk⟩; have K7 := Lib.hid (ktr K6.out kk); clear kk)
      | (go_at_call 13; (with_reducible refine (C2.out _ K7.out).mono ?_); rintro e w8 ⟨rfl, rfl⟩)
      | fail)
    go_ret
    exact ⟨rfl, X3.out⟩
  · subst e1; subst e2; subst h1; subst h2; subst h5
    clear HS B4
    have y1 : decide (need < 0) = false := decide_eq_false (by omega)
    have y2 : decide (1152921504606846976 < need) = false := decide_eq_false (by omega)
    have y3 : decide (atI < 0) = false := decide_eq_false (by omega)
    have y4 : decide ((nv : Int) ≤ atI) = false := decide_eq_false (by omega)
    have y5 : decide (vv < need) = true := decide_eq_true h6
    clear h3 h4 h6
    go_wp2_with (first
      | (go_at_call 34; (with_reducible refine (C3.out _ X1.out).mono ?_); rintro e x2 ⟨rfl, kk⟩; have X2 := Lib.hid (ktr X1.out kk); clear kk)
      | (go_at_call 31; (with_reducible refine (C1.out _ X2.out).mono ?_); rintro e x3 ⟨rfl, kk⟩; have X3 := Lib.hid (ktr X2.out kk); clear kk)
      | (go_at_call 33; (with_reducible refine (marginBegun _).mono ?_); rintro e x1 ⟨rfl, kk⟩; have X1 := Lib.hid (ktr K7.out kk); clear kk)
      | (go_at_call 31; (with_reducible refine (C1.out _ K6.out).mono ?_); rintro e w7 ⟨rfl, kk⟩; have K7 := Lib.hid (ktr K6.out kk); clear kk)
      | (go_at_call 13; (with_reducible refine (C2.out _ K7.out).mono ?_); rintro e w8 ⟨rfl, rfl⟩)
      | fail)
    go_ret
    exact ⟨rfl, X3.out⟩
  · replace B4 := Lib.hid (B4.out e1)
    subst e1; subst h1; subst h2; subst h5
    clear HS
    have y1 : decide (need < 0) = false := decide_eq_false (by omega)
    have y2 : decide (1152921504606846976 < need) = false := decide_eq_false (by omega)
    have y3 : decide (atI < 0) = false := decide_eq_false (by omega)
    have y4 : decide ((nv : Int) ≤ atI) = false := decide_eq_false (by omega)
    have y5 : decide (vv < need) = false := decide_eq_false (by omega)
    obtain ⟨qs, hqs⟩ : ∃ b : Bool, (sv == 0) = b := ⟨_, rfl⟩
    clear h3 h4 h6
    go_wp2_with (first
      | (go_at_call 34; (with_reducible refine (C3.out _ X1.out).mono ?_); rintro e x2 ⟨rfl, kk⟩; have X2 := Lib.hid (ktr X1.out kk); clear kk)
      | (go_at_call 31; (with_reducible refine (C1.out _ X2.out).mono ?_); rintro e x3 ⟨rfl, kk⟩; have X3 := Lib.hid (ktr X2.out kk); clear kk)
      | (go_at_call 33; (with_reducible refine (marginBegun _).mono ?_); rintro e x1 ⟨rfl, kk⟩; have X1 := Lib.hid (ktr K9.out kk); clear kk)
      | (go_at_call 31; (with_reducible refine (C1.out _ K6.out).mono ?_); rintro e w7 ⟨rfl, kk⟩; have K7 := Lib.hid (ktr K6.out kk); clear kk)
      | (go_at_call 13; (with_reducible refine (C2.out _ K7.out).mono ?_); rintro e w8 ⟨rfl, rfl⟩)
      | (go_at_call 32; (with_reducible refine (B4.out _ K7.out).mono ?_); rintro e w9 ⟨rfl, kk⟩; have K9 := Lib.hid (ktr K7.out kk); clear kk)
      | fail)
    go_ret
    exact ⟨rfl, X3.out⟩

end Go.Proofs.Ytgccipmeiceonaa
