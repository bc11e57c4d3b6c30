/-
  Merged: CycM, CycA.
-/
import Derived.Test.YthaahebggboliaaGreatMp2
import Derived.Test.YthaahebggboliaaGreatMb1
import Derived.Test.YthaahebggboliaaGreatMb2
-- CycM
namespace Go.Proofs.YthaahebggboliaaGreat
open Go.RowKit
set_option linter.unusedVariables false

/-- the error of an extra part -/
def xtrE (X : Int) : Int := if X < 0 ∨ 10000 < X then 3 else 0
/-- the error of rules -/
def rulE (W : Int) (hs : List Int) (ts : List (List Int)) (X : Int) : Int := orE (calE W hs) (orE (clsE ts) (xtrE X))
/-- the error of a day -/
def todE (T : Int) : Int := if 0 ≤ T ∧ T ≤ 3652058 then 0 else 3
/-- the error of a world -/
def wldE (T : Int) (fs : List (List Int)) (b : List (Int × Int × Int)) : Int := orE (todE T) (orE (checksE fs) (linE b))
theorem rul_0 {W : Int} {hs : List Int} {ts : List (List Int)} {X : Int} (h : rulE W hs ts X = 0) : calE W hs = 0 ∧ clsE ts = 0 ∧ 0 ≤ X ∧ X ≤ 10000 := by
  obtain ⟨h1, h2⟩ := orE_0 h
  obtain ⟨h3, h4⟩ := orE_0 h2
  refine ⟨h1, h3, ?_⟩
  unfold xtrE at h4
  split at h4
  · cases h4
  · omega
theorem wld_0 {T : Int} {fs : List (List Int)} {b : List (Int × Int × Int)} (h : wldE T fs b = 0) : (0 ≤ T ∧ T ≤ 3652058) ∧ checksE fs = 0 ∧ linE b = 0 := by
  obtain ⟨h1, h2⟩ := orE_0 h
  obtain ⟨h3, h4⟩ := orE_0 h2
  refine ⟨?_, h3, h4⟩
  unfold todE at h1
  split at h1
  · assumption
  · cases h1

end Go.Proofs.YthaahebggboliaaGreat

-- CycA
namespace Go.Proofs.YthaahebggboliaaGreat
open Go.RowKit
set_option linter.unusedVariables false

theorem ywk_any (q : Int) (w : World) : Calls Tryz.prog 55 #[.int .i64 q] w fun e w' => (∃ r : Int, e = .returned (.tuple #[.int .i64 r, .int .i64 (todE q)])) ∧ w = w' := by
  unfold todE
  by_cases h : 0 ≤ q ∧ q ≤ 3652058
  · rw [if_pos h]
    refine (wk_ok q h.1 h.2 w).mono ?_
    rintro e w' ⟨rfl, rfl⟩
    exact ⟨⟨_, rfl⟩, rfl⟩
  · rw [if_neg h]
    refine (wk_no q (by omega) w).mono ?_
    rintro e w' ⟨rfl, rfl⟩
    exact ⟨⟨_, rfl⟩, rfl⟩
set_option maxHeartbeats 2000000 in
theorem wcheck_run (T : Int) (fv bv : Value) (fs : List (List Int)) (b : List (Int × Int × Int)) (w : World) (hF : ReadsF w fv fs) (hb : ReadsP w bv b) :
    Calls Tryz.prog 16 #[.agg #[.int .i64 T, fv, bv]] w fun e w' => e = .returned (.int .i64 (wldE T fs b)) ∧ Kpt w w' := by
  have WK := Lib.hid (fun w' => ywk_any T w')
  have FC := Lib.hid (fun w' (k : Kpt w w') => checks_run fv fs w' (hF.kpt k))
  have BL := Lib.hid (fun w' (k : Kpt w w') => lines_any bv b w' (hb.kpt k))
  have K0 : Hid (Kpt w (w.alloc (.cells #[.int .i64 T, fv, bv] 31))) := (Kpt.refl w).alloc _
  have B0 : Hid (Blk (w.alloc (.cells #[.int .i64 T, fv, bv] 31)) w.heap.size #[.int .i64 T, fv, bv] 31) := Blk.made _ _ _
  obtain ⟨a, cap, rfl, -⟩ := hF
  obtain ⟨a2, cap2, rfl, -⟩ := hb
  unfold wldE
  by_cases h1 : todE T = 0
  · rw [orE, if_pos h1]
    rw [h1] at WK
    by_cases h2 : checksE fs = 0
    · rw [orE, if_pos h2]
      rw [h2] at FC
      clear h1 h2
      go_enter Tryz.func16, Tryz.ntmps16
      go_wp2_with (first
        | (go_at_call 55; (with_reducible refine (WK.out _).mono ?_); rintro x w1 ⟨⟨r, rfl⟩, rfl⟩)
        | (go_at_call 56; (with_reducible refine (FC.out _ K0.out).mono ?_); rintro x w2 ⟨rfl, kk⟩; have K2 := Lib.hid (ktr K0.out kk); have c2 : World.cell? w2 ⟨w.heap.size, 2, none⟩ = some (.slice a2 b.length cap2) := (B0.out.kpt kk).cell 2; clear kk)
        | (go_at_call 57; (with_reducible refine (BL.out _ K2.out).mono ?_); rintro x w3 ⟨rfl, kk⟩; have K3 := Lib.hid (ktr K2.out kk.kpt); clear kk))
      go_ret
      exact ⟨rfl, K3.out⟩
    · rw [orE, if_neg h2]
      have z0 : (checksE fs != 0) = true := bne_iff_ne.2 h2
      clear h1 h2
      generalize checksE fs = E at *
      go_enter Tryz.func16, Tryz.ntmps16
      go_wp2_with (first
        | (go_at_call 55; (with_reducible refine (WK.out _).mono ?_); rintro x w1 ⟨⟨r, rfl⟩, rfl⟩)
        | (go_at_call 56; (with_reducible refine (FC.out _ K0.out).mono ?_); rintro x w2 ⟨rfl, kk⟩; have K2 := Lib.hid (ktr K0.out kk); clear kk))
      go_ret
      exact ⟨rfl, K2.out⟩
  · rw [orE, if_neg h1]
    have z0 : (todE T != 0) = true := bne_iff_ne.2 h1
    clear h1
    generalize todE T = E at *
    go_enter Tryz.func16, Tryz.ntmps16
    go_wp2_with (go_at_call 55; (with_reducible refine (WK.out _).mono ?_); rintro x w1 ⟨⟨r, rfl⟩, rfl⟩)
    go_ret
    exact ⟨rfl, K0.out⟩

set_option maxRecDepth 100000 in
set_option maxHeartbeats 4000000 in
theorem rules_run (W X : Int) (hv tv : Value) (hs : List Int) (ts : List (List Int)) (w : World) (hr : Reads w hv hs) (hf : Fits hs) (ht : ReadsT w tv ts) :
    Calls Tryz.prog 14 #[.agg #[.int .i64 W, hv, tv, .int .i64 X]] w fun e w' => e = .returned (.int .i64 (rulE W hs ts X)) ∧ Kpt w w' := by
  have CC := Lib.hid (fun w' (k : Kpt w w') => calCheck_any W hv hs w' (hr.kpt k) hf)
  unfold calV at CC
  have K0 : Hid (Kpt w (w.alloc (.cells #[.int .i64 W, hv, tv, .int .i64 X] 27))) := (Kpt.refl w).alloc _
  have B0 : Hid (Blk (w.alloc (.cells #[.int .i64 W, hv, tv, .int .i64 X] 27)) w.heap.size #[.int .i64 W, hv, tv, .int .i64 X] 27) := Blk.made _ _ _
  obtain ⟨ah, caph, rfl, -⟩ := hr
  obtain ⟨a, cap, rfl, hm, hc⟩ := ht
  unfold maxLen at hm
  have HC := Lib.hid hc
  have RE : Hid (rulE W hs ts X = orE (calE W hs) (orE (clsE ts) (xtrE X))) := rfl
  obtain ⟨E, hE⟩ : ∃ E, rulE W hs ts X = E := ⟨_, rfl⟩
  rw [hE] at RE ⊢
  clear hE
  by_cases h1 : calE W hs = 0
  · rw [h1] at CC
    have R1 : Hid (E = orE (clsE ts) (xtrE X)) := by unfold Hid; rw [RE.out, orE, if_pos h1]
    obtain ⟨n, hn⟩ : ∃ n, n = ts.length := ⟨_, rfl⟩
    by_cases h6 : ts.length = 6
    · have HX : Hid (E = orE (tmsE (ts.drop 0)) (xtrE X)) := by unfold Hid; rw [R1.out]; unfold clsE; rw [if_pos h6]; rfl
      have DR := Lib.hid (fun k (h : k < ts.length) => drop_at h)
      have DA : Hid (ts.drop n = []) := by unfold Hid; rw [hn, List.drop_length]
      rw [← hn] at HC hm h6 DR K0 B0 ⊢
      have y1 : ((n : Int) != 6) = false := by rw [h6]; rfl
      clear hc hn h6 h1
      go_enter Tryz.func14, Tryz.ntmps14
      go_wp2_with (go_at_call 50; (with_reducible refine (CC.out _ K0.out).mono ?_); rintro x w1 ⟨rfl, kk⟩; have K1 := Lib.hid (ktr K0.out kk.kpt); have B1 := Lib.hid (B0.out.kpt kk.kpt); have c2 : World.cell? w1 ⟨w.heap.size, 2, none⟩ = some (.slice a n cap) := B1.out.cell 2; clear kk)
      clear c2
      go_loopw [20] (fun ii wr => ∃ k : Nat, k ≤ n ∧ ii = .int .i64 (k : Int) ∧ Hid (E = orE (tmsE (ts.drop k)) (xtrE X)) ∧ Hid (Kpt w1 wr)) (fun ii _ => n - (intOf ii).toNat)
      case atStart => exact ⟨0, Nat.zero_le _, rfl, HX.out, Kpt.refl _⟩
      case round =>
        obtain ⟨k, hk, rfl, HE, HK⟩ := hrel
        by_cases hlt : k < n
        · obtain ⟨g, off, rfl, hfl⟩ := HC.out k hlt
          have he := HE.out
          rw [DR.out k hlt] at he
          unfold tmsE tmEL at he
          have c0 : wr.cell? ⟨g, off + k * 4, none⟩ = _ := HK.out.cell (K1.out.cell (hfl 0 (by omega)))
          have c1 : wr.cell? ⟨g, off + k * 4 + 1, none⟩ = _ := HK.out.cell (K1.out.cell (hfl 1 (by omega)))
          have c2 : wr.cell? ⟨g, off + k * 4 + 2, none⟩ = _ := HK.out.cell (K1.out.cell (hfl 2 (by omega)))
          have c3 : wr.cell? ⟨g, off + k * 4 + 3, none⟩ = _ := HK.out.cell (K1.out.cell (hfl 3 (by omega)))
          clear hfl HE
          generalize (ts.getD k []).getD 0 0 = te at *
          generalize (ts.getD k []).getD 1 0 = tb at *
          generalize (ts.getD k []).getD 2 0 = td at *
          generalize (ts.getD k []).getD 3 0 = tr at *
          have TR := Lib.hid (fun w' => term_run te tb td tr w')
          by_cases hE : termE te tb td tr = 0
          · rw [if_pos hE] at he
            rw [hE] at TR
            have HE2 := Lib.hid he
            clear he hE
            go_wp2_with (go_at_call 51; (with_reducible refine (TR.out _).mono ?_); rintro x w2 ⟨rfl, k2⟩; have K2 : Hid (Kpt w1 w2) := ktr (HK.out.alloc _) k2; clear k2)
            go_roundw
            case rel => exact ⟨k + 1, by omega, by go_num, HE2.out, K2.out⟩
            case measure => simp [intOf]; omega
          · rw [if_neg hE, orE, if_neg hE] at he
            have z0 : (termE te tb td tr != 0) = true := bne_iff_ne.2 hE
            have HE2 := Lib.hid he
            clear he hE
            generalize termE te tb td tr = E2 at *
            go_wp2_with (go_at_call 51; (with_reducible refine (TR.out _).mono ?_); rintro x w2 ⟨rfl, k2⟩; have K2 : Hid (Kpt w1 w2) := ktr (HK.out.alloc _) k2; clear k2)
            go_ret
            exact ⟨ret_int HE2.out.symm, ktr K1.out K2.out⟩
        · obtain rfl : k = n := by omega
          rw [DA.out] at HE
          have hx : Hid (E = xtrE X) := HE.out
          have B2 := B1.out.kpt HK.out
          have c3 : wr.cell? ⟨w.heap.size, 3, none⟩ = some (.int .i64 X) := B2.cell 3
          clear B2 HE
          by_cases x1 : X < 0
          · have y2 : decide (X < 0) = true := decide_eq_true x1
            have e3 : Hid (E = 3) := by unfold Hid; rw [hx.out]; unfold xtrE; rw [if_pos (.inl x1)]
            clear x1
            go_wp2
            go_ret
            exact ⟨ret_int e3.out.symm, ktr K1.out HK.out⟩
          · have y2 : decide (X < 0) = false := decide_eq_false x1
            by_cases x2 : 10000 < X
            · have y3 : decide (10000 < X) = true := decide_eq_true x2
              have e3 : Hid (E = 3) := by unfold Hid; rw [hx.out]; unfold xtrE; rw [if_pos (.inr x2)]
              clear x1 x2
              go_wp2
              go_ret
              exact ⟨ret_int e3.out.symm, ktr K1.out HK.out⟩
            · have y3 : decide (10000 < X) = false := decide_eq_false x2
              have e3 : Hid (E = 0) := by unfold Hid; rw [hx.out]; unfold xtrE; rw [if_neg (by omega)]
              clear x1 x2
              go_wp2
              go_ret
              exact ⟨ret_int e3.out.symm, ktr K1.out HK.out⟩
    · have HX : Hid (E = 1) := by unfold Hid; rw [R1.out]; unfold clsE; rw [if_neg h6]; rfl
      rw [← hn] at HC hm h6 K0 B0 ⊢
      have y1 : ((n : Int) != 6) = true := bne_iff_ne.2 (by omega)
      clear hc hn h1 h6
      go_enter Tryz.func14, Tryz.ntmps14
      go_wp2_with (go_at_call 50; (with_reducible refine (CC.out _ K0.out).mono ?_); rintro x w1 ⟨rfl, kk⟩; have K1 := Lib.hid (ktr K0.out kk.kpt); have B1 := Lib.hid (B0.out.kpt kk.kpt); have c2 : World.cell? w1 ⟨w.heap.size, 2, none⟩ = some (.slice a n cap) := B1.out.cell 2; clear kk)
      go_ret
      exact ⟨ret_int HX.out.symm, K1.out⟩
  · have HX : Hid (E = calE W hs) := by unfold Hid; rw [RE.out, orE, if_neg h1]
    have z0 : (calE W hs != 0) = true := bne_iff_ne.2 h1
    clear h1 hc
    generalize calE W hs = E2 at *
    go_enter Tryz.func14, Tryz.ntmps14
    go_wp2_with (go_at_call 50; (with_reducible refine (CC.out _ K0.out).mono ?_); rintro x w1 ⟨rfl, kk⟩; have K1 := Lib.hid (ktr K0.out kk.kpt); clear kk)
    go_ret
    exact ⟨ret_int HX.out.symm, K1.out⟩

end Go.Proofs.YthaahebggboliaaGreat
