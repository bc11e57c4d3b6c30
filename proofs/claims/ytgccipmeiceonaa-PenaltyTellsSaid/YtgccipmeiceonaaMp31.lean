/-
  Merged: RefPen.
-/
import Derived.Test.YtgccipmeiceonaaMp24
import Derived.Test.YtgccipmeiceonaaMp25
import Derived.Test.YtgccipmeiceonaaMp26
import Derived.Test.YtgccipmeiceonaaMp30
-- RefPen
namespace Go.Proofs.Ytgccipmeiceonaa
open Go.RowKit
set_option linter.unusedVariables false

set_option maxHeartbeats 2000000 in
theorem rat_run (v : Value) (ts : List (List Int)) (w : World) (hr : ReadsT w v ts) :
    Calls Try.prog 110 #[v] w fun e w' => e = .returned (.int .i64 (clsE ts)) ∧ Kpt w w' := by
  obtain ⟨a, cap, rfl, hm, hc⟩ := hr
  unfold maxLen at hm
  have HC := Lib.hid hc
  obtain ⟨n, hn⟩ : ∃ n, n = ts.length := ⟨_, rfl⟩
  by_cases h6 : ts.length = 6
  · have HX : Hid (clsE ts = tmsE (ts.drop 0)) := by unfold Hid clsE; rw [if_pos h6]; rfl
    have DR := Lib.hid (fun k (h : k < ts.length) => drop_at h)
    have DA : Hid (ts.drop n = []) := by unfold Hid; rw [hn, List.drop_length]
    rw [← hn] at HC hm h6 DR ⊢
    have y1 : ((n : Int) != 6) = false := by rw [h6]; rfl
    clear hc hn h6
    go_enter Try.func110, Try.ntmps110
    go_wp2
    go_loopw [3] (fun ii wr => ∃ k : Nat, k ≤ n ∧ ii = .int .i64 (k : Int) ∧ Hid (clsE ts = tmsE (ts.drop k)) ∧ Hid (Kpt w wr)) (fun ii _ => n - (intOf ii).toNat)
    case atStart => exact ⟨0, Nat.zero_le _, rfl, HX.out, Kpt.refl _⟩
    case round =>
      obtain ⟨k, hk, rfl, HE, HK⟩ := hrel
      by_cases hlt : k < n
      · obtain ⟨g, off, rfl, hfl⟩ := HC.out k hlt
        have he := HE.out
        rw [DR.out k hlt] at he
        unfold tmsE tmEL at he
        have c0 : wr.cell? ⟨g, off + k * 4, none⟩ = _ := HK.out.cell (hfl 0 (by omega))
        have c1 : wr.cell? ⟨g, off + k * 4 + 1, none⟩ = _ := HK.out.cell (hfl 1 (by omega))
        have c2 : wr.cell? ⟨g, off + k * 4 + 2, none⟩ = _ := HK.out.cell (hfl 2 (by omega))
        have c3 : wr.cell? ⟨g, off + k * 4 + 3, none⟩ = _ := HK.out.cell (hfl 3 (by omega))
        clear hfl HE
        generalize (ts.getD k []).getD 0 0 = te at *
        generalize (ts.getD k []).getD 1 0 = tb at *
        generalize (ts.getD k []).getD 2 0 = td at *
        generalize (ts.getD k []).getD 3 0 = tr at *
        have TR := Lib.hid (fun w' => rtc_run te tb td tr w')
        have hb := term_bd te tb td tr
        by_cases hE : termE te tb td tr = 0
        · rw [if_pos hE] at he
          rw [hE] at TR
          have HE2 := Lib.hid he
          clear he hE hb
          go_wp2_with (go_at_call 112; (with_reducible refine (TR.out _).mono ?_); rintro x w2 ⟨rfl, k2⟩; have K2 : Hid (Kpt w w2) := ktr HK.out k2; clear k2)
          go_roundw
          case rel => exact ⟨k + 1, by omega, by go_num, HE2.out, K2.out⟩
          case measure => simp [intOf]; omega
        · rw [if_neg hE] at he
          have h3 : termE te tb td tr = 3 := by omega
          rw [h3] at he TR
          have HE2 := Lib.hid he
          clear he hE hb h3
          go_wp2_with (go_at_call 112; (with_reducible refine (TR.out _).mono ?_); rintro x w2 ⟨rfl, k2⟩; have K2 : Hid (Kpt w w2) := ktr HK.out k2; clear k2)
          go_ret
          exact ⟨ret_int HE2.out.symm, K2.out⟩
      · obtain rfl : k = n := by omega
        rw [DA.out] at HE
        go_wp2
        go_ret
        exact ⟨ret_int HE.out.symm, HK.out⟩
  · have HX : Hid (clsE ts = 1) := by unfold Hid clsE; rw [if_neg h6]
    rw [← hn] at HC hm h6 ⊢
    have y1 : ((n : Int) != 6) = true := bne_iff_ne.2 (by omega)
    clear hc hn
    go_enter Try.func110, Try.ntmps110
    go_wp2
    go_ret
    exact ⟨ret_int HX.out.symm, Kpt.refl _⟩

theorem rdays_out {W : Int} {hs : List Int} {n : Int} (h : calE W hs = 0) (hn : ¬ (0 ≤ n ∧ n ≤ 3652058)) : daysE W hs [n] = 3 := by
  unfold daysE dysE
  rw [if_pos h, if_neg]
  simpa [dayB] using hn
set_option maxRecDepth 100000 in
set_option maxHeartbeats 4000000 in
theorem rde_run (W q : Int) (hv tv fv pv : Value) (hs : List Int) (ts fs : List (List Int)) (ps : List Int) (w : World) (hr : Reads w hv hs) (ht : ReadsT w tv ts) (hF : ReadsF w fv fs) (hp : Reads w pv ps) :
    Calls Try.prog 64 #[calV W hv, tv, fv, pv, .int .i64 q] w fun e w' => e = .returned (.int .i64 (preE W hs ts fs ps q)) ∧ Kpt w w' := by
  have CC := Lib.hid (fun w' (k : Kpt w w') => rcc_run W hv hs w' (hr.kpt k))
  have AT := Lib.hid (fun w' (k : Kpt w w') => rat_run tv ts w' (ht.kpt k))
  have FC := Lib.hid (fun w' (k : Kpt w w') => rfcs_run fv fs w' (hF.kpt k))
  have PC : Hid (∀ w' (k : Kpt w w'), Calls Try.prog 13 #[pv] w' fun e w2 => e = .returned (.int .i64 (prsE ps)) ∧ Kpt w' w2) := by
    intro w' k
    refine (rprs_run pv ps w' (hp.kpt k)).mono ?_
    rintro e w2 ⟨rfl, rfl⟩
    exact ⟨rfl, Kpt.refl _⟩
  have BZ := Lib.hid (fun (h : calE W hs = 0) w' (k : Kpt w w') => rbz_run W q hv hs w' (hr.kpt k) h)
  have K0 : Hid (Kpt w (w.alloc (.cells #[.int .i64 W, hv] 24))) := (Kpt.refl w).alloc _
  have B0 : Hid (Blk (w.alloc (.cells #[.int .i64 W, hv] 24)) w.heap.size #[.int .i64 W, hv] 24) := Blk.made _ _ _
  unfold calV at CC BZ ⊢
  obtain ⟨ah, caph, rfl, -⟩ := _root_.id hr
  obtain ⟨at', capt, rfl, -⟩ := _root_.id ht
  obtain ⟨af, capf, rfl, -⟩ := _root_.id hF
  obtain ⟨ap, capp, rfl, -⟩ := _root_.id hp
  clear hr ht hF hp
  have RE : preE W hs ts fs ps q = orE (calE W hs) (orE (clsE ts) (orE (checksE fs) (orE (prsE ps) (tdyE W hs q)))) := rfl
  rw [RE]
  clear RE
  by_cases h0 : calE W hs = 0
  · rw [orE, if_pos h0]
    have BZ1 := Lib.hid (BZ.out h0)
    have t0 : ∀ b, (dayB q && bizB W hs q) = b → 0 ≤ q → q ≤ 3652058 → tdyE W hs q = if b = true then 0 else 4 := fun b hb a0 a1 => by unfold tdyE isR; rw [days_mk1 h0 a0 a1, if_pos rfl, if_pos rfl, ← hb, show dayB q = true from decide_eq_true ⟨a0, a1⟩]; rfl
    have t1 : ¬ (0 ≤ q ∧ q ≤ 3652058) → tdyE W hs q = 3 := fun hq => by have := rdays_out h0 hq; unfold tdyE; rw [this, if_neg (by decide)]
    clear BZ
    rw [h0] at CC
    by_cases h1 : clsE ts = 0
    · rw [orE, if_pos h1]
      rw [h1] at AT
      by_cases h2 : checksE fs = 0
      · rw [orE, if_pos h2]
        rw [h2] at FC
        by_cases h3 : prsE ps = 0
        · rw [orE, if_pos h3]
          rw [h3] at PC
          by_cases hq : 0 ≤ q ∧ q ≤ 3652058
          · have BT := Lib.hid (fun w => rbt_any q 0 3652058 true (by unfold btw; exact decide_eq_true hq) w)
            have t2 := fun b hb => t0 b hb hq.1 hq.2
            clear t0 t1
            cases hb : (dayB q && bizB W hs q) with
            | true =>
              rw [t2 true hb, if_pos rfl]
              rw [hb] at BZ1
              clear t2 hb hq h0 h1 h2 h3
              go_enter Try.func64, Try.ntmps64
              go_wp2_with (first
                | (go_at_call 109; (with_reducible refine (CC.out _ K0.out).mono ?_); rintro z w1 ⟨rfl, kk⟩; have K1 : Hid (Kpt w w1) := ktr K0.out kk; have KQ : Hid (Kpt (w.alloc (.cells #[.int .i64 W, .slice ah hs.length caph] 24)) w1) := kk; clear kk)
                | (go_at_call 110; (with_reducible refine (AT.out _ K1.out).mono ?_); rintro z w2 ⟨rfl, kk⟩; have K2 : Hid (Kpt w w2) := ktr K1.out kk; have KQ : Hid (Kpt (w.alloc (.cells #[.int .i64 W, .slice ah hs.length caph] 24)) w2) := ktr KQ.out kk; clear kk)
                | (go_at_call 86; (with_reducible refine (FC.out _ K2.out).mono ?_); rintro z w3 ⟨rfl, kk⟩; have K3 : Hid (Kpt w w3) := ktr K2.out kk; have KQ : Hid (Kpt (w.alloc (.cells #[.int .i64 W, .slice ah hs.length caph] 24)) w3) := ktr KQ.out kk; clear kk)
                | (go_at_call 13; (with_reducible refine (PC.out _ K3.out).mono ?_); rintro z w4 ⟨rfl, kk⟩; have K4 : Hid (Kpt w w4) := ktr K3.out kk; have KQ : Hid (Kpt (w.alloc (.cells #[.int .i64 W, .slice ah hs.length caph] 24)) w4) := ktr KQ.out kk; have x0 : World.cell? w4 ⟨w.heap.size, 0, none⟩ = some (.int .i64 W) := (B0.out.kpt KQ.out).cell 0; have x1 : World.cell? w4 ⟨w.heap.size, 1, none⟩ = some (.slice ah hs.length caph) := (B0.out.kpt KQ.out).cell 1; clear kk)
                | (go_at_call 61; (with_reducible refine (BT.out _).mono ?_); rintro z w5 ⟨rfl, rfl⟩)
                | (go_at_call 111; (with_reducible refine (BZ1.out _ K4.out).mono ?_); rintro z w6 ⟨rfl, kk⟩; have K6 : Hid (Kpt w w6) := ktr K4.out kk; have KQ : Hid (Kpt (w.alloc (.cells #[.int .i64 W, .slice ah hs.length caph] 24)) w6) := ktr KQ.out kk; clear kk)
                | fail)
              go_ret
              exact ⟨rfl, K6.out⟩
            | false =>
              rw [t2 false hb, if_neg (by decide)]
              rw [hb] at BZ1
              clear t2 hb hq h0 h1 h2 h3
              go_enter Try.func64, Try.ntmps64
              go_wp2_with (first
                | (go_at_call 109; (with_reducible refine (CC.out _ K0.out).mono ?_); rintro z w1 ⟨rfl, kk⟩; have K1 : Hid (Kpt w w1) := ktr K0.out kk; have KQ : Hid (Kpt (w.alloc (.cells #[.int .i64 W, .slice ah hs.length caph] 24)) w1) := kk; clear kk)
                | (go_at_call 110; (with_reducible refine (AT.out _ K1.out).mono ?_); rintro z w2 ⟨rfl, kk⟩; have K2 : Hid (Kpt w w2) := ktr K1.out kk; have KQ : Hid (Kpt (w.alloc (.cells #[.int .i64 W, .slice ah hs.length caph] 24)) w2) := ktr KQ.out kk; clear kk)
                | (go_at_call 86; (with_reducible refine (FC.out _ K2.out).mono ?_); rintro z w3 ⟨rfl, kk⟩; have K3 : Hid (Kpt w w3) := ktr K2.out kk; have KQ : Hid (Kpt (w.alloc (.cells #[.int .i64 W, .slice ah hs.length caph] 24)) w3) := ktr KQ.out kk; clear kk)
                | (go_at_call 13; (with_reducible refine (PC.out _ K3.out).mono ?_); rintro z w4 ⟨rfl, kk⟩; have K4 : Hid (Kpt w w4) := ktr K3.out kk; have KQ : Hid (Kpt (w.alloc (.cells #[.int .i64 W, .slice ah hs.length caph] 24)) w4) := ktr KQ.out kk; have x0 : World.cell? w4 ⟨w.heap.size, 0, none⟩ = some (.int .i64 W) := (B0.out.kpt KQ.out).cell 0; have x1 : World.cell? w4 ⟨w.heap.size, 1, none⟩ = some (.slice ah hs.length caph) := (B0.out.kpt KQ.out).cell 1; clear kk)
                | (go_at_call 61; (with_reducible refine (BT.out _).mono ?_); rintro z w5 ⟨rfl, rfl⟩)
                | (go_at_call 111; (with_reducible refine (BZ1.out _ K4.out).mono ?_); rintro z w6 ⟨rfl, kk⟩; have K6 : Hid (Kpt w w6) := ktr K4.out kk; have KQ : Hid (Kpt (w.alloc (.cells #[.int .i64 W, .slice ah hs.length caph] 24)) w6) := ktr KQ.out kk; clear kk)
                | fail)
              go_ret
              exact ⟨rfl, K6.out⟩
          · have BT := Lib.hid (fun w => rbt_any q 0 3652058 false (by unfold btw; exact decide_eq_false hq) w)
            rw [t1 hq]
            clear t0 t1 hq h0 h1 h2 h3 BZ1
            go_enter Try.func64, Try.ntmps64
            go_wp2_with (first
              | (go_at_call 109; (with_reducible refine (CC.out _ K0.out).mono ?_); rintro z w1 ⟨rfl, kk⟩; have K1 : Hid (Kpt w w1) := ktr K0.out kk; have KQ : Hid (Kpt (w.alloc (.cells #[.int .i64 W, .slice ah hs.length caph] 24)) w1) := kk; clear kk)
              | (go_at_call 110; (with_reducible refine (AT.out _ K1.out).mono ?_); rintro z w2 ⟨rfl, kk⟩; have K2 : Hid (Kpt w w2) := ktr K1.out kk; have KQ : Hid (Kpt (w.alloc (.cells #[.int .i64 W, .slice ah hs.length caph] 24)) w2) := ktr KQ.out kk; clear kk)
              | (go_at_call 86; (with_reducible refine (FC.out _ K2.out).mono ?_); rintro z w3 ⟨rfl, kk⟩; have K3 : Hid (Kpt w w3) := ktr K2.out kk; have KQ : Hid (Kpt (w.alloc (.cells #[.int .i64 W, .slice ah hs.length caph] 24)) w3) := ktr KQ.out kk; clear kk)
              | (go_at_call 13; (with_reducible refine (PC.out _ K3.out).mono ?_); rintro z w4 ⟨rfl, kk⟩; have K4 : Hid (Kpt w w4) := ktr K3.out kk; have KQ : Hid (Kpt (w.alloc (.cells #[.int .i64 W, .slice ah hs.length caph] 24)) w4) := ktr KQ.out kk; have x0 : World.cell? w4 ⟨w.heap.size, 0, none⟩ = some (.int .i64 W) := (B0.out.kpt KQ.out).cell 0; have x1 : World.cell? w4 ⟨w.heap.size, 1, none⟩ = some (.slice ah hs.length caph) := (B0.out.kpt KQ.out).cell 1; clear kk)
              | (go_at_call 61; (with_reducible refine (BT.out _).mono ?_); rintro z w5 ⟨rfl, rfl⟩)
              | fail)
            go_ret
            exact ⟨rfl, K4.out⟩
        · rw [orE, if_neg h3]
          have q1 : (prsE ps == 0) = false := beq_eq_false_iff_ne.2 h3
          clear h0 h1 h2 h3 t0 t1 BZ1
          generalize prsE ps = E at *
          go_enter Try.func64, Try.ntmps64
          go_wp2_with (first
            | (go_at_call 109; (with_reducible refine (CC.out _ K0.out).mono ?_); rintro z w1 ⟨rfl, kk⟩; have K1 : Hid (Kpt w w1) := ktr K0.out kk; have KQ : Hid (Kpt (w.alloc (.cells #[.int .i64 W, .slice ah hs.length caph] 24)) w1) := kk; clear kk)
            | (go_at_call 110; (with_reducible refine (AT.out _ K1.out).mono ?_); rintro z w2 ⟨rfl, kk⟩; have K2 : Hid (Kpt w w2) := ktr K1.out kk; have KQ : Hid (Kpt (w.alloc (.cells #[.int .i64 W, .slice ah hs.length caph] 24)) w2) := ktr KQ.out kk; clear kk)
            | (go_at_call 86; (with_reducible refine (FC.out _ K2.out).mono ?_); rintro z w3 ⟨rfl, kk⟩; have K3 : Hid (Kpt w w3) := ktr K2.out kk; have KQ : Hid (Kpt (w.alloc (.cells #[.int .i64 W, .slice ah hs.length caph] 24)) w3) := ktr KQ.out kk; clear kk)
            | (go_at_call 13; (with_reducible refine (PC.out _ K3.out).mono ?_); rintro z w4 ⟨rfl, kk⟩; have K4 : Hid (Kpt w w4) := ktr K3.out kk; have KQ : Hid (Kpt (w.alloc (.cells #[.int .i64 W, .slice ah hs.length caph] 24)) w4) := ktr KQ.out kk; clear kk)
            | fail)
          go_ret
          exact ⟨rfl, K4.out⟩
      · rw [orE, if_neg h2]
        have q1 : (checksE fs == 0) = false := beq_eq_false_iff_ne.2 h2
        clear h0 h1 h2 t0 t1 BZ1
        generalize checksE fs = E at *
        go_enter Try.func64, Try.ntmps64
        go_wp2_with (first
          | (go_at_call 109; (with_reducible refine (CC.out _ K0.out).mono ?_); rintro z w1 ⟨rfl, kk⟩; have K1 : Hid (Kpt w w1) := ktr K0.out kk; have KQ : Hid (Kpt (w.alloc (.cells #[.int .i64 W, .slice ah hs.length caph] 24)) w1) := kk; clear kk)
          | (go_at_call 110; (with_reducible refine (AT.out _ K1.out).mono ?_); rintro z w2 ⟨rfl, kk⟩; have K2 : Hid (Kpt w w2) := ktr K1.out kk; have KQ : Hid (Kpt (w.alloc (.cells #[.int .i64 W, .slice ah hs.length caph] 24)) w2) := ktr KQ.out kk; clear kk)
          | (go_at_call 86; (with_reducible refine (FC.out _ K2.out).mono ?_); rintro z w3 ⟨rfl, kk⟩; have K3 : Hid (Kpt w w3) := ktr K2.out kk; have KQ : Hid (Kpt (w.alloc (.cells #[.int .i64 W, .slice ah hs.length caph] 24)) w3) := ktr KQ.out kk; clear kk)
          | fail)
        go_ret
        exact ⟨rfl, K3.out⟩
    · rw [orE, if_neg h1]
      have q1 : (clsE ts == 0) = false := beq_eq_false_iff_ne.2 h1
      clear h0 h1 t0 t1 BZ1
      generalize clsE ts = E at *
      go_enter Try.func64, Try.ntmps64
      go_wp2_with (first
        | (go_at_call 109; (with_reducible refine (CC.out _ K0.out).mono ?_); rintro z w1 ⟨rfl, kk⟩; have K1 : Hid (Kpt w w1) := ktr K0.out kk; have KQ : Hid (Kpt (w.alloc (.cells #[.int .i64 W, .slice ah hs.length caph] 24)) w1) := kk; clear kk)
        | (go_at_call 110; (with_reducible refine (AT.out _ K1.out).mono ?_); rintro z w2 ⟨rfl, kk⟩; have K2 : Hid (Kpt w w2) := ktr K1.out kk; have KQ : Hid (Kpt (w.alloc (.cells #[.int .i64 W, .slice ah hs.length caph] 24)) w2) := ktr KQ.out kk; clear kk)
        | fail)
      go_ret
      exact ⟨rfl, K2.out⟩
  · rw [orE, if_neg h0]
    have q1 : (calE W hs == 0) = false := beq_eq_false_iff_ne.2 h0
    clear h0 BZ
    generalize calE W hs = E at *
    go_enter Try.func64, Try.ntmps64
    go_wp2_with (first
      | (go_at_call 109; (with_reducible refine (CC.out _ K0.out).mono ?_); rintro z w1 ⟨rfl, kk⟩; have K1 : Hid (Kpt w w1) := ktr K0.out kk; have KQ : Hid (Kpt (w.alloc (.cells #[.int .i64 W, .slice ah hs.length caph] 24)) w1) := kk; clear kk)
      | fail)
    go_ret
    exact ⟨rfl, K1.out⟩

end Go.Proofs.Ytgccipmeiceonaa
