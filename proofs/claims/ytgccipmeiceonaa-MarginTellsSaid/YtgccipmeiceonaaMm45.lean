/-
  Merged: MarF, MarG, MarH, MarI, MarJ.
-/
import Derived.Test.YtgccipmeiceonaaMm22
import Derived.Test.YtgccipmeiceonaaMm25
import Derived.Test.YtgccipmeiceonaaMm44
import Derived.Test.YtgccipmeiceonaaMm17
-- MarF
namespace Go.Proofs.Ytgccipmeiceonaa
open Go.RowKit
set_option linter.unusedVariables false

/-- the stake at a place -/
def stkAt (l : List (Int × Int × Int)) (at' : Int) : Int × Int × Int := l.getD at'.toNat default
/-- the error of Spare -/
def spE (l : List (Int × Int × Int)) (ps : List Int) (need at' : Int) : Int :=
  orE (mcE l ps) (if sumB need = true then (if 0 ≤ at' ∧ at' < l.length then orE (amE (wsum ps l)) (if wsum ps l < need then 4 else 0) else 5) else 3)
noncomputable def spV (l : List (Int × Int × Int)) (ps : List Int) (need at' : Int) : Int := if spE l ps need at' = 0 then (stkAt l at').2.1 - kpV ps (stkAt l at').1 (stkAt l at').2.1 (stkAt l at').2.2 (wsum ps l - need) else 0
theorem spE_0 {l : List (Int × Int × Int)} {ps : List Int} {need at' : Int} (h : spE l ps need at' = 0) : mcE l ps = 0 ∧ sumB need = true ∧ (0 ≤ at' ∧ at' < l.length) ∧ amtB (wsum ps l) = true ∧ need ≤ wsum ps l := by
  obtain ⟨h1, h2⟩ := orE_0 h
  by_cases a : sumB need = true
  · rw [if_pos a] at h2
    by_cases b : 0 ≤ at' ∧ at' < l.length
    · rw [if_pos b] at h2
      obtain ⟨h3, h4⟩ := orE_0 h2
      refine ⟨h1, a, b, ?_, ?_⟩
      · cases c : amtB (wsum ps l) with
        | true => rfl
        | false => rw [(am_no c).2] at h3; cases h3
      · by_cases d : wsum ps l < need
        · rw [if_pos d] at h4; cases h4
        · omega
    · rw [if_neg b] at h2; cases h2
  · rw [if_neg a] at h2; cases h2
def SpIs (v u : Value) (need at' V E : Int) (w : World) : Prop := Calls Try.prog 28 #[v, u, .int .i64 need, .int .i64 at'] w fun e w' => e = .returned (.tuple #[.int .i64 V, .int .i64 E]) ∧ Kpt w w'
set_option maxHeartbeats 2000000 in
theorem spare_bad (v u : Value) (l : List (Int × Int × Int)) (ps : List Int) (need at' : Int) (w : World) (hl : ReadsP w v l) (hr : Reads w u ps) (h : spE l ps need at' ≠ 0) : SpIs v u need at' 0 (spE l ps need at') w := by
  have CA := Lib.hid (checkAt_run v u l ps w hl hr)
  unfold SpIs
  by_cases h0 : mcE l ps = 0
  · have h1 : spE l ps need at' = (if sumB need = true then (if 0 ≤ at' ∧ at' < l.length then orE (amE (wsum ps l)) (if wsum ps l < need then 4 else 0) else 5) else 3) := orE_r h0
    rw [h1] at h ⊢
    clear h1
    obtain ⟨⟨h40, hs⟩, hps⟩ := mcE_0 h0
    have TO := Lib.hid (fun w' (k : Kpt w w') => total_run v u l ps w' (hl.kpt k) (hr.kpt k) hps hs (by omega))
    have I1 := Lib.hid (fun w => isSum_run need w)
    rw [h0] at CA
    clear h0 hs
    obtain ⟨a, cap, rfl, -, hm, -, -⟩ := hl
    unfold maxLen at hm
    clear hr
    by_cases h2 : sumB need = true
    · rw [if_pos h2] at h ⊢
      rw [h2] at I1
      clear h2
      by_cases h3 : 0 ≤ at' ∧ at' < l.length
      · rw [if_pos h3] at h ⊢
        obtain ⟨h3a, h3b⟩ := h3
        have y1 : decide (at' < 0) = false := decide_eq_false (by omega)
        have y2 : decide ((l.length : Int) ≤ at') = false := decide_eq_false (by omega)
        by_cases h4 : amtB (wsum ps l) = true
        · obtain ⟨q1, q2⟩ := am_ok h4
          rw [orE_r q2] at h ⊢
          rw [q1, q2] at TO
          by_cases h5 : wsum ps l < need
          · rw [if_pos h5]
            clear h4 q1 q2 h
            generalize wsum ps l = S at *
            generalize l.length = n at *
            go_enter Try.func28, Try.ntmps28
            go_wp2_with (first
              | (go_at_call 79; (with_reducible refine CA.out.mono ?_); rintro e w1 ⟨rfl, k1⟩; have K1 := Lib.hid k1; clear k1)
              | (go_at_call 82; (with_reducible refine (I1.out _).mono ?_); rintro e w2 ⟨rfl, rfl⟩)
              | (go_at_call 80; (with_reducible refine (TO.out _ K1.out).mono ?_); rintro e w3 ⟨rfl, k2⟩; have K2 := Lib.hid (ktr K1.out k2); clear k2))
            go_ret2
            exact ⟨rfl, K2.out⟩
          · rw [if_neg h5] at h; exact absurd rfl h
        · obtain ⟨q1, q2⟩ := am_no (by simpa using h4)
          rw [q2, orE_l _ (by decide)]
          rw [q1, q2] at TO
          clear h4 q1 q2 h
          generalize l.length = n at *
          go_enter Try.func28, Try.ntmps28
          go_wp2_with (first
            | (go_at_call 79; (with_reducible refine CA.out.mono ?_); rintro e w1 ⟨rfl, k1⟩; have K1 := Lib.hid k1; clear k1)
            | (go_at_call 82; (with_reducible refine (I1.out _).mono ?_); rintro e w2 ⟨rfl, rfl⟩)
            | (go_at_call 80; (with_reducible refine (TO.out _ K1.out).mono ?_); rintro e w3 ⟨rfl, k2⟩; have K2 := Lib.hid (ktr K1.out k2); clear k2))
          go_ret2
          exact ⟨rfl, K2.out⟩
      · rw [if_neg h3]
        clear TO h
        generalize l.length = n at *
        by_cases h4 : at' < 0
        · have y1 : decide (at' < 0) = true := decide_eq_true h4
          clear h3
          go_enter Try.func28, Try.ntmps28
          go_wp2_with (first
            | (go_at_call 79; (with_reducible refine CA.out.mono ?_); rintro e w1 ⟨rfl, k1⟩; have K1 := Lib.hid k1; clear k1)
            | (go_at_call 82; (with_reducible refine (I1.out _).mono ?_); rintro e w2 ⟨rfl, rfl⟩))
          go_ret2
          exact ⟨rfl, K1.out⟩
        · have y1 : decide (at' < 0) = false := decide_eq_false h4
          have h5 : (n : Int) ≤ at' := by omega
          have y2 : decide ((n : Int) ≤ at') = true := decide_eq_true h5
          clear h3
          go_enter Try.func28, Try.ntmps28
          go_wp2_with (first
            | (go_at_call 79; (with_reducible refine CA.out.mono ?_); rintro e w1 ⟨rfl, k1⟩; have K1 := Lib.hid k1; clear k1)
            | (go_at_call 82; (with_reducible refine (I1.out _).mono ?_); rintro e w2 ⟨rfl, rfl⟩))
          go_ret2
          exact ⟨rfl, K1.out⟩
    · rw [if_neg h2]
      rw [show sumB need = false by simpa using h2] at I1
      clear TO h h2
      generalize l.length = n at *
      go_enter Try.func28, Try.ntmps28
      go_wp2_with (first
        | (go_at_call 79; (with_reducible refine CA.out.mono ?_); rintro e w1 ⟨rfl, k1⟩; have K1 := Lib.hid k1; clear k1)
        | (go_at_call 82; (with_reducible refine (I1.out _).mono ?_); rintro e w2 ⟨rfl, rfl⟩))
      go_ret2
      exact ⟨rfl, K1.out⟩
  · have h1 : spE l ps need at' = mcE l ps := orE_l _ h0
    rw [h1]
    have z : (mcE l ps != 0) = true := bne_iff_ne.2 h0
    clear h0 h1 h hl hr
    generalize mcE l ps = E at *
    go_enter Try.func28, Try.ntmps28
    go_wp2_with (go_at_call 79; (with_reducible refine CA.out.mono ?_); rintro e w1 ⟨rfl, k1⟩; have K1 := Lib.hid k1; clear k1)
    go_ret2
    exact ⟨rfl, K1.out⟩
theorem srch_ex (p : Nat → Bool) : ∀ n, ∃ k, SrchOk n p k
  | 0 => ⟨0, Nat.le_refl _, fun h => absurd h (Nat.lt_irrefl _), fun h => absurd h (Nat.lt_irrefl _)⟩
  | n + 1 => by
    obtain ⟨k, a1, a2, a3⟩ := srch_ex p n
    by_cases hk : k < n
    · exact ⟨k, by omega, fun _ => a2 hk, a3⟩
    · obtain rfl : k = n := by omega
      cases hb : p k with
      | true => exact ⟨k, by omega, fun _ => hb, a3⟩
      | false => exact ⟨k + 1, Nat.le_refl _, fun h => absurd h (Nat.lt_irrefl _), fun _ => hb⟩
theorem kpV_bd {ps : List Int} (h : PrsOk ps) {P U C most : Int} (h0 : 0 ≤ C) (hU : 0 ≤ U) (hm : 0 ≤ most) : (kpV ps P U C most : Int) ≤ U ∧ wrt ps (P, U, C) - most ≤ wrt ps (P, (kpV ps P U C most : Int), C) ∧ (0 < kpV ps P U C most → wrt ps (P, ((kpV ps P U C most - 1 : Nat) : Int), C) < wrt ps (P, U, C) - most) := by
  obtain ⟨k, hk⟩ := srch_ex (kpP ps P U C most) U.toNat
  rw [kpV_is h h0 hk]
  obtain ⟨a1, a2, a3⟩ := hk
  refine ⟨by omega, ?_, fun h1 => ?_⟩
  · by_cases hl : k < U.toNat
    · exact of_decide_eq_true (a2 hl)
    · have : (k : Int) = U := by omega
      rw [this]; omega
  · have := of_decide_eq_false (a3 h1)
    omega

end Go.Proofs.Ytgccipmeiceonaa

-- MarG
namespace Go.Proofs.Ytgccipmeiceonaa
open Go.RowKit
set_option linter.unusedVariables false

set_option maxHeartbeats 2000000 in
theorem spare_ok (v u : Value) (l : List (Int × Int × Int)) (ps : List Int) (need at' : Int) (w : World) (hl : ReadsP w v l) (hr : Reads w u ps) (h : spE l ps need at' = 0) : SpIs v u need at' (spV l ps need at') 0 w := by
  have CA := Lib.hid (checkAt_run v u l ps w hl hr)
  unfold SpIs
  obtain ⟨h0, h2, ⟨h3a, h3b⟩, h4, h5⟩ := spE_0 h
  obtain ⟨⟨h40, hs⟩, hps⟩ := mcE_0 h0
  have TO := Lib.hid (fun w' (k : Kpt w w') => total_run v u l ps w' (hl.kpt k) (hr.kpt k) hps hs (by omega))
  have I1 := Lib.hid (fun w => isSum_run need w)
  have b0 := wsum_bd hps hs
  have am := amt_t h4
  have sn := sum_t h2
  rw [h0] at CA
  rw [h2] at I1
  rw [(am_ok h4).1, (am_ok h4).2] at TO
  have HV : spV l ps need at' = (stkAt l at').2.1 - kpV ps (stkAt l at').1 (stkAt l at').2.1 (stkAt l at').2.2 (wsum ps l - need) := by unfold spV; rw [if_pos h]
  rw [HV]
  clear HV h h0 h2 h4
  have st := stk_t (hs _ (getP_mem (ps := l) (k := at'.toNat) (by omega)))
  have hst : stkAt l at' = l.getD at'.toNat default := rfl
  rw [← hst] at st
  have HR := Lib.hid hr
  obtain ⟨a2, cap2, rfl, -⟩ := hr
  obtain ⟨a, cap, rfl, -, hm, -, hc⟩ := hl
  unfold maxLen at hm
  obtain ⟨g, off, rfl, hp⟩ := hc at'.toNat (by omega)
  rw [← hst] at hp
  clear hc hs hst
  have KE := Lib.hid (fun w' (k : Kpt w w') => kept_run (stkAt l at').1 (stkAt l at').2.1 (stkAt l at').2.2 (wsum ps l - need) _ ps w' (HR.out.kpt k) hps (by omega) (by omega) (by omega) (by omega))
  have kb := (kpV_bd hps (P := (stkAt l at').1) (U := (stkAt l at').2.1) (C := (stkAt l at').2.2) (most := wsum ps l - need) (by omega) (by omega) (by omega)).1
  generalize stkAt l at' = p at *
  obtain ⟨P, U, C⟩ := p
  simp only at *
  generalize kpV ps P U C (wsum ps l - need) = kv at *
  generalize wsum ps l = S at *
  obtain ⟨c0, c1, c2⟩ := hp
  obtain ⟨j, hj⟩ : ∃ j, at'.toNat = j := ⟨_, rfl⟩
  rw [hj] at c0 c1 c2
  have C0 := Lib.hid c0
  have C1 := Lib.hid c1
  have C2 := Lib.hid c2
  clear c0 c1 c2
  have y1 : decide (at' < 0) = false := decide_eq_false (by omega)
  have y2 : decide ((l.length : Int) ≤ at') = false := decide_eq_false (by omega)
  generalize l.length = n at *
  generalize ps.length = m at *
  have y5 : ¬ S < need := by omega
  have w1 : IntKind.i64.wrap (S - need) = S - need := IntWalk.i64_in _ (by omega)
  have w2 : IntKind.i64.wrap (U - kv) = U - kv := IntWalk.i64_in _ (by omega)
  have x1 : -9223372036854775808 ≤ S - need := by omega
  have x2 : S - need ≤ 9223372036854775807 := by omega
  have x3 : -9223372036854775808 ≤ U - kv := by omega
  have x4 : U - kv ≤ 9223372036854775807 := by omega
  clear st kb am sn b0 h5
  go_enter Try.func28, Try.ntmps28
  go_upto_region 13 with (first
    | (go_at_call 79; (with_reducible refine CA.out.mono ?_); rintro e w1 ⟨rfl, k1⟩; have K1 := Lib.hid k1; clear k1)
    | (go_at_call 82; (with_reducible refine (I1.out _).mono ?_); rintro e w2 ⟨rfl, rfl⟩)
    | (go_at_call 80; (with_reducible refine (TO.out _ K1.out).mono ?_); rintro e w3 ⟨rfl, k2⟩; have K2 := Lib.hid (ktr K1.out k2); clear k2))
  have r0 := cell_k (q := w3) (a := ⟨g, off + j * 3, none⟩) (v := .int .i64 P) (K2.out.cell C0.out)
  have r1 := cell_k (q := w3) (a := ⟨g, off + j * 3 + 1, none⟩) (v := .int .i64 U) (K2.out.cell C1.out)
  have r2 := cell_k (q := w3) (a := ⟨g, off + j * 3 + 2, none⟩) (v := .int .i64 C) (K2.out.cell C2.out)
  have KQ := Lib.hid (fun p : KptTo w3 => KE.out p.w (ktr K2.out p.h))
  have mixed : Try.prog.follows .mixedOrders = true := by kernel_rfl
  refine quiet_k (q := w3) mixed (by kernel_rfl) ?_
  repeat (quiet_step (first | (go_at_call 83; with_reducible refine calls_k (KQ.out _))))
  refine wpQuiet_nil ?_
  intro w8 hw1
  obtain ⟨⟨wz, kz⟩, hw2⟩ := hw1
  have hw3 : w8 = wz := hw2
  clear hw2
  subst hw3
  go_wp2
  go_ret2
  exact ⟨rfl, ktr K2.out kz⟩
theorem spare_any (v u : Value) (l : List (Int × Int × Int)) (ps : List Int) (need at' : Int) (w : World) (hl : ReadsP w v l) (hr : Reads w u ps) : SpIs v u need at' (spV l ps need at') (spE l ps need at') w := by
  by_cases h : spE l ps need at' = 0
  · rw [h]; exact spare_ok v u l ps need at' w hl hr h
  · rw [show spV l ps need at' = 0 from if_neg h]; exact spare_bad v u l ps need at' w hl hr h
theorem SpIs.run {v u : Value} {need at' V E : Int} {w : World} (h : SpIs v u need at' V E w) : Calls Try.prog 28 #[v, u, .int .i64 need, .int .i64 at'] w fun e w' => e = .returned (.tuple #[.int .i64 V, .int .i64 E]) ∧ Kpt w w' := h

end Go.Proofs.Ytgccipmeiceonaa

-- MarH
namespace Go.Proofs.Ytgccipmeiceonaa
open Go.RowKit
set_option linter.unusedVariables false

/-- what is open of a fail that stands right -/
def opF (l : List Int) : Int := l.getD 6 0 - l.getD 7 0 - l.getD 8 0 - l.getD 9 0
theorem fl_bd {l : List Int} (h : failEL l = 0) : (1 ≤ l.getD 6 0 ∧ l.getD 6 0 ≤ 1073741824) ∧ (0 ≤ opF l ∧ opF l ≤ 1073741824) ∧ (0 ≤ l.getD 7 0 ∧ 0 ≤ l.getD 8 0 ∧ 0 ≤ l.getD 9 0) ∧ (1 ≤ l.getD 4 0 ∧ l.getD 4 0 ≤ 20) ∧ (0 ≤ l.getD 1 0 ∧ l.getD 1 0 ≤ 30) := by
  unfold failEL at h
  obtain ⟨h1, -, h3, h4⟩ := fail_0 h
  obtain ⟨-, -, h5, -, h7, h8⟩ := fdue_t h1
  obtain ⟨g1, g2, g3⟩ := ftk_t h3
  unfold opF
  omega
/-- what a party owes for one fail -/
def ow1 (ps : List Int) (party : Int) (l : List Int) : Int := if l.getD 1 0 = party then opF l * ps.getD (l.getD 4 0 - 1).toNat 0 / 10000 else 0
theorem ow1_bd {ps : List Int} (hp : PrsOk ps) {party : Int} {l : List Int} (h : failEL l = 0) : 0 ≤ ow1 ps party l ∧ ow1 ps party l ≤ 118059162071741130 := by
  unfold ow1
  split
  · exact cost_bd (fl_bd h).2.1 (hp.at_ _)
  · omega
/-- what a party owes for all -/
def owS (ps : List Int) (party : Int) (fs : List (List Int)) : Int := (fs.map (ow1 ps party)).sum
theorem owS_app (ps : List Int) (party : Int) (a b : List (List Int)) : owS ps party (a ++ b) = owS ps party a + owS ps party b := by unfold owS; rw [List.map_append, List.sum_append]
theorem owS_bd {ps : List Int} (hp : PrsOk ps) {party : Int} {fs : List (List Int)} (h : ∀ l ∈ fs, failEL l = 0) : 0 ≤ owS ps party fs ∧ owS ps party fs ≤ 118059162071741130 * (fs.length : Int) := by
  induction fs with
  | nil => exact ⟨Int.le_refl _, Int.le_refl _⟩
  | cons l fs ih =>
    have a := ow1_bd hp (party := party) (h l (by simp))
    have b := ih (fun q hq => h q (by simp [hq]))
    have e : owS ps party (l :: fs) = ow1 ps party l + owS ps party fs := by unfold owS; rw [List.map_cons, List.sum_cons]
    rw [e, List.length_cons]
    omega
theorem owS_take {ps : List Int} {party : Int} {fs : List (List Int)} {k : Nat} (hk : k < fs.length) : owS ps party (fs.take (k + 1)) = owS ps party (fs.take k) + ow1 ps party (fs.getD k []) := by
  rw [List.take_succ_eq_append_getElem hk, owS_app, List.getD_eq_getElem?_getD, List.getElem?_eq_getElem hk]
  simp [owS]
theorem owS_ok {ps : List Int} (hp : PrsOk ps) {party : Int} {fs : List (List Int)} (h : ∀ l ∈ fs, failEL l = 0) (h60 : fs.length ≤ 60) : okS (owS ps party fs) := by
  have b := owS_bd hp (party := party) h
  exact okS_mk (k := 60) (by decide) (by omega) (by omega)
theorem checks_0 {fs : List (List Int)} (h : checksE fs = 0) : fs.length ≤ 60 ∧ ∀ l ∈ fs, failEL l = 0 := by
  unfold checksE at h
  split at h
  · cases h
  · exact ⟨by omega, (ids_ok.1 h).1⟩

set_option maxHeartbeats 4000000 in
theorem owed_run (v u : Value) (fs : List (List Int)) (ps : List Int) (party : Int) (w : World) (hl : ReadsF w v fs) (hr : Reads w u ps) (hps : PrsOk ps) (hs : ∀ l ∈ fs, failEL l = 0) (h60 : fs.length ≤ 60) :
    Calls Try.prog 81 #[v, u, .int .i64 party] w fun e w' => e = .returned (.tuple #[.int .i64 (amV (owS ps party fs)), .int .i64 (amE (owS ps party fs))]) ∧ Kpt w w' := by
  obtain ⟨a, cap, rfl, hm, -, hc⟩ := hl
  have HR := Lib.hid hr
  obtain ⟨a2, cap2, rfl, hm2, hc2⟩ := hr
  unfold maxLen at hm hm2
  have HC := Lib.hid hc
  have HC2 := Lib.hid hc2
  have HS := Lib.hid hs
  have HW := Lib.hid (fun k (h : k < fs.length) => owS_take (ps := ps) (party := party) h)
  have HO := Lib.hid (fun k => owS_ok hps (party := party) (fs := fs.take k) (fun p hp => hs p (List.mem_of_mem_take hp)) (by rw [List.length_take]; omega))
  have HP := Lib.hid hps
  have DA : Hid (fs.take fs.length = fs) := List.take_of_length_le (Nat.le_refl _)
  have AM := Lib.hid (fun w' => amount_any (owS ps party fs) w')
  generalize amV (owS ps party fs) = av at *
  generalize amE (owS ps party fs) = ae at *
  have HM := Lib.hid (fun k (h : k < fs.length) => (getF_mem h : fs.getD k [] ∈ fs))
  obtain ⟨n, hn⟩ : ∃ n, n = fs.length := ⟨_, rfl⟩
  obtain ⟨m, hm0⟩ : ∃ m, m = ps.length := ⟨_, rfl⟩
  have M20 : Hid (m = 20) := by rw [hm0]; exact hps.1
  rw [← hn] at HC hm HW DA HM ⊢
  rw [← hm0] at HR HC2 hm2 ⊢
  clear hc hc2 hn hs hps h60 hm0
  go_enter Try.func81, Try.ntmps81
  go_wp2
  go_loopw [11, 12, 13, 14, 17] (fun x11 x12 x13 x14 ii wr => ∃ k : Nat, k ≤ n ∧ ii = .int .i64 (k : Int) ∧ Hid (Blk wr w.heap.size #[.int .i64 (hiOf (owS ps party (fs.take k))), .int .u64 (loOf (owS ps party (fs.take k)))] 145) ∧ Hid (Kpt w wr)) (fun _ _ _ _ ii _ => n - (intOf ii).toNat)
  case atStart => exact ⟨0, Nat.zero_le _, rfl, Blk.made _ _ _, (Kpt.refl w).alloc _⟩
  case round =>
    obtain ⟨k, hk, rfl, HB, HK⟩ := hrel
    by_cases hlt : k < n
    · obtain ⟨g, off, rfl, hfl⟩ := HC.out k hlt
      have hw := HW.out k hlt
      have hst := HS.out _ (HM.out k hlt)
      have ok := Lib.hid (HO.out k)
      have fb := fl_bd hst
      have ob := ow1_bd HP.out (party := party) hst
      obtain ⟨g3, off3, rfl, hpc⟩ := HC2.out ((fs.getD k []).getD 4 0 - 1).toNat (by have := M20.out; omega)
      have pb := HP.out.at_ ((fs.getD k []).getD 4 0 - 1).toNat
      have c0 : wr.cell? ⟨g, off + k * 10, none⟩ = _ := HK.out.cell (hfl 0 (by omega))
      have c1 : wr.cell? ⟨g, off + k * 10 + 1, none⟩ = _ := HK.out.cell (hfl 1 (by omega))
      have c2 : wr.cell? ⟨g, off + k * 10 + 2, none⟩ = _ := HK.out.cell (hfl 2 (by omega))
      have c3 : wr.cell? ⟨g, off + k * 10 + 3, none⟩ = _ := HK.out.cell (hfl 3 (by omega))
      have c4 : wr.cell? ⟨g, off + k * 10 + 4, none⟩ = _ := HK.out.cell (hfl 4 (by omega))
      have c5 : wr.cell? ⟨g, off + k * 10 + 5, none⟩ = _ := HK.out.cell (hfl 5 (by omega))
      have c6 : wr.cell? ⟨g, off + k * 10 + 6, none⟩ = _ := HK.out.cell (hfl 6 (by omega))
      have c7 : wr.cell? ⟨g, off + k * 10 + 7, none⟩ = _ := HK.out.cell (hfl 7 (by omega))
      have c8 : wr.cell? ⟨g, off + k * 10 + 8, none⟩ = _ := HK.out.cell (hfl 8 (by omega))
      have c9 : wr.cell? ⟨g, off + k * 10 + 9, none⟩ = _ := HK.out.cell (hfl 9 (by omega))
      have OPN := Lib.hid (fun w' => fopenX_run ((fs.getD k []).getD 0 0) ((fs.getD k []).getD 1 0) ((fs.getD k []).getD 2 0) ((fs.getD k []).getD 3 0) ((fs.getD k []).getD 4 0) ((fs.getD k []).getD 5 0) ((fs.getD k []).getD 6 0) ((fs.getD k []).getD 7 0) ((fs.getD k []).getD 8 0) ((fs.getD k []).getD 9 0) w')
      have hE : failE ((fs.getD k []).getD 0 0) ((fs.getD k []).getD 1 0) ((fs.getD k []).getD 2 0) ((fs.getD k []).getD 3 0) ((fs.getD k []).getD 4 0) ((fs.getD k []).getD 5 0) ((fs.getD k []).getD 6 0) ((fs.getD k []).getD 7 0) ((fs.getD k []).getD 8 0) ((fs.getD k []).getD 9 0) = 0 := hst
      have hV : openV ((fs.getD k []).getD 0 0) ((fs.getD k []).getD 1 0) ((fs.getD k []).getD 2 0) ((fs.getD k []).getD 3 0) ((fs.getD k []).getD 4 0) ((fs.getD k []).getD 5 0) ((fs.getD k []).getD 6 0) ((fs.getD k []).getD 7 0) ((fs.getD k []).getD 8 0) ((fs.getD k []).getD 9 0) = opF (fs.getD k []) := by unfold openV; rw [if_pos hE]; rfl
      rw [hE, hV] at OPN
      unfold ow1 at hw ob
      have CO := Lib.hid (fun w' => cost_priced fb.2.1 pb w')
      have hpc2 : w.cell? ⟨g3, off3 + ((fs.getD k []).getD 4 0 - 1).toNat, none⟩ = some (.int .i64 (ps.getD ((fs.getD k []).getD 4 0 - 1).toNat 0)) := hpc
      clear hpc hfl hE hV hst
      generalize opF (fs.getD k []) = o at *
      generalize ps.getD ((fs.getD k []).getD 4 0 - 1).toNat 0 = z at *
      generalize fs.getD k [] = l at *
      generalize l.getD 0 0 = i at *
      generalize l.getD 1 0 = f at *
      generalize l.getD 2 0 = t at *
      generalize l.getD 3 0 = c at *
      generalize l.getD 4 0 = p at *
      generalize l.getD 5 0 = d at *
      generalize l.getD 6 0 = u at *
      generalize l.getD 7 0 = x at *
      generalize l.getD 8 0 = b at *
      generalize l.getD 9 0 = y at *
      have ZB : Hid (Blk (wr.alloc (.cells #[.int .i64 0, .int .i64 0, .int .i64 0, .int .i64 0, .int .i64 0, .int .i64 0, .int .i64 0, .int .i64 0, .int .i64 0, .int .i64 0] 38)) wr.heap.size #[.int .i64 0, .int .i64 0, .int .i64 0, .int .i64 0, .int .i64 0, .int .i64 0, .int .i64 0, .int .i64 0, .int .i64 0, .int .i64 0] 38) := Blk.made _ _ _
      have KZ : Hid (Kpt wr (wr.alloc (.cells #[.int .i64 0, .int .i64 0, .int .i64 0, .int .i64 0, .int .i64 0, .int .i64 0, .int .i64 0, .int .i64 0, .int .i64 0, .int .i64 0] 38))) := (Kpt.refl _).alloc _
      have n2 : 1 ≤ p := fb.2.2.2.1.1
      have n3 : 0 ≤ p - 1 := by omega
      have n4 : p - 1 < (m : Int) := by have := M20.out; omega
      have n5 : -9223372036854775808 ≤ p - 1 := by omega
      have n6 : p - 1 ≤ 9223372036854775807 := by omega
      have n7 : IntKind.i64.wrap (p - 1) = p - 1 := IntWalk.i64_in _ (by omega)
      obtain ⟨j, hj⟩ : ∃ j, (p - 1).toNat = j := ⟨_, rfl⟩
      rw [hj] at hpc2
      have PC := Lib.hid hpc2
      clear hpc2 fb pb
      by_cases hf : f = party
      · have yf : (f != party) = false := by simpa using hf
        rw [if_pos hf] at hw ob
        have HW2 := Lib.hid hw
        clear hw hf
        generalize o * z / 10000 = q at *
        generalize cosR o z = r at *
        generalize owS ps party (fs.take k) = S at *
        go_wp2_with (first
          | (refine wp_storeF rfl (.tmp 10) (.tmp 20) rfl wr.heap.size _ _ rfl rfl ZB.out rfl rfl (by simp [Value.oneCell']) ?_; intro w9 r9 k9 o9; have R9 := Lib.hid r9; have K9 : Hid (Kpt wr w9) := k9 _ _ KZ.out (Nat.le_refl _); have e1 : w9.cell? ⟨wr.heap.size, 1, none⟩ = some (.int .i64 f) := R9.out.cell 1; have KK9 := Lib.hid (ktr HK.out K9.out); have B9 := Lib.hid (HB.out.kpt K9.out); clear r9 k9 o9)
          | (refine wp_loadF rfl (.tmp 10) rfl wr.heap.size _ rfl R9.out rfl ?_)
          | (go_at_call 107; (with_reducible refine (OPN.out _).mono ?_); rintro e wa ⟨rfl, ka⟩; have KA := Lib.hid (ktr KK9.out ka); have BA := Lib.hid (B9.out.kpt ka); have e4 : wa.cell? ⟨wr.heap.size, 4, none⟩ = some (.int .i64 p) := (R9.out.kpt ka).cell 4; have p0 : wa.cell? ⟨g3, off3 + j, none⟩ = some (.int .i64 z) := KA.out.cell PC.out; clear ka)
          | (go_at_call 48; (with_reducible refine (CO.out _).mono ?_); rintro e wb ⟨rfl, kb⟩; have KB := Lib.hid (ktr KA.out kb); have BB := Lib.hid (BA.out.kpt kb); have d0 : wb.cell? ⟨w.heap.size, 0, none⟩ = some (.int .i64 (hiOf S)) := BB.out.cell 0; have d1 : wb.cell? ⟨w.heap.size, 1, none⟩ = some (.int .u64 (loOf S)) := BB.out.cell 1; clear kb)
          | (go_at_call 119; (with_reducible refine (plus_at S q _ ok.out (by omega) (by omega)).mono ?_); rintro e w2 ⟨rfl, g1⟩; have B2 := Lib.hid (BB.out.grew g1); have d4 : w2.cell? ⟨w.heap.size, 0, none⟩ = some (.int .i64 (hiOf S)) := B2.out.cell 0; have d5 : w2.cell? ⟨w.heap.size, 1, none⟩ = some (.int .u64 (loOf S)) := B2.out.cell 1; have f0 := B2.out.frozen 0; have f1 := B2.out.frozen 1; have G2 := Lib.hid (ktr KB.out g1.kpt); clear g1))
        go_roundw
        case rel => exact ⟨k + 1, by omega, by go_num, by unfold Hid; rw [HW2.out]; exact (B2.out.put 0 _).put 1 _, (G2.out.setCell (Nat.le_refl _) _).setCell (Nat.le_refl _) _⟩
        case measure => simp [intOf]; omega
      · have yf : (f != party) = true := bne_iff_ne.2 hf
        rw [if_neg hf, Int.add_zero] at hw
        have HW2 := Lib.hid hw
        clear hw hf ob
        generalize owS ps party (fs.take k) = S at *
        go_wp2_with (first
          | (refine wp_storeF rfl (.tmp 10) (.tmp 20) rfl wr.heap.size _ _ rfl rfl ZB.out rfl rfl (by simp [Value.oneCell']) ?_; intro w9 r9 k9 o9; have R9 := Lib.hid r9; have K9 : Hid (Kpt wr w9) := k9 _ _ KZ.out (Nat.le_refl _); have e1 : w9.cell? ⟨wr.heap.size, 1, none⟩ = some (.int .i64 f) := R9.out.cell 1; have KK9 := Lib.hid (ktr HK.out K9.out); have B9 := Lib.hid (HB.out.kpt K9.out); clear r9 k9 o9))
        go_roundw
        case rel => exact ⟨k + 1, by omega, by go_num, by unfold Hid; rw [HW2.out]; exact B9.out, KK9.out⟩
        case measure => simp [intOf]; omega
    · obtain rfl : k = n := by omega
      rw [DA.out] at HB
      have c0 : wr.cell? ⟨w.heap.size, 0, none⟩ = some (.int .i64 (hiOf (owS ps party fs))) := HB.out.cell 0
      have c1 : wr.cell? ⟨w.heap.size, 1, none⟩ = some (.int .u64 (loOf (owS ps party fs))) := HB.out.cell 1
      generalize owS ps party fs = S at *
      go_wp2_with (go_at_call 121; (with_reducible refine (AM.out _).mono ?_); rintro e w2 ⟨rfl, k2⟩; have K2 := Lib.hid (ktr HK.out k2); clear k2)
      go_ret2
      exact ⟨rfl, K2.out⟩

/-- the error of a party and a rate -/
def rteB (party rate : Int) : Bool := decide (0 ≤ party ∧ party ≤ 30 ∧ 0 ≤ rate ∧ rate ≤ 10000)
/-- what Need answers -/
def ndE (fs : List (List Int)) (ps : List Int) (party rate : Int) : Int := orE (checksE fs) (orE (prsE ps) (if rteB party rate = true then amE (owS ps party fs) else 3))
def ndV (fs : List (List Int)) (ps : List Int) (party rate : Int) : Int := if ndE fs ps party rate = 0 then owS ps party fs * rate / 10000 else 0
theorem ndE_0 {fs : List (List Int)} {ps : List Int} {party rate : Int} (h : ndE fs ps party rate = 0) : checksE fs = 0 ∧ prsE ps = 0 ∧ (0 ≤ party ∧ party ≤ 30 ∧ 0 ≤ rate ∧ rate ≤ 10000) ∧ amtB (owS ps party fs) = true := by
  obtain ⟨h1, h2⟩ := orE_0 h
  obtain ⟨h3, h4⟩ := orE_0 h2
  by_cases a : rteB party rate = true
  · rw [if_pos a] at h4
    refine ⟨h1, h3, of_decide_eq_true a, ?_⟩
    cases c : amtB (owS ps party fs) with
    | true => rfl
    | false => rw [(am_no c).2] at h4; cases h4
  · rw [if_neg a] at h4; cases h4
theorem nd_part {S r : Int} (h0 : 0 ≤ S ∧ S ≤ 1152921504606846976) (hr : 0 ≤ r ∧ r ≤ 10000) : 0 ≤ S * r / 10000 ∧ S * r / 10000 ≤ 1152921504606846976 := by
  have a : 0 ≤ S * r := Int.mul_nonneg h0.1 hr.1
  have b : S * r ≤ 1152921504606846976 * 10000 := Int.mul_le_mul h0.2 hr.2 hr.1 (by omega)
  omega

end Go.Proofs.Ytgccipmeiceonaa

-- MarI
namespace Go.Proofs.Ytgccipmeiceonaa
open Go.RowKit
set_option linter.unusedVariables false

set_option maxHeartbeats 2000000 in
theorem need_any (v u : Value) (fs : List (List Int)) (ps : List Int) (party rate : Int) (w : World) (hl : ReadsF w v fs) (hr : Reads w u ps) :
    Calls Try.prog 26 #[v, u, .int .i64 party, .int .i64 rate] w fun e w' => e = .returned (.tuple #[.int .i64 (ndV fs ps party rate), .int .i64 (ndE fs ps party rate)]) ∧ Kpt w w' := by
  have CC := Lib.hid (checks_run v fs w hl)
  have PC := Lib.hid (fun w' (k : Kpt w w') => prices_run u ps w' (hr.kpt k))
  by_cases h1 : checksE fs = 0
  · rw [h1] at CC
    obtain ⟨h60, hs⟩ := checks_0 h1
    by_cases h2 : prsE ps = 0
    · rw [h2] at PC
      have hps := prsOk h2
      have OW := Lib.hid (fun w' (k : Kpt w w') => owed_run v u fs ps party w' (hl.kpt k) (hr.kpt k) hps hs h60)
      have eE : ndE fs ps party rate = (if rteB party rate = true then amE (owS ps party fs) else 3) := (orE_r h1).trans (orE_r h2)
      by_cases h3 : rteB party rate = true
      · rw [if_pos h3] at eE
        have hb := of_decide_eq_true h3
        have y1 : decide (party < 0) = false := decide_eq_false (by omega)
        have y2 : decide (30 < party) = false := decide_eq_false (by omega)
        have y3 : decide (rate < 0) = false := decide_eq_false (by omega)
        have y4 : decide (10000 < rate) = false := decide_eq_false (by omega)
        by_cases h4 : amtB (owS ps party fs) = true
        · rw [(am_ok h4).2] at eE
          have eV : ndV fs ps party rate = owS ps party fs * rate / 10000 := by unfold ndV; rw [if_pos eE]
          rw [eE, eV]
          rw [(am_ok h4).1, (am_ok h4).2] at OW
          have a := amt_t h4
          have ob := owS_bd hps (party := party) hs
          have nb := nd_part (S := owS ps party fs) (r := rate) ⟨ob.1, a.2⟩ (by omega)
          have PT := Lib.hid (fun w => part_ok (owS ps party fs) rate 10000 h4 (rng_mk (by omega) (by omega) (by decide) (by decide)) (amt_mk (by omega) (by omega)) w)
          clear h1 h2 h3 h4 eE eV a ob nb hs hps hb hl hr
          generalize owS ps party fs * rate / 10000 = q at *
          generalize owS ps party fs * rate % 10000 = o at *
          generalize owS ps party fs = S at *
          go_enter Try.func26, Try.ntmps26
          go_wp2_with (first
            | (go_at_call 56; (with_reducible refine CC.out.mono ?_); rintro e w1 ⟨rfl, k1⟩; have K1 := Lib.hid k1; clear k1)
            | (go_at_call 12; (with_reducible refine (PC.out _ K1.out).mono ?_); rintro e w2 ⟨rfl, rfl⟩)
            | (go_at_call 81; (with_reducible refine (OW.out _ K1.out).mono ?_); rintro e w3 ⟨rfl, k2⟩; have K2 := Lib.hid (ktr K1.out k2); clear k2)
            | (go_at_call 49; (with_reducible refine (PT.out _).mono ?_); rintro e w4 ⟨rfl, g2⟩; have K3 := Lib.hid (ktr K2.out g2.kpt); clear g2))
          go_ret2
          exact ⟨rfl, K3.out⟩
        · have h4' : amtB (owS ps party fs) = false := by simpa using h4
          rw [(am_no h4').2] at eE
          have eV : ndV fs ps party rate = 0 := by unfold ndV; rw [if_neg (by rw [eE]; decide)]
          rw [eE, eV]
          rw [(am_no h4').1, (am_no h4').2] at OW
          clear h1 h2 h3 h4 h4' eE eV hs hps hb hl hr
          go_enter Try.func26, Try.ntmps26
          go_wp2_with (first
            | (go_at_call 56; (with_reducible refine CC.out.mono ?_); rintro e w1 ⟨rfl, k1⟩; have K1 := Lib.hid k1; clear k1)
            | (go_at_call 12; (with_reducible refine (PC.out _ K1.out).mono ?_); rintro e w2 ⟨rfl, rfl⟩)
            | (go_at_call 81; (with_reducible refine (OW.out _ K1.out).mono ?_); rintro e w3 ⟨rfl, k2⟩; have K2 := Lib.hid (ktr K1.out k2); clear k2))
          go_ret2
          exact ⟨rfl, K2.out⟩
      · rw [if_neg h3] at eE
        have eV : ndV fs ps party rate = 0 := by unfold ndV; rw [if_neg (by rw [eE]; decide)]
        rw [eE, eV]
        have hb : ¬ (0 ≤ party ∧ party ≤ 30 ∧ 0 ≤ rate ∧ rate ≤ 10000) := of_decide_eq_false (by simpa [rteB] using h3)
        clear h1 h2 h3 eE eV hs hps hl hr OW
        by_cases g1 : party < 0
        · have y1 : decide (party < 0) = true := decide_eq_true g1
          clear hb
          go_enter Try.func26, Try.ntmps26
          go_wp2_with (first
            | (go_at_call 56; (with_reducible refine CC.out.mono ?_); rintro e w1 ⟨rfl, k1⟩; have K1 := Lib.hid k1; clear k1)
            | (go_at_call 12; (with_reducible refine (PC.out _ K1.out).mono ?_); rintro e w2 ⟨rfl, rfl⟩))
          go_ret2
          exact ⟨rfl, K1.out⟩
        have y1 : decide (party < 0) = false := decide_eq_false g1
        by_cases g2 : 30 < party
        · have y2 : decide (30 < party) = true := decide_eq_true g2
          clear hb
          go_enter Try.func26, Try.ntmps26
          go_wp2_with (first
            | (go_at_call 56; (with_reducible refine CC.out.mono ?_); rintro e w1 ⟨rfl, k1⟩; have K1 := Lib.hid k1; clear k1)
            | (go_at_call 12; (with_reducible refine (PC.out _ K1.out).mono ?_); rintro e w2 ⟨rfl, rfl⟩))
          go_ret2
          exact ⟨rfl, K1.out⟩
        have y2 : decide (30 < party) = false := decide_eq_false g2
        by_cases g3 : rate < 0
        · have y3 : decide (rate < 0) = true := decide_eq_true g3
          clear hb
          go_enter Try.func26, Try.ntmps26
          go_wp2_with (first
            | (go_at_call 56; (with_reducible refine CC.out.mono ?_); rintro e w1 ⟨rfl, k1⟩; have K1 := Lib.hid k1; clear k1)
            | (go_at_call 12; (with_reducible refine (PC.out _ K1.out).mono ?_); rintro e w2 ⟨rfl, rfl⟩))
          go_ret2
          exact ⟨rfl, K1.out⟩
        have y3 : decide (rate < 0) = false := decide_eq_false g3
        have g4 : 10000 < rate := by omega
        have y4 : decide (10000 < rate) = true := decide_eq_true g4
        clear hb
        go_enter Try.func26, Try.ntmps26
        go_wp2_with (first
          | (go_at_call 56; (with_reducible refine CC.out.mono ?_); rintro e w1 ⟨rfl, k1⟩; have K1 := Lib.hid k1; clear k1)
          | (go_at_call 12; (with_reducible refine (PC.out _ K1.out).mono ?_); rintro e w2 ⟨rfl, rfl⟩))
        go_ret2
        exact ⟨rfl, K1.out⟩
    · have eE : ndE fs ps party rate = prsE ps := (orE_r h1).trans (orE_l _ h2)
      have eV : ndV fs ps party rate = 0 := by unfold ndV; rw [if_neg (by rw [eE]; exact h2)]
      rw [eE, eV]
      have z : (prsE ps != 0) = true := bne_iff_ne.2 h2
      clear h1 h2 hs eE eV hl hr
      generalize prsE ps = E at *
      go_enter Try.func26, Try.ntmps26
      go_wp2_with (first
        | (go_at_call 56; (with_reducible refine CC.out.mono ?_); rintro e w1 ⟨rfl, k1⟩; have K1 := Lib.hid k1; clear k1)
        | (go_at_call 12; (with_reducible refine (PC.out _ K1.out).mono ?_); rintro e w2 ⟨rfl, rfl⟩))
      go_ret2
      exact ⟨rfl, K1.out⟩
  · have eE : ndE fs ps party rate = checksE fs := orE_l _ h1
    have eV : ndV fs ps party rate = 0 := by unfold ndV; rw [if_neg (by rw [eE]; exact h1)]
    rw [eE, eV]
    have z : (checksE fs != 0) = true := bne_iff_ne.2 h1
    clear h1 eE eV hl hr PC
    generalize checksE fs = E at *
    go_enter Try.func26, Try.ntmps26
    go_wp2_with (first
      | (go_at_call 56; (with_reducible refine CC.out.mono ?_); rintro e w1 ⟨rfl, k1⟩; have K1 := Lib.hid k1; clear k1))
    go_ret2
    exact ⟨rfl, K1.out⟩

end Go.Proofs.Ytgccipmeiceonaa

-- MarJ
namespace Go.Proofs.Ytgccipmeiceonaa
open Go.RowKit
set_option linter.unusedVariables false

def stkL : List (Int × Int × Int) := [(1, 100, 9000), (2, 10, 5000)]
theorem stakes_run (w : World) : Calls Try.prog 87 #[] w fun e w' => ∃ v, e = .returned v ∧ ReadsP w' v stkL ∧ Kpt w w' := by
  have B := Lib.hid (Blk.made w #[.int .i64 1, .int .i64 100, .int .i64 9000, .int .i64 2, .int .i64 10, .int .i64 5000] 107)
  have K : Hid (Kpt w (w.alloc (.cells #[.int .i64 1, .int .i64 100, .int .i64 9000, .int .i64 2, .int .i64 10, .int .i64 5000] 107))) := (Kpt.refl w).alloc _
  go_enter Try.func87, Try.ntmps87
  go_wp2
  go_ret
  refine ⟨_, rfl, ⟨_, 2, rfl, (fun e => by cases e), by unfold maxLen; decide, by unfold stkL; decide, fun j hj => ⟨w.heap.size, 0, rfl, ?_⟩⟩, K.out⟩
  rcases (show j = 0 ∨ j = 1 by simp [stkL] at hj; omega) with rfl | rfl
  · exact ⟨B.out.cell 0, B.out.cell 1, B.out.cell 2⟩
  · exact ⟨B.out.cell 3, B.out.cell 4, B.out.cell 5⟩
def fl1 : List Int := [7, 1, 2, 0, 3, 739935, 100, 0, 0, 0]
theorem rf_fl1 (w : World) : ReadsF (w.alloc (.cells #[.int .i64 7, .int .i64 1, .int .i64 2, .int .i64 0, .int .i64 3, .int .i64 739935, .int .i64 100, .int .i64 0, .int .i64 0, .int .i64 0] 38)) (.slice (some ⟨w.heap.size, 0, none⟩) 1 1) [fl1] := by
  have B := Blk.made w #[.int .i64 7, .int .i64 1, .int .i64 2, .int .i64 0, .int .i64 3, .int .i64 739935, .int .i64 100, .int .i64 0, .int .i64 0, .int .i64 0] 38
  refine ⟨_, 1, rfl, by unfold maxLen; decide, by intro l hl; rw [List.mem_singleton.1 hl]; unfold FlB fl1; decide, fun k hk => ⟨w.heap.size, 0, rfl, fun j hj => ?_⟩⟩
  obtain rfl : k = 0 := by simp at hk; exact hk
  rw [Nat.zero_mul, Nat.zero_add, B.cell]
  rcases (show j = 0 ∨ j = 1 ∨ j = 2 ∨ j = 3 ∨ j = 4 ∨ j = 5 ∨ j = 6 ∨ j = 7 ∨ j = 8 ∨ j = 9 by omega) with rfl | rfl | rfl | rfl | rfl | rfl | rfl | rfl | rfl | rfl <;> rfl
theorem rp_none (w : World) : ReadsP (w.alloc (.cells #[.int .i64 0, .int .i64 0, .int .i64 0] 107)) (.slice (some ⟨w.heap.size, 0, none⟩) 1 1) [(0, 0, 0)] := by
  have B := Blk.made w #[.int .i64 0, .int .i64 0, .int .i64 0] 107
  refine ⟨_, 1, rfl, (fun e => by cases e), by unfold maxLen; decide, by decide, fun j hj => ⟨w.heap.size, 0, rfl, ?_⟩⟩
  obtain rfl : j = 0 := by simp at hj; exact hj
  exact ⟨B.cell 0, B.cell 1, B.cell 2⟩
theorem mb_val : valV stkL (tenL 20) = 950 ∧ valE stkL (tenL 20) = 0 := by decide +kernel
theorem mb_nd : ndV [fl1] (tenL 20) 1 2000 = 200 ∧ ndE [fl1] (tenL 20) 1 2000 = 0 := by decide +kernel
theorem mb_call : callV 150 200 10 = 50 ∧ callE 150 200 10 = 0 := by decide +kernel
theorem mb_prs : PrsOk (tenL 20) := prsOk (by decide +kernel)
theorem mb_sp1 : spE stkL (tenL 20) 500 0 = 0 := by decide +kernel
theorem mb_spv : spV stkL (tenL 20) 500 0 = 50 := by
  have hk : kpV (tenL 20) 1 100 9000 (wsum (tenL 20) stkL - 500) = 50 := kpV_is mb_prs (by decide) ⟨by decide, fun _ => by decide +kernel, fun _ => by decide +kernel⟩
  unfold spV
  rw [if_pos mb_sp1]
  show (100 : Int) - ((kpV (tenL 20) 1 100 9000 (wsum (tenL 20) stkL - 500) : Nat) : Int) = 50
  rw [hk]; rfl
theorem mb_sp2 : spE stkL (tenL 20) 951 0 = 4 := by decide +kernel
theorem mb_sp3 : spE stkL (tenL 20) 1 2 = 5 := by decide +kernel
theorem mb_no : stkE [(0, 0, 0)] = 3 := by decide +kernel

set_option maxRecDepth 100000 in
set_option maxHeartbeats 4000000 in
theorem marginBegun (w : World) : Calls Try.prog 33 #[] w fun e w' => e = .returned (.bool true) ∧ Kpt w w' := by
  have V1 := Lib.hid (fun v u w' hl hr => value_run v u stkL (tenL 20) w' hl hr)
  rw [mb_val.1, mb_val.2] at V1
  have N1 := Lib.hid (fun v u w' hl hr => need_any v u [fl1] (tenL 20) 1 2000 w' hl hr)
  rw [mb_nd.1, mb_nd.2] at N1
  have C1 := Lib.hid (fun w' => call_run 150 200 10 w')
  rw [mb_call.1, mb_call.2] at C1
  have S1 := Lib.hid (fun v u w' hl hr => (spare_any v u stkL (tenL 20) 500 0 w' hl hr).run)
  rw [mb_sp1, mb_spv] at S1
  have S2 := Lib.hid (fun v u w' hl hr => (spare_any v u stkL (tenL 20) 951 0 w' hl hr).run)
  rw [show spV stkL (tenL 20) 951 0 = 0 from if_neg (by rw [mb_sp2]; decide), mb_sp2] at S2
  have S3 := Lib.hid (fun v u w' hl hr => (spare_any v u stkL (tenL 20) 1 2 w' hl hr).run)
  rw [show spV stkL (tenL 20) 1 2 = 0 from if_neg (by rw [mb_sp3]; decide), mb_sp3] at S3
  have E1 := Lib.hid (fun w' => stkE_run _ [(0, 0, 0)] _ (rp_none w'))
  rw [mb_no] at E1
  have K0 : Hid (Kpt w w) := Kpt.refl w
  go_enter Try.func33, Try.ntmps33
  go_wp2_with (first
    | (go_at_call 87; (with_reducible refine (stakes_run _).mono ?_); rintro e w1 ⟨sv, rfl, sr, k1⟩; have K0 := Lib.hid (ktr K0.out k1); have SR := Lib.hid sr; clear k1 sr)
    | (go_at_call 68; (with_reducible refine (some_run _).mono ?_); rintro e w1 ⟨rfl, k1⟩; have K0 := Lib.hid ((ktr K0.out k1).alloc (.cells #[.int .i64 7, .int .i64 1, .int .i64 2, .int .i64 0, .int .i64 3, .int .i64 739935, .int .i64 100, .int .i64 0, .int .i64 0, .int .i64 0] 38)); have FR := Lib.hid (rf_fl1 w1); clear k1)
    | (go_at_call 71; (with_reducible refine (tenEach_run _).mono ?_); rintro e w2 ⟨tv, rfl, tr, k1⟩; have K0 := Lib.hid (ktr K0.out k1); (try have SR := Lib.hid (SR.out.kpt k1)); (try have FR := Lib.hid (FR.out.kpt k1)); have TR := Lib.hid tr; clear k1 tr)
    | (go_at_call 25; (with_reducible refine (V1.out _ _ _ SR.out TR.out).mono ?_); rintro e w3 ⟨rfl, k1⟩; have K0 := Lib.hid (ktr K0.out k1); clear k1 SR TR)
    | (go_at_call 26; (with_reducible refine (N1.out _ _ _ FR.out TR.out).mono ?_); rintro e w3 ⟨rfl, k1⟩; have K0 := Lib.hid (ktr K0.out k1); clear k1 FR TR)
    | (go_at_call 27; (with_reducible refine (C1.out _).mono ?_); rintro e w3 ⟨rfl, k1⟩; have K0 := Lib.hid (ktr K0.out k1); clear k1)
    | (go_at_call 28; (with_reducible refine (S1.out _ _ _ SR.out TR.out).mono ?_); rintro e w3 ⟨rfl, k1⟩; have K0 := Lib.hid (ktr K0.out k1); clear k1 SR TR)
    | (go_at_call 28; (with_reducible refine (S2.out _ _ _ SR.out TR.out).mono ?_); rintro e w3 ⟨rfl, k1⟩; have K0 := Lib.hid (ktr K0.out k1); clear k1 SR TR)
    | (go_at_call 28; (with_reducible refine (S3.out _ _ _ SR.out TR.out).mono ?_); rintro e w3 ⟨rfl, k1⟩; have K0 := Lib.hid (ktr K0.out k1); clear k1 SR TR)
    | (go_at_call 34; (with_reducible refine (E1.out _).mono ?_); rintro e w9 ⟨rfl, k1⟩; have K9 := Lib.hid (ktr (K0.out.alloc _) k1); clear k1))
  go_ret
  exact ⟨rfl, K9.out⟩

end Go.Proofs.Ytgccipmeiceonaa
