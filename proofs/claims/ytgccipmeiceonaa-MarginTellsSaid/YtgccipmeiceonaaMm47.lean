/-
  Merged: RefMar3.
-/
import Derived.Test.YtgccipmeiceonaaMm46
import Derived.Test.YtgccipmeiceonaaMm28
import Derived.Test.YtgccipmeiceonaaMm43
import Derived.Test.YtgccipmeiceonaaMm45
-- RefMar3
namespace Go.Proofs.Ytgccipmeiceonaa
open Go.RowKit
set_option linter.unusedVariables false

def owZ1 (ps : List Int) (party : Int) (l : List Int) : List Int := if l.getD 1 0 = party then [opF l * ps.getD (l.getD 4 0 - 1).toNat 0 / 10000] else []
def owZ (ps : List Int) (party : Int) (fs : List (List Int)) : List Int := fs.flatMap (owZ1 ps party)
theorem owZ_take {ps : List Int} {party : Int} {fs : List (List Int)} {k : Nat} (hk : k < fs.length) : owZ ps party (fs.take (k + 1)) = owZ ps party (fs.take k) ++ owZ1 ps party (fs.getD k []) := by
  unfold owZ
  rw [List.take_succ_eq_append_getElem hk, List.flatMap_append, List.getD_eq_getElem?_getD, List.getElem?_eq_getElem hk]
  simp
theorem owZ_len (ps : List Int) (party : Int) (fs : List (List Int)) : (owZ ps party fs).length ≤ fs.length := by
  induction fs with
  | nil => simp [owZ]
  | cons l fs ih =>
    have : (owZ ps party (l :: fs)) = owZ1 ps party l ++ owZ ps party fs := by simp [owZ]
    rw [this, List.length_append, List.length_cons]
    have h1 : (owZ1 ps party l).length ≤ 1 := by unfold owZ1; split <;> simp
    omega
theorem owZ_sum (ps : List Int) (party : Int) (fs : List (List Int)) : (owZ ps party fs).sum = owS ps party fs := by
  induction fs with
  | nil => simp [owZ, owS]
  | cons l fs ih =>
    have e1 : (owZ ps party (l :: fs)) = owZ1 ps party l ++ owZ ps party fs := by simp [owZ]
    have e2 : owS ps party (l :: fs) = ow1 ps party l + owS ps party fs := by unfold owS; rw [List.map_cons, List.sum_cons]
    rw [e1, e2, List.sum_append, ih]
    congr 1
    unfold owZ1 ow1
    split <;> simp
theorem owZ_amt {ps : List Int} {party : Int} {fs : List (List Int)} (hp : PrsOk ps) (h : ∀ l ∈ fs, failEL l = 0) : ∀ z ∈ owZ ps party fs, amtB z = true := by
  intro z hz
  obtain ⟨l, hl, hz⟩ := List.mem_flatMap.1 hz
  have b := ow1_bd hp (party := party) (h l hl)
  unfold owZ1 at hz
  split at hz
  · next e =>
    rw [List.mem_singleton.1 hz]
    unfold ow1 at b
    rw [if_pos e] at b
    exact amt_mk (by omega) (by omega)
  · cases hz
theorem ten_cells {w w' : World} {g o : Nat} {l : List Int} (h : FlAt w g o l) (k : Kpt w w') : w'.cell? ⟨g, o, none⟩ = some (.int .i64 (l.getD 0 0)) ∧ w'.cell? ⟨g, o + 1, none⟩ = some (.int .i64 (l.getD 1 0)) ∧ w'.cell? ⟨g, o + 2, none⟩ = some (.int .i64 (l.getD 2 0)) ∧ w'.cell? ⟨g, o + 3, none⟩ = some (.int .i64 (l.getD 3 0)) ∧ w'.cell? ⟨g, o + 4, none⟩ = some (.int .i64 (l.getD 4 0)) ∧ w'.cell? ⟨g, o + 5, none⟩ = some (.int .i64 (l.getD 5 0)) ∧ w'.cell? ⟨g, o + 6, none⟩ = some (.int .i64 (l.getD 6 0)) ∧ w'.cell? ⟨g, o + 7, none⟩ = some (.int .i64 (l.getD 7 0)) ∧ w'.cell? ⟨g, o + 8, none⟩ = some (.int .i64 (l.getD 8 0)) ∧ w'.cell? ⟨g, o + 9, none⟩ = some (.int .i64 (l.getD 9 0)) := by
  have h' := h.kpt k
  exact ⟨h' 0 (by decide), h' 1 (by decide), h' 2 (by decide), h' 3 (by decide), h' 4 (by decide), h' 5 (by decide), h' 6 (by decide), h' 7 (by decide), h' 8 (by decide), h' 9 (by decide)⟩

set_option maxHeartbeats 2000000 in
theorem rnd_no (v u : Value) (fs : List (List Int)) (ps : List Int) (party rate : Int) (w : World) (hl : ReadsF w v fs) (hr : Reads w u ps) (E : Int) (h0 : E ≠ 0) (hE : orE (checksE fs) (orE (prsE ps) (if rteB party rate = true then 0 else 3)) = E) :
    Calls Try.prog 30 #[v, u, .int .i64 party, .int .i64 rate] w fun e w' => e = .returned (.tuple #[.int .i64 0, .int .i64 E]) ∧ Kpt w w' := by
  have FC := Lib.hid (rfcs_run v fs w hl)
  have PC := Lib.hid (fun w' (k : Kpt w w') => rprs_run u ps w' (hr.kpt k))
  have q0 : (E == 0) = false := beq_eq_false_iff_ne.2 h0
  have q1 : (E != 0) = true := bne_iff_ne.2 h0
  by_cases h1 : checksE fs = 0
  · rw [orE_r h1] at hE
    rw [h1] at FC
    by_cases h2 : prsE ps = 0
    · rw [orE_r h2] at hE
      rw [h2] at PC
      have hB : rteB party rate = false := by
        cases hx : rteB party rate with
        | false => rfl
        | true => rw [hx, if_pos rfl] at hE; exact absurd hE.symm h0
      rw [hB, if_neg (by decide)] at hE
      subst hE
      have hn := of_decide_eq_false hB
      by_cases hp : 0 ≤ party ∧ party ≤ 30
      · have BP := Lib.hid (fun w => rbt_any party 0 30 true (by unfold btw; exact decide_eq_true hp) w)
        have BR := Lib.hid (fun w => rbt_any rate 0 10000 false (by unfold btw; exact decide_eq_false (by omega)) w)
        clear hn hp hB h1 h2 hl hr h0
        go_enter Try.func30, Try.ntmps30
        go_wp2_with (first
          | (go_at_call 86; (with_reducible refine (FC.out).mono ?_); rintro e w1 ⟨rfl, k1⟩; have K1 := Lib.hid k1; clear k1)
          | (go_at_call 13; (with_reducible refine (PC.out _ K1.out).mono ?_); rintro e w2 ⟨rfl, rfl⟩)
          | (go_at_call 61; (with_reducible refine (BP.out _).mono ?_); rintro e w3 ⟨rfl, rfl⟩)
          | (go_at_call 61; (with_reducible refine (BR.out _).mono ?_); rintro e w3 ⟨rfl, rfl⟩)
          | fail)
        go_ret2
        exact ⟨rfl, K1.out⟩
      · have BP := Lib.hid (fun w => rbt_any party 0 30 false (by unfold btw; exact decide_eq_false hp) w)
        clear hn hp hB h1 h2 hl hr h0
        go_enter Try.func30, Try.ntmps30
        go_wp2_with (first
          | (go_at_call 86; (with_reducible refine (FC.out).mono ?_); rintro e w1 ⟨rfl, k1⟩; have K1 := Lib.hid k1; clear k1)
          | (go_at_call 13; (with_reducible refine (PC.out _ K1.out).mono ?_); rintro e w2 ⟨rfl, rfl⟩)
          | (go_at_call 61; (with_reducible refine (BP.out _).mono ?_); rintro e w3 ⟨rfl, rfl⟩)
          | fail)
        go_ret2
        exact ⟨rfl, K1.out⟩
    · rw [orE_l _ h2] at hE
      rw [hE] at PC
      clear h1 h2 hl hr h0 hE
      go_enter Try.func30, Try.ntmps30
      go_wp2_with (first
        | (go_at_call 86; (with_reducible refine (FC.out).mono ?_); rintro e w1 ⟨rfl, k1⟩; have K1 := Lib.hid k1; clear k1)
        | (go_at_call 13; (with_reducible refine (PC.out _ K1.out).mono ?_); rintro e w2 ⟨rfl, rfl⟩)
        | fail)
      go_ret2
      exact ⟨rfl, K1.out⟩
  · rw [orE_l _ h1] at hE
    rw [hE] at FC
    clear h1 hl hr h0 hE PC
    go_enter Try.func30, Try.ntmps30
    go_wp2_with (first
      | (go_at_call 86; (with_reducible refine (FC.out).mono ?_); rintro e w1 ⟨rfl, k1⟩; have K1 := Lib.hid k1; clear k1)
      | fail)
    go_ret2
    exact ⟨rfl, K1.out⟩

set_option maxRecDepth 100000 in
set_option maxHeartbeats 8000000 in
theorem rnd_ok (a ap : Option Addr) (n cap np cp : Nat) (fs : List (List Int)) (ps : List Int) (party rate : Int) (w : World) (hl : ReadsF w (.slice a n cap) fs) (hr : Reads w (.slice ap np cp) ps) (hn : n = fs.length) (h1 : checksE fs = 0) (h2 : prsE ps = 0) (hB : rteB party rate = true) :
    Calls Try.prog 30 #[.slice a n cap, .slice ap np cp, .int .i64 party, .int .i64 rate] w fun e w' => e = .returned (.tuple #[.int .i64 (if amtB (owS ps party fs) = true then owS ps party fs * rate / 10000 else 0), .int .i64 (amE (owS ps party fs))]) ∧ Kpt w w' := by
  have hps := prsOk h2
  obtain ⟨h60, hs⟩ := checks_0 h1
  have FC := Lib.hid (rfcs_run _ fs w hl)
  rw [h1] at FC
  have PC := Lib.hid (fun w' (k : Kpt w w') => rprs_run _ ps w' (hr.kpt k))
  rw [h2] at PC
  have rb := of_decide_eq_true hB
  have BP := Lib.hid (fun w => rbt_any party 0 30 true (by unfold btw; exact decide_eq_true ⟨rb.1, rb.2.1⟩) w)
  have BR := Lib.hid (fun w => rbt_any rate 0 10000 true (by unfold btw; exact decide_eq_true rb.2.2) w)
  obtain ⟨zz, hzz⟩ : ∃ zz : Nat → List Int, ∀ k, owZ ps party (fs.take k) = zz k := ⟨_, fun _ => rfl⟩
  have ML : Hid (zz 0 = []) := by unfold Hid; rw [← hzz]; rfl
  have HT : Hid (∀ k, k < n → zz (k + 1) = zz k ++ owZ1 ps party (fs.getD k [])) := fun k hk => by rw [← hzz, ← hzz]; exact owZ_take (by omega)
  have HLN : Hid (∀ k, k ≤ n → (zz k).length ≤ 60) := fun k hk => by rw [← hzz]; have := owZ_len ps party (fs.take k); rw [List.length_take] at this; omega
  have SM : Hid ((zz n).sum = owS ps party fs) := by unfold Hid; rw [← hzz, List.take_of_length_le (by omega)]; exact owZ_sum ps party fs
  have AM : Hid (∀ z ∈ zz n, amtB z = true) := by unfold Hid; rw [← hzz, List.take_of_length_le (by omega)]; exact owZ_amt hps hs
  have S0 := owS_bd hps (party := party) hs
  have HFL : Hid (∀ k, k < n → failEL (fs.getD k []) = 0) := fun k hk => by rw [List.getD_eq_getElem?_getD, List.getElem?_eq_getElem (by omega)]; exact hs _ (List.getElem_mem _)
  have HPR : Hid (∀ k, 0 ≤ ps.getD k 0 ∧ ps.getD k 0 ≤ 1099511627776) := fun k => hps.at_ k
  obtain ⟨aF, capF, eF, hmF, -, hcF⟩ := hl
  have HC : Hid (∀ k, k < n → ∃ g off, a = some ⟨g, off, none⟩ ∧ FlAt w g (off + k * 10) (fs.getD k [])) := by
    intro k hk
    injection eF with e1 e2 e3
    subst e1
    exact hcF k (by omega)
  obtain ⟨pb, po, rfl, rfl, hpc⟩ : ∃ b off, ap = some ⟨b, off, none⟩ ∧ np = 20 ∧ ∀ j, j < 20 → w.cell? ⟨b, off + j, none⟩ = some (.int .i64 (ps.getD j 0)) := by
    rcases hr.cell with ⟨e, _⟩ | ⟨_, b', off', cap', e, hc⟩
    · have := hps.1; rw [e] at this; simp at this
    · injection e with e1 e2 e3
      exact ⟨_, _, e1, by rw [e2, hps.1], fun j hj => hc j (by rw [hps.1]; exact hj)⟩
  have HP := Lib.hid hpc
  have hn60 : n ≤ 60 := by omega
  clear hr h1 h2 hB hs h60 hn hps eF hmF hcF hpc hzz
  generalize owS ps party fs = S at *
  obtain ⟨QQ, hQQ⟩ : ∃ Q, Q = (if amtB S = true then S * rate / 10000 else 0) := ⟨_, rfl⟩
  rw [← hQQ]
  have HQ1 : Hid (amtB S = true → QQ = S * rate / 10000) := fun h => hQQ.trans (if_pos h)
  have HQ0 : Hid (amtB S = false → QQ = 0) := fun h => hQQ.trans (if_neg (by rw [h]; decide))
  clear hQQ
  go_enter Try.func30, Try.ntmps30
  go_wp2_with (first
    | (go_at_call 86; (with_reducible refine (FC.out).mono ?_); rintro e w1 ⟨rfl, k1⟩; have K1 := Lib.hid k1; clear k1)
    | (go_at_call 13; (with_reducible refine (PC.out _ K1.out).mono ?_); rintro e w2 ⟨rfl, rfl⟩)
    | (go_at_call 61; (with_reducible refine (BP.out _).mono ?_); rintro e w3 ⟨rfl, rfl⟩)
    | (go_at_call 61; (with_reducible refine (BR.out _).mono ?_); rintro e w3 ⟨rfl, rfl⟩)
    | fail)
  go_loopw [11, 12] (fun m i wr => ∃ k : Nat, k ≤ n ∧ i = .int .i64 k ∧ Hid (Owns wr w.heap.size m (zz k)) ∧ Hid (Kpt w wr)) (fun _ i _ => n - (intOf i).toNat)
  case atStart => exact ⟨0, Nat.zero_le _, rfl, by unfold Hid; rw [ML.out]; exact Owns.nil _ _, K1.out⟩
  case round =>
    obtain ⟨k, hk, rfl, HO, HJ⟩ := hrel
    by_cases hlt : k < n
    · obtain ⟨g, off, rfl, hfa⟩ := HC.out k hlt
      have FL := HFL.out k hlt
      have HM := Lib.hid (HT.out k hlt)
      have hln := HLN.out k hk
      have hk0 : (0 : Int) ≤ (k : Int) := by omega
      have hk1 : (k : Int) < (n : Int) := by omega
      obtain ⟨g0, g1, g2, g3, g4, g5, g6, g7, g8, g9⟩ := ten_cells hfa HJ.out
      generalize fs.getD k [] = l at *
      have fb := fl_bd FL
      obtain ⟨k4, e4⟩ : ∃ k : Nat, l.getD 4 0 = (k : Int) + 1 := ⟨(l.getD 4 0 - 1).toNat, by omega⟩
      have e5 : (l.getD 4 0 - 1).toNat = k4 := by omega
      have k20 : k4 < 20 := by omega
      have hU : l.getD 6 0 - l.getD 7 0 - l.getD 8 0 - l.getD 9 0 = opF l := rfl
      have FO := Lib.hid (fun w' => rfo_run (l.getD 0 0) (l.getD 1 0) (l.getD 2 0) (l.getD 3 0) (l.getD 4 0) (l.getD 5 0) (l.getD 6 0) (l.getD 7 0) (l.getD 8 0) (l.getD 9 0) w' fb.1 (by omega) (by omega) (by omega))
      rw [hU] at FO
      have hpr := HPR.out k4
      have cb := cost_bd fb.2.1 hpr
      have PF := Lib.hid (pof_is (a := opF l) (b := ps.getD k4 0) (c := 10000) (by omega) hpr (by omega) (by omega))
      have cp := HP.out k4 k20
      have i0 : (0 : Int) ≤ (k4 : Int) := by omega
      have i1 : (k4 : Int) < 20 := by omega
      have h5 : (k4 : Int) + 1 - 1 = k4 := by omega
      have h6 : IntKind.i64.wrap (k4 : Int) = k4 := IntWalk.i64_in _ (by omega)
      have hZ : owZ1 ps party l = if l.getD 1 0 = party then [opF l * ps.getD k4 0 / 10000] else [] := by unfold owZ1; rw [e5]
      rw [hZ] at HM
      rw [e4] at FO g4
      clear hZ e5 e4 hU FL hfa hpr cb fb
      have cq := HJ.out.cell cp
      by_cases hpy : l.getD 1 0 = party
      · rw [if_pos hpy] at HM
        have qp : (l.getD 1 0 == party) = true := beq_iff_eq.2 hpy
        clear hpy
        generalize opF l = U at *
        generalize ps.getD k4 0 = PR at *
        generalize U * PR / 10000 = V at *
        generalize U * PR % 10000 = R at *
        generalize l.getD 1 0 = z1 at *
        generalize l.getD 0 0 = z0 at *
        generalize l.getD 2 0 = z2 at *
        generalize l.getD 3 0 = z3 at *
        generalize l.getD 5 0 = z5 at *
        generalize l.getD 6 0 = z6 at *
        generalize l.getD 7 0 = z7 at *
        generalize l.getD 8 0 = z8 at *
        generalize l.getD 9 0 = z9 at *
        go_upto_region 13 with (first | fail)
        have f0 := cell_k (q := wr) g0
        have f1 := cell_k (q := wr) g1
        have f2 := cell_k (q := wr) g2
        have f3 := cell_k (q := wr) g3
        have f4 := cell_k (q := wr) g4
        have f5 := cell_k (q := wr) g5
        have f6 := cell_k (q := wr) g6
        have f7 := cell_k (q := wr) g7
        have f8 := cell_k (q := wr) g8
        have f9 := cell_k (q := wr) g9
        have fp := cell_k (q := wr) cq
        have mixed : Try.prog.follows .mixedOrders = true := by kernel_rfl
        refine quiet_k (q := wr) mixed (by kernel_rfl) ?_
        repeat (go_big_quiet_step (first | (go_at_call 67; with_reducible refine calls_k (FO.out _)) | (go_at_call 77; with_reducible refine calls_same (PF.out.run _)) | fail))
        refine wpQuiet_nil ?_
        intro w8 hw1
        obtain ⟨⟨wz, kz⟩, hw2⟩ := hw1
        have hw3 : w8 = wz := hw2
        clear hw2
        subst hw3
        have KZ := Lib.hid (ktr HJ.out kz)
        have OZ := Lib.hid (ow_kpt HO.out kz)
        clear kz f0 f1 f2 f3 f4 f5 f6 f7 f8 f9 fp
        go_wp2_with (first
          | (at_builtin; refine wp_append1 rfl (.tmp 71) (.tmp 73) rfl w.heap.size _ _ V w8 rfl OZ.out rfl (by omega) KZ.out.size ?_; intro v' w' h1 h2; have HO' : Hid (Owns w' w.heap.size v' (zz (k + 1))) := (by unfold Hid; rw [HM.out]; exact h1); have HJ' : Hid (Kpt w w') := Below.trans KZ.out h2; clear h1 h2)
          | fail)
        go_roundw
        case rel => exact ⟨k + 1, by omega, by go_num, HO'.out, HJ'.out⟩
        case measure => simp [intOf]; omega
      · rw [if_neg hpy, List.append_nil] at HM
        have qp : (l.getD 1 0 == party) = false := beq_eq_false_iff_ne.2 hpy
        clear hpy
        generalize l.getD 1 0 = z1 at *
        go_wp2
        go_roundw
        case rel => exact ⟨k + 1, by omega, by go_num, by unfold Hid; rw [HM.out]; exact HO.out, HJ.out⟩
        case measure => simp [intOf]; omega
    · obtain rfl : k = n := by omega
      have hln := HLN.out k (Nat.le_refl _)
      cases hS : amtB S with
      | true =>
        have SO := Lib.hid (fun v' w' base (h : Owns w' base v' (zz k)) => sumOw v' (zz k) _ h (by omega) AM.out SM.out hS)
        have E1 := Lib.hid (HQ1.out hS)
        have E2 := Lib.hid (am_ok hS).2
        have sb := amt_t hS
        have np := nd_part (S := S) (r := rate) ⟨by omega, by omega⟩ rb.2.2
        have RP := Lib.hid (rpart_is hS (rng_mk rb.2.2.1 (by omega) (by decide) (by decide)) (amt_mk (by omega) (by omega)) : RPart S rate 10000 _ _ 0)
        clear hS sb np HQ1 HQ0
        generalize S * rate / 10000 = V at *
        generalize S * rate % 10000 = R at *
        go_wp2_with (first
          | (go_at_call 85; (with_reducible refine (SO.out _ _ _ HO.out).mono ?_); rintro e w7 ⟨rfl, k7⟩; have K7 := Lib.hid (ktr HJ.out k7); clear k7)
          | (go_at_call 63; (with_reducible refine (RP.out.run _).mono ?_); rintro e w8 ⟨rfl, rfl⟩)
          | fail)
        go_ret2
        exact ⟨by rw [E1.out, E2.out]; rfl, K7.out⟩
      | false =>
        have SO := Lib.hid (fun v' w' base (h : Owns w' base v' (zz k)) => sumNo v' (zz k) _ h (by omega) AM.out SM.out hS)
        have E1 := Lib.hid (HQ0.out hS)
        have E2 := Lib.hid (am_no hS).2
        clear hS
        go_wp2_with (first
          | (go_at_call 85; (with_reducible refine (SO.out _ _ _ HO.out).mono ?_); rintro e w7 ⟨r7, rfl, k7⟩; have K7 := Lib.hid (ktr HJ.out k7); clear k7)
          | fail)
        go_ret2
        exact ⟨by rw [E1.out, E2.out]; rfl, K7.out⟩
theorem rnd_run (v u : Value) (fs : List (List Int)) (ps : List Int) (party rate : Int) (w : World) (hl : ReadsF w v fs) (hr : Reads w u ps) :
    Calls Try.prog 30 #[v, u, .int .i64 party, .int .i64 rate] w fun e w' => e = .returned (.tuple #[.int .i64 (ndV fs ps party rate), .int .i64 (ndE fs ps party rate)]) ∧ Kpt w w' := by
  by_cases h : orE (checksE fs) (orE (prsE ps) (if rteB party rate = true then 0 else 3)) = 0
  · obtain ⟨h1, h⟩ := orE_0 h
    obtain ⟨h2, h⟩ := orE_0 h
    have h3 : rteB party rate = true := by
      cases hx : rteB party rate with
      | true => rfl
      | false => rw [hx, if_neg (by decide)] at h; cases h
    have e1 : ndE fs ps party rate = amE (owS ps party fs) := by unfold ndE; rw [orE_r h1, orE_r h2, if_pos h3]
    have e2 : ndV fs ps party rate = if amtB (owS ps party fs) = true then owS ps party fs * rate / 10000 else 0 := by
      unfold ndV
      rw [e1]
      cases hS : amtB (owS ps party fs) with
      | true => rw [(am_ok hS).2, if_pos rfl, if_pos rfl]
      | false => rw [(am_no hS).2, if_neg (by decide), if_neg (by decide)]
    rw [e1, e2]
    obtain ⟨a, cap, rfl, -⟩ := _root_.id hl
    obtain ⟨ap, cp, rfl, -⟩ := _root_.id hr
    exact rnd_ok a ap _ cap _ cp fs ps party rate w hl hr rfl h1 h2 h3
  · have e1 : ndE fs ps party rate = orE (checksE fs) (orE (prsE ps) (if rteB party rate = true then 0 else 3)) := by
      unfold ndE
      by_cases h1 : checksE fs = 0
      · rw [orE_r h1] at h ⊢
        rw [orE_r h1]
        by_cases h2 : prsE ps = 0
        · rw [orE_r h2] at h ⊢
          rw [orE_r h2]
          cases hx : rteB party rate with
          | true => rw [hx, if_pos rfl] at h; exact absurd rfl h
          | false => rfl
        · rw [orE_l _ h2, orE_l _ h2]
      · rw [orE_l _ h1, orE_l _ h1]
    rw [show ndV fs ps party rate = 0 from if_neg (by rw [e1]; exact h), e1]
    exact rnd_no v u fs ps party rate w hl hr _ h rfl

end Go.Proofs.Ytgccipmeiceonaa
