/-
  What owed and Need of package margin do.
-/
import Derived.Test.YtlojdehjbcombaaMarG
namespace Go.Proofs.Ytlojdehjbcombaa
open Go.RowKit
set_option linter.unusedVariables false

/-- what is open of a fail that stands right -/
def opF (l : List Int) : Int := l.getD 6 0 - l.getD 7 0 - l.getD 8 0 - l.getD 9 0
theorem fl_bd {l : List Int} (h : failEL l = 0) : (1 ≤ l.getD 6 0 ∧ l.getD 6 0 ≤ 1073741824) ∧ (0 ≤ opF l ∧ opF l ≤ 1073741824) ∧ (0 ≤ l.getD 7 0 ∧ 0 ≤ l.getD 8 0 ∧ 0 ≤ l.getD 9 0) ∧ (1 ≤ l.getD 4 0 ∧ l.getD 4 0 ≤ 20) ∧ (0 ≤ l.getD 1 0 ∧ l.getD 1 0 ≤ 30) := by
  unfold failEL at h
  obtain ⟨h1, -, h3, h4⟩ := fail_0 h
  obtain ⟨-, -, h5, -, h7, h8⟩ := fdue_t h1
  obtain ⟨g1, g2, g3⟩ := ftk_t h3
  unfold opF
  omega
/-- what a party owes for one fail -/
def ow1 (ps : List Int) (party : Int) (l : List Int) : Int := if l.getD 1 0 = party then opF l * ps.getD (l.getD 4 0 - 1).toNat 0 / 10000 else 0
theorem ow1_bd {ps : List Int} (hp : PrsOk ps) {party : Int} {l : List Int} (h : failEL l = 0) : 0 ≤ ow1 ps party l ∧ ow1 ps party l ≤ 118059162071741130 := by
  unfold ow1
  split
  · exact cost_bd (fl_bd h).2.1 (hp.at_ _)
  · omega
/-- what a party owes for all -/
def owS (ps : List Int) (party : Int) (fs : List (List Int)) : Int := (fs.map (ow1 ps party)).sum
theorem owS_app (ps : List Int) (party : Int) (a b : List (List Int)) : owS ps party (a ++ b) = owS ps party a + owS ps party b := by unfold owS; rw [List.map_append, List.sum_append]
theorem owS_bd {ps : List Int} (hp : PrsOk ps) {party : Int} {fs : List (List Int)} (h : ∀ l ∈ fs, failEL l = 0) : 0 ≤ owS ps party fs ∧ owS ps party fs ≤ 118059162071741130 * (fs.length : Int) := by
  induction fs with
  | nil => exact ⟨Int.le_refl _, Int.le_refl _⟩
  | cons l fs ih =>
    have a := ow1_bd hp (party := party) (h l (by simp))
    have b := ih (fun q hq => h q (by simp [hq]))
    have e : owS ps party (l :: fs) = ow1 ps party l + owS ps party fs := by unfold owS; rw [List.map_cons, List.sum_cons]
    rw [e, List.length_cons]
    omega
theorem owS_take {ps : List Int} {party : Int} {fs : List (List Int)} {k : Nat} (hk : k < fs.length) : owS ps party (fs.take (k + 1)) = owS ps party (fs.take k) + ow1 ps party (fs.getD k []) := by
  rw [List.take_succ_eq_append_getElem hk, owS_app, List.getD_eq_getElem?_getD, List.getElem?_eq_getElem hk]
  simp [owS]
theorem owS_ok {ps : List Int} (hp : PrsOk ps) {party : Int} {fs : List (List Int)} (h : ∀ l ∈ fs, failEL l = 0) (h60 : fs.length ≤ 60) : okS (owS ps party fs) := by
  have b := owS_bd hp (party := party) h
  exact okS_mk (k := 60) (by decide) (by omega) (by omega)
theorem checks_0 {fs : List (List Int)} (h : checksE fs = 0) : fs.length ≤ 60 ∧ ∀ l ∈ fs, failEL l = 0 := by
  unfold checksE at h
  split at h
  · cases h
  · exact ⟨by omega, (ids_ok.1 h).1⟩

set_option maxHeartbeats 4000000 in
theorem owed_run (v u : Value) (fs : List (List Int)) (ps : List Int) (party : Int) (w : World) (hl : ReadsF w v fs) (hr : Reads w u ps) (hps : PrsOk ps) (hs : ∀ l ∈ fs, failEL l = 0) (h60 : fs.length ≤ 60) :
    Calls Try.prog 74 #[v, u, .int .i64 party] w fun e w' => e = .returned (.tuple #[.int .i64 (amV (owS ps party fs)), .int .i64 (amE (owS ps party fs))]) ∧ Kpt w w' := by
  obtain ⟨a, cap, rfl, hm, -, hc⟩ := hl
  have HR := Lib.hid hr
  obtain ⟨a2, cap2, rfl, hm2, hc2⟩ := hr
  unfold maxLen at hm hm2
  have HC := Lib.hid hc
  have HC2 := Lib.hid hc2
  have HS := Lib.hid hs
  have HW := Lib.hid (fun k (h : k < fs.length) => owS_take (ps := ps) (party := party) h)
  have HO := Lib.hid (fun k => owS_ok hps (party := party) (fs := fs.take k) (fun p hp => hs p (List.mem_of_mem_take hp)) (by rw [List.length_take]; omega))
  have HP := Lib.hid hps
  have DA : Hid (fs.take fs.length = fs) := List.take_of_length_le (Nat.le_refl _)
  have AM := Lib.hid (fun w' => amount_any (owS ps party fs) w')
  generalize amV (owS ps party fs) = av at *
  generalize amE (owS ps party fs) = ae at *
  have HM := Lib.hid (fun k (h : k < fs.length) => (getF_mem h : fs.getD k [] ∈ fs))
  obtain ⟨n, hn⟩ : ∃ n, n = fs.length := ⟨_, rfl⟩
  obtain ⟨m, hm0⟩ : ∃ m, m = ps.length := ⟨_, rfl⟩
  have M20 : Hid (m = 20) := by rw [hm0]; exact hps.1
  rw [← hn] at HC hm HW DA HM ⊢
  rw [← hm0] at HR HC2 hm2 ⊢
  clear hc hc2 hn hs hps h60 hm0
  go_enter Try.func74, Try.ntmps74
  go_wp2
  go_loopw [11, 12, 13, 14, 17] (fun x11 x12 x13 x14 ii wr => ∃ k : Nat, k ≤ n ∧ ii = .int .i64 (k : Int) ∧ Hid (Blk wr w.heap.size #[.int .i64 (hiOf (owS ps party (fs.take k))), .int .u64 (loOf (owS ps party (fs.take k)))] 127) ∧ Hid (Kpt w wr)) (fun _ _ _ _ ii _ => n - (intOf ii).toNat)
  case atStart => exact ⟨0, Nat.zero_le _, rfl, Blk.made _ _ _, (Kpt.refl w).alloc _⟩
  case round =>
    obtain ⟨k, hk, rfl, HB, HK⟩ := hrel
    by_cases hlt : k < n
    · obtain ⟨g, off, rfl, hfl⟩ := HC.out k hlt
      have hw := HW.out k hlt
      have hst := HS.out _ (HM.out k hlt)
      have ok := Lib.hid (HO.out k)
      have fb := fl_bd hst
      have ob := ow1_bd HP.out (party := party) hst
      obtain ⟨g3, off3, rfl, hpc⟩ := HC2.out ((fs.getD k []).getD 4 0 - 1).toNat (by have := M20.out; omega)
      have pb := HP.out.at_ ((fs.getD k []).getD 4 0 - 1).toNat
      have c0 : wr.cell? ⟨g, off + k * 10, none⟩ = _ := HK.out.cell (hfl 0 (by omega))
      have c1 : wr.cell? ⟨g, off + k * 10 + 1, none⟩ = _ := HK.out.cell (hfl 1 (by omega))
      have c2 : wr.cell? ⟨g, off + k * 10 + 2, none⟩ = _ := HK.out.cell (hfl 2 (by omega))
      have c3 : wr.cell? ⟨g, off + k * 10 + 3, none⟩ = _ := HK.out.cell (hfl 3 (by omega))
      have c4 : wr.cell? ⟨g, off + k * 10 + 4, none⟩ = _ := HK.out.cell (hfl 4 (by omega))
      have c5 : wr.cell? ⟨g, off + k * 10 + 5, none⟩ = _ := HK.out.cell (hfl 5 (by omega))
      have c6 : wr.cell? ⟨g, off + k * 10 + 6, none⟩ = _ := HK.out.cell (hfl 6 (by omega))
      have c7 : wr.cell? ⟨g, off + k * 10 + 7, none⟩ = _ := HK.out.cell (hfl 7 (by omega))
      have c8 : wr.cell? ⟨g, off + k * 10 + 8, none⟩ = _ := HK.out.cell (hfl 8 (by omega))
      have c9 : wr.cell? ⟨g, off + k * 10 + 9, none⟩ = _ := HK.out.cell (hfl 9 (by omega))
      have OPN := Lib.hid (fun w' => fopenX_run ((fs.getD k []).getD 0 0) ((fs.getD k []).getD 1 0) ((fs.getD k []).getD 2 0) ((fs.getD k []).getD 3 0) ((fs.getD k []).getD 4 0) ((fs.getD k []).getD 5 0) ((fs.getD k []).getD 6 0) ((fs.getD k []).getD 7 0) ((fs.getD k []).getD 8 0) ((fs.getD k []).getD 9 0) w')
      have hE : failE ((fs.getD k []).getD 0 0) ((fs.getD k []).getD 1 0) ((fs.getD k []).getD 2 0) ((fs.getD k []).getD 3 0) ((fs.getD k []).getD 4 0) ((fs.getD k []).getD 5 0) ((fs.getD k []).getD 6 0) ((fs.getD k []).getD 7 0) ((fs.getD k []).getD 8 0) ((fs.getD k []).getD 9 0) = 0 := hst
      have hV : openV ((fs.getD k []).getD 0 0) ((fs.getD k []).getD 1 0) ((fs.getD k []).getD 2 0) ((fs.getD k []).getD 3 0) ((fs.getD k []).getD 4 0) ((fs.getD k []).getD 5 0) ((fs.getD k []).getD 6 0) ((fs.getD k []).getD 7 0) ((fs.getD k []).getD 8 0) ((fs.getD k []).getD 9 0) = opF (fs.getD k []) := by unfold openV; rw [if_pos hE]; rfl
      rw [hE, hV] at OPN
      unfold ow1 at hw ob
      have CO := Lib.hid (fun w' => cost_priced fb.2.1 pb w')
      have hpc2 : w.cell? ⟨g3, off3 + ((fs.getD k []).getD 4 0 - 1).toNat, none⟩ = some (.int .i64 (ps.getD ((fs.getD k []).getD 4 0 - 1).toNat 0)) := hpc
      clear hpc hfl hE hV hst
      generalize opF (fs.getD k []) = o at *
      generalize ps.getD ((fs.getD k []).getD 4 0 - 1).toNat 0 = z at *
      generalize fs.getD k [] = l at *
      generalize l.getD 0 0 = i at *
      generalize l.getD 1 0 = f at *
      generalize l.getD 2 0 = t at *
      generalize l.getD 3 0 = c at *
      generalize l.getD 4 0 = p at *
      generalize l.getD 5 0 = d at *
      generalize l.getD 6 0 = u at *
      generalize l.getD 7 0 = x at *
      generalize l.getD 8 0 = b at *
      generalize l.getD 9 0 = y at *
      have ZB : Hid (Blk (wr.alloc (.cells #[.int .i64 0, .int .i64 0, .int .i64 0, .int .i64 0, .int .i64 0, .int .i64 0, .int .i64 0, .int .i64 0, .int .i64 0, .int .i64 0] 49)) wr.heap.size #[.int .i64 0, .int .i64 0, .int .i64 0, .int .i64 0, .int .i64 0, .int .i64 0, .int .i64 0, .int .i64 0, .int .i64 0, .int .i64 0] 49) := Blk.made _ _ _
      have KZ : Hid (Kpt wr (wr.alloc (.cells #[.int .i64 0, .int .i64 0, .int .i64 0, .int .i64 0, .int .i64 0, .int .i64 0, .int .i64 0, .int .i64 0, .int .i64 0, .int .i64 0] 49))) := (Kpt.refl _).alloc _
      have n2 : 1 ≤ p := fb.2.2.2.1.1
      have n3 : 0 ≤ p - 1 := by omega
      have n4 : p - 1 < (m : Int) := by have := M20.out; omega
      have n5 : -9223372036854775808 ≤ p - 1 := by omega
      have n6 : p - 1 ≤ 9223372036854775807 := by omega
      have n7 : IntKind.i64.wrap (p - 1) = p - 1 := IntWalk.i64_in _ (by omega)
      obtain ⟨j, hj⟩ : ∃ j, (p - 1).toNat = j := ⟨_, rfl⟩
      rw [hj] at hpc2
      have PC := Lib.hid hpc2
      clear hpc2 fb pb
      by_cases hf : f = party
      · have yf : (f != party) = false := by simpa using hf
        rw [if_pos hf] at hw ob
        have HW2 := Lib.hid hw
        clear hw hf
        generalize o * z / 10000 = q at *
        generalize cosR o z = r at *
        generalize owS ps party (fs.take k) = S at *
        go_wp2_with (first
          | (refine wp_storeF rfl (.tmp 10) (.tmp 20) rfl wr.heap.size _ _ rfl rfl ZB.out rfl rfl (by simp [Value.oneCell']) ?_; intro w9 r9 k9 o9; have R9 := Lib.hid r9; have K9 : Hid (Kpt wr w9) := k9 _ _ KZ.out (Nat.le_refl _); have e1 : w9.cell? ⟨wr.heap.size, 1, none⟩ = some (.int .i64 f) := R9.out.cell 1; have KK9 := Lib.hid (ktr HK.out K9.out); have B9 := Lib.hid (HB.out.kpt K9.out); clear r9 k9 o9)
          | (refine wp_loadF rfl (.tmp 10) rfl wr.heap.size _ rfl R9.out rfl ?_)
          | (go_at_call 32; (with_reducible refine (OPN.out _).mono ?_); rintro e wa ⟨rfl, ka⟩; have KA := Lib.hid (ktr KK9.out ka); have BA := Lib.hid (B9.out.kpt ka); have e4 : wa.cell? ⟨wr.heap.size, 4, none⟩ = some (.int .i64 p) := (R9.out.kpt ka).cell 4; have p0 : wa.cell? ⟨g3, off3 + j, none⟩ = some (.int .i64 z) := KA.out.cell PC.out; clear ka)
          | (go_at_call 85; (with_reducible refine (CO.out _).mono ?_); rintro e wb ⟨rfl, kb⟩; have KB := Lib.hid (ktr KA.out kb); have BB := Lib.hid (BA.out.kpt kb); have d0 : wb.cell? ⟨w.heap.size, 0, none⟩ = some (.int .i64 (hiOf S)) := BB.out.cell 0; have d1 : wb.cell? ⟨w.heap.size, 1, none⟩ = some (.int .u64 (loOf S)) := BB.out.cell 1; clear kb)
          | (go_at_call 97; (with_reducible refine (plus_at S q _ ok.out (by omega) (by omega)).mono ?_); rintro e w2 ⟨rfl, g1⟩; have B2 := Lib.hid (BB.out.grew g1); have d4 : w2.cell? ⟨w.heap.size, 0, none⟩ = some (.int .i64 (hiOf S)) := B2.out.cell 0; have d5 : w2.cell? ⟨w.heap.size, 1, none⟩ = some (.int .u64 (loOf S)) := B2.out.cell 1; have f0 := B2.out.frozen 0; have f1 := B2.out.frozen 1; have G2 := Lib.hid (ktr KB.out g1.kpt); clear g1))
        go_roundw
        case rel => exact ⟨k + 1, by omega, by go_num, by unfold Hid; rw [HW2.out]; exact (B2.out.put 0 _).put 1 _, (G2.out.setCell (Nat.le_refl _) _).setCell (Nat.le_refl _) _⟩
        case measure => simp [intOf]; omega
      · have yf : (f != party) = true := bne_iff_ne.2 hf
        rw [if_neg hf, Int.add_zero] at hw
        have HW2 := Lib.hid hw
        clear hw hf ob
        generalize owS ps party (fs.take k) = S at *
        go_wp2_with (first
          | (refine wp_storeF rfl (.tmp 10) (.tmp 20) rfl wr.heap.size _ _ rfl rfl ZB.out rfl rfl (by simp [Value.oneCell']) ?_; intro w9 r9 k9 o9; have R9 := Lib.hid r9; have K9 : Hid (Kpt wr w9) := k9 _ _ KZ.out (Nat.le_refl _); have e1 : w9.cell? ⟨wr.heap.size, 1, none⟩ = some (.int .i64 f) := R9.out.cell 1; have KK9 := Lib.hid (ktr HK.out K9.out); have B9 := Lib.hid (HB.out.kpt K9.out); clear r9 k9 o9))
        go_roundw
        case rel => exact ⟨k + 1, by omega, by go_num, by unfold Hid; rw [HW2.out]; exact B9.out, KK9.out⟩
        case measure => simp [intOf]; omega
    · obtain rfl : k = n := by omega
      rw [DA.out] at HB
      have c0 : wr.cell? ⟨w.heap.size, 0, none⟩ = some (.int .i64 (hiOf (owS ps party fs))) := HB.out.cell 0
      have c1 : wr.cell? ⟨w.heap.size, 1, none⟩ = some (.int .u64 (loOf (owS ps party fs))) := HB.out.cell 1
      generalize owS ps party fs = S at *
      go_wp2_with (go_at_call 106; (with_reducible refine (AM.out _).mono ?_); rintro e w2 ⟨rfl, k2⟩; have K2 := Lib.hid (ktr HK.out k2); clear k2)
      go_ret2
      exact ⟨rfl, K2.out⟩

/-- the error of a party and a rate -/
def rteB (party rate : Int) : Bool := decide (0 ≤ party ∧ party ≤ 30 ∧ 0 ≤ rate ∧ rate ≤ 10000)
/-- what Need answers -/
def ndE (fs : List (List Int)) (ps : List Int) (party rate : Int) : Int := orE (checksE fs) (orE (prsE ps) (if rteB party rate = true then amE (owS ps party fs) else 3))
def ndV (fs : List (List Int)) (ps : List Int) (party rate : Int) : Int := if ndE fs ps party rate = 0 then owS ps party fs * rate / 10000 else 0
theorem ndE_0 {fs : List (List Int)} {ps : List Int} {party rate : Int} (h : ndE fs ps party rate = 0) : checksE fs = 0 ∧ prsE ps = 0 ∧ (0 ≤ party ∧ party ≤ 30 ∧ 0 ≤ rate ∧ rate ≤ 10000) ∧ amtB (owS ps party fs) = true := by
  obtain ⟨h1, h2⟩ := orE_0 h
  obtain ⟨h3, h4⟩ := orE_0 h2
  by_cases a : rteB party rate = true
  · rw [if_pos a] at h4
    refine ⟨h1, h3, of_decide_eq_true a, ?_⟩
    cases c : amtB (owS ps party fs) with
    | true => rfl
    | false => rw [(am_no c).2] at h4; cases h4
  · rw [if_neg a] at h4; cases h4
theorem nd_part {S r : Int} (h0 : 0 ≤ S ∧ S ≤ 1152921504606846976) (hr : 0 ≤ r ∧ r ≤ 10000) : 0 ≤ S * r / 10000 ∧ S * r / 10000 ≤ 1152921504606846976 := by
  have a : 0 ≤ S * r := Int.mul_nonneg h0.1 hr.1
  have b : S * r ≤ 1152921504606846976 * 10000 := Int.mul_le_mul h0.2 hr.2 hr.1 (by omega)
  omega

end Go.Proofs.Ytlojdehjbcombaa
