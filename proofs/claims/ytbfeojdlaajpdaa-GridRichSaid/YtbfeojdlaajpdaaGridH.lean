/-
  What Solve of package grid does: whatever holds of all dues and is kept when the last due of a short party goes holds of the result.
-/
import Derived.Test.YtbfeojdlaajpdaaGridG
namespace Go.Proofs.Ytbfeojdlaajpdaa
open Go.RowKit
set_option linter.unusedVariables false

/-- rising indices of dues -/
def okD (n : Nat) (ds : List Nat) : Prop := incN 0 ds ∧ ∀ i ∈ ds, i < n
theorem okD_range (n : Nat) : okD n (List.range n) := ⟨incN_range n, fun i hi => List.mem_range.1 hi⟩
theorem okD_erase {n : Nat} {ds : List Nat} (h : okD n ds) (k : Nat) : okD n (ds.eraseIdx k) := ⟨incN_erase h.1 k, fun i hi => h.2 i (List.mem_of_mem_eraseIdx hi)⟩
/-- kept when the last due of a short party goes -/
def keptS (has : List Int) (ps : List (Int × Int × Int)) (I : List Nat → Prop) : Prop :=
  ∀ ds q k, I ds → okD ps.length ds → q < 31 → (settleF ps has ds).getD q 0 < 0 → k < ds.length → (ps.getD (ds.getD k 0) default).1 = ((q : Nat) : Int) → (∀ j, k < j → j < ds.length → (ps.getD (ds.getD j 0) default).1 ≠ ((q : Nat) : Int)) → I (ds.eraseIdx k)
/-- what holds of the result -/
def SolveOk (w : World) (has : List Int) (ps : List (Int × Int × Int)) (I : List Nat → Prop) (e : Ending) (w' : World) : Prop :=
  ∃ ds : List Nat, I ds ∧ okD ps.length ds ∧ (∀ q, q < 31 → ¬ (settleF ps has ds).getD q 0 < 0) ∧ ∃ g cap, e = .returned (.tuple #[.slice (some ⟨g, 0, none⟩) ds.length cap, .int .i64 0]) ∧ ds.length ≤ cap ∧ w.heap.size ≤ g ∧ OwnI w' g (ints ds)

set_option maxHeartbeats 4000000 in
theorem solve_run (v vl : Value) (has : List Int) (ps : List (Int × Int × Int)) (I : List Nat → Prop) (w : World) (hr : Reads w v has) (hp : ReadsP w vl ps) (hg : gridE has ps = 0) (h0 : I (List.range ps.length)) (hI : keptS has ps I) :
    Calls Try.prog 14 #[v, vl] w fun e w' => SolveOk w has ps I e w' ∧ Kpt w w' := by
  have GC := Lib.hid (gridCheck_run v vl has ps w hr hp)
  rw [hg] at GC
  obtain ⟨h31, -, hm60, -, -⟩ := grid_0 hg
  have SR := Lib.hid (fun (w' : World) (ds : List Nat) (vd : Value) (g : Kpt w w') (hd : Reads w' vd (ints ds)) (ho : okD ps.length ds) => settle_run v vl vd has ps ds w' (hr.kpt g) (hp.kpt g) hd hg ho.1 ho.2)
  have LR := Lib.hid (fun (w' : World) (ds : List Nat) (vd : Value) (q k : Nat) (g : Kpt w w') (hd : Reads w' vd (ints ds)) (ho : okD ps.length ds) (hk : k < ds.length) (h1 : (ps.getD (ds.getD k 0) default).1 = (q : Int)) (h2 : ∀ j, k < j → j < ds.length → (ps.getD (ds.getD j 0) default).1 ≠ (q : Int)) =>
    last_run (q : Int) vl vd ps (ints ds) k w' (hp.kpt g) hd (fun j hj => by
      rw [ints_len] at hj
      rw [cast_at]
      have := ho.2 (ds.getD j 0) (by rw [List.getD_eq_getElem?_getD, List.getElem?_eq_getElem hj]; simp)
      omega) (by rw [ints_len]; exact hk) (by rw [cast_at, Int.toNat_natCast]; exact h1) (fun j h3 h4 => by rw [ints_len] at h4; rw [cast_at, Int.toNat_natCast]; exact h2 j h3 h4))
  have FS := Lib.hid (fun (w' : World) g cap (L : List Int) (hl : L.length = 31) (h : OwnI w' g L) => show Calls Try.prog 46 #[.slice (some ⟨g, 0, none⟩) 31 cap] w' _ from hl ▸ firstShort_run (.slice (some ⟨g, 0, none⟩) L.length cap) L w' (h.reads (by unfold maxLen; omega) cap))
  have LD := Lib.hid (fun (ds : List Nat) (ho : okD ps.length ds) (q : Nat) (hq : q < 31) hs => last_due hg ho.2 (q := q) hq hs)
  have SL := Lib.hid (fun ds : List Nat => (settle_len ps ds has).trans h31)
  have HI := Lib.hid hI
  have H0 := Lib.hid h0
  have HOK := Lib.hid (okD_range ps.length)
  have LEN := Lib.hid (fun (ds : List Nat) (ho : okD ps.length ds) => incN_len ho.1 ho.2 (Nat.zero_le _))
  obtain ⟨pa, pcap, rfl, -, -, -, -⟩ := hp
  clear hr hg h0 hI h31
  go_enter Try.func14, Try.ntmps14
  go_wp2_with (go_at_call 21; (with_reducible refine GC.out.mono ?_); rintro e w1 ⟨rfl, g1⟩; have MK := run_zeros w1 ps.length (by omega); have RW := Lib.hid (Row.made w1 ps.length); have K1 := Lib.hid g1.kpt; have HG1 := Lib.hid g1.kpt.size; clear g1)
  have K2 := Lib.hid (K1.out.alloc (.cells (Array.replicate ps.length (Value.int .i64 0)) 3))
  have HO0 : Hid (OwnI (w1.alloc (.cells (Array.replicate ps.length (Value.int .i64 0)) 3)) w1.heap.size (fillN ps.length 0)) := by
    unfold Hid
    rw [fill_zero]
    refine ⟨((List.replicate ps.length (0 : Int)).map (Value.int .i64)).toArray, RW.out, by simp, fun j hj => ?_⟩
    rw [List.getElem?_toArray]
    exact getD_map _ j hj
  go_loopw [22] (fun i wr => ∃ k : Nat, k ≤ ps.length ∧ i = .int .i64 k ∧ Hid (OwnI wr w1.heap.size (fillN ps.length k)) ∧ Hid (Kpt w wr)) (fun i _ => ps.length - (intOf i).toNat)
  case atStart => exact ⟨0, Nat.zero_le _, rfl, HO0.out, K2.out⟩
  case round =>
    obtain ⟨k, hk, rfl, HO, HK⟩ := hrel
    by_cases hlt : k < ps.length
    · have c0 := HO.out.cell (show k < (fillN ps.length k).length by rw [fill_len]; exact hlt)
      have f0 := HO.out.frozen k
      generalize (fillN ps.length k).getD k 0 = z at c0
      go_wp2
      go_roundw
      case rel => exact ⟨k + 1, by omega, by go_num, by unfold Hid; rw [← fill_set]; exact HO.out.put k k, HK.out.setCell HG1.out _⟩
      case measure => simp [intOf]; omega
    · obtain rfl : k = ps.length := by omega
      rw [fill_all] at HO
      clear RW HO0 MK
      go_wp2
      generalize w1.heap.size = g at HO HG1 ⊢
      go_loopw [7] (fun d wr => ∃ (ds : List Nat) (m : Nat), d = .slice (some ⟨g, 0, none⟩) m ps.length ∧ m ≤ ps.length ∧ Hid (m = ds.length ∧ I ds ∧ okD ps.length ds) ∧ Hid (OwnI wr g (ints ds)) ∧ Hid (Kpt w wr)) (fun d _ => slen d)
      case atStart => exact ⟨List.range ps.length, ps.length, rfl, Nat.le_refl _, ⟨by simp, H0.out, HOK.out⟩, HO.out, HK.out⟩
      case round =>
        obtain ⟨ds, m, rfl, hmn, HD, HO2, HK2⟩ := hrel
        have RD := Lib.hid (fun (w' : World) (h : OwnI w' g (ints ds)) => show Reads w' (.slice (some ⟨g, 0, none⟩) m ps.length) (ints ds) from by
          have := h.reads (by rw [ints_len, ← HD.out.1]; unfold maxLen; omega) ps.length
          rw [ints_len, ← HD.out.1] at this
          exact this)
        have S1 := Lib.hid (SR.out _ ds _ HK2.out (RD.out _ HO2.out) HD.out.2.2)
        have F1 := Lib.hid (fun w' g' cap' h => FS.out w' g' cap' (settleF ps has ds) (SL.out ds) h)
        rcases negI_cases (settleF ps has ds) with ⟨hn, hall⟩ | ⟨q, hq, hn, hs⟩
        · rw [hn] at F1
          have HALL : Hid (∀ q, q < 31 → ¬ (settleF ps has ds).getD q 0 < 0) := fun q hq => hall q (by rw [SL.out]; exact hq)
          clear hn hall
          go_wp2_with (first
            | (go_at_call 47; (with_reducible refine S1.out.mono ?_); rintro e w2 ⟨⟨g2, cap2, rfl, -, -, ho⟩, k2⟩; have HL2 := Lib.hid ho; have K3 := Lib.hid (ktr HK2.out k2); have HO3 := Lib.hid (HO2.out.kpt k2); clear k2 ho)
            | (go_at_call 46; (with_reducible refine (F1.out _ _ _ HL2.out).mono ?_); rintro e w3 ⟨rfl, k3⟩; have K4 := Lib.hid (ktr K3.out k3); have HO4 := Lib.hid (HO3.out.kpt k3); clear k3))
          exact bodyPost_ret (v := .tuple #[.slice (some ⟨g, 0, none⟩) m ps.length, .int .i64 0]) (by simp [results, Try.results14, go_sem]) rfl ⟨⟨ds, HD.out.2.1, HD.out.2.2, fun q hq => by have := HALL.out q hq; omega, g, ps.length, by rw [HD.out.1], by rw [← HD.out.1]; exact hmn, HG1.out, HO4.out⟩, K4.out⟩
        · rw [hn] at F1
          rw [SL.out] at hq
          obtain ⟨k, hk, h1, h2⟩ := LD.out ds HD.out.2.2 q hq hs
          have HKM : Hid (k < m) := by unfold Hid; rw [HD.out.1]; exact hk
          have L1 := Lib.hid (fun w' (g' : Kpt w w') (h : OwnI w' g (ints ds)) => LR.out w' ds _ q k g' (RD.out _ h) HD.out.2.2 hk h1 h2)
          have HNX := Lib.hid (HI.out ds q k HD.out.2.1 HD.out.2.2 hq hs hk h1 h2)
          have DL := Lib.hid (fun w' (h : OwnI w' g (ints ds)) => delI_run g m ps.length k (ints ds) w' h (by rw [ints_len]; exact HD.out.1) hmn (by omega) HKM.out)
          have hkm := HKM.out
          clear hn hs hk h1 h2
          go_wp2_with (first
            | (go_at_call 47; (with_reducible refine S1.out.mono ?_); rintro e w2 ⟨⟨g2, cap2, rfl, -, -, ho⟩, k2⟩; have HL2 := Lib.hid ho; have K3 := Lib.hid (ktr HK2.out k2); have HO3 := Lib.hid (HO2.out.kpt k2); clear k2 ho)
            | (go_at_call 46; (with_reducible refine (F1.out _ _ _ HL2.out).mono ?_); rintro e w3 ⟨rfl, k3⟩; have K4 := Lib.hid (ktr K3.out k3); have HO4 := Lib.hid (HO3.out.kpt k3); clear k3)
            | (go_at_call 48; (with_reducible refine (L1.out _ K4.out HO4.out).mono ?_); rintro e w4 ⟨rfl, k4⟩; have K5 := Lib.hid (ktr K4.out k4); have HO5 := Lib.hid (HO4.out.kpt k4); clear k4)
            | (go_at_call 49; (with_reducible refine (DL.out _ HO5.out).mono ?_); rintro e w5 ⟨rfl, ho, hk5⟩; have K6 := Lib.hid (hk5 _ K5.out HG1.out); have HO6 := Lib.hid ho; clear ho hk5))
          go_roundw
          case rel => exact ⟨ds.eraseIdx k, m - 1, rfl, by omega, ⟨by rw [HD.out.1] at hkm ⊢; rw [List.length_eraseIdx_of_lt hkm], HNX.out, okD_erase HD.out.2.2 k⟩, by unfold Hid; rw [ints_erase]; exact HO6.out, K6.out⟩
          case measure => simp [slen]; omega

end Go.Proofs.Ytbfeojdlaajpdaa
