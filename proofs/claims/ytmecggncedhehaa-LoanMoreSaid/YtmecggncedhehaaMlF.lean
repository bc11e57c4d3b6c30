/-
  Merged: LawLF.
-/
import Derived.Test.YtmecggncedhehaaMlb
import Derived.Test.YtmecggncedhehaaTogether
-- LawLF
namespace Go.Proofs.Ytmecggncedhehaa
open Go.RowKit Go.Lib
set_option linter.unusedVariables false

set_option maxRecDepth 100000 in
set_option maxHeartbeats 1000000 in
theorem fits_no (v : Value) (ps : List (Int × Int × Int)) (u : Int) (w : World) (hr : ReadsP w v ps) (hE : wantE ps u ≠ 0) : Calls Try.prog 8 #[v, .int .i64 u] w fun x w' => x = .returned (.bool true) ∧ Kpt w w' := by
  have S := Lib.hid (fun w' (k : Kpt w w') => lshare_bad v ps u w' (hr.kpt k) hE)
  have B := Lib.hid (fun w' (k : Kpt w w') => best_bad v ps u w' (hr.kpt k) hE)
  have q : (wantE ps u != 0) = true := bne_iff_ne.2 hE
  have K0 : Hid (Kpt w w) := Kpt.refl w
  clear hr hE
  generalize wantE ps u = E at *
  go_enter Try.func8, Try.ntmps8
  go_wp2_with (first
    | (go_at_call 26; (with_reducible refine (S.out _ K0.out).mono ?_); rintro e w1 ⟨rfl, k1⟩; have K0 := Lib.hid (ktr K0.out k1); clear k1)
    | (go_at_call 27; (with_reducible refine (B.out _ K0.out).mono ?_); rintro e w1 ⟨rfl, k1⟩; have K0 := Lib.hid (ktr K0.out k1); clear k1)
    | (go_at_call 34; (with_reducible refine (loanBegun _).mono ?_); rintro e w1 ⟨rfl, k1⟩; have K0 := Lib.hid (ktr K0.out k1); clear k1))
  go_ret
  exact ⟨rfl, K0.out⟩

set_option maxRecDepth 100000 in
set_option maxHeartbeats 4000000 in
theorem fits_ok (b off cap : Nat) (ps : List (Int × Int × Int)) (ss bs : List Int) (u : Int) (w : World) (hp : 0 < ps.length) (h40 : ps.length ≤ 40) (u0 : 0 ≤ u) (u1 : u ≤ 1073741824) (hl1 : ss.length = ps.length) (hl2 : bs.length = ps.length)
    (hf : ∀ j : Nat, j < ps.length → (0 ≤ ss.getD j 0 ∧ ss.getD j 0 ≤ (ps.getD j default).2.1) ∧ 0 ≤ bs.getD j 0 ∧ bs.getD j 0 ≤ (ps.getD j default).2.1) (hs1 : ss.sum = u) (hs2 : bs.sum = u) (hn1 : ∀ z ∈ ss, 0 ≤ z) (hn2 : ∀ z ∈ bs, 0 ≤ z)
    (hc : ∀ j, j < ps.length → PtAt w b (off + j * 3) (ps.getD j default)) (c : Int)
    (S0 : ∀ w', Kpt w w' → Calls Try.prog 26 #[.slice (some ⟨b, off, none⟩) ps.length cap, .int .i64 u] w' fun e w'' => ∃ g, e = .returned (.tuple #[.slice (some ⟨g, 0, none⟩) ps.length ps.length, .int .i64 0]) ∧ w'.heap.size ≤ g ∧ Row w'' g ss ∧ Kpt w' w'')
    (B0 : ∀ w', Kpt w w' → Calls Try.prog 27 #[.slice (some ⟨b, off, none⟩) ps.length cap, .int .i64 u] w' fun e w'' => ∃ g, e = .returned (.tuple #[.slice (some ⟨g, 0, none⟩) ps.length ps.length, .int .i64 c, .int .i64 0]) ∧ w'.heap.size ≤ g ∧ Row w'' g bs ∧ Kpt w' w'') :
    Calls Try.prog 8 #[.slice (some ⟨b, off, none⟩) ps.length cap, .int .i64 u] w fun x w' => x = .returned (.bool true) ∧ Kpt w w' := by
  have S := Lib.hid S0
  have B := Lib.hid B0
  have HF := Lib.hid hf
  have HC := Lib.hid hc
  have L1 := Lib.hid hl1
  have L2 := Lib.hid hl2
  have T1 : Hid (∀ w' g, Row w' g ss → Calls Try.prog 38 #[.slice (some ⟨g, 0, none⟩) ps.length ps.length] w' fun e w'' => e = .returned (.int .i64 u) ∧ Kpt w' w'') := fun w' g r => by
    have := together_kpt _ ss w' (r.reads (by unfold maxLen; omega) ss.length) (by omega) hn1 (by omega)
    rwa [hs1, hl1] at this
  have T2 : Hid (∀ w' g, Row w' g bs → Calls Try.prog 38 #[.slice (some ⟨g, 0, none⟩) ps.length ps.length] w' fun e w'' => e = .returned (.int .i64 u) ∧ Kpt w' w'') := fun w' g r => by
    have := together_kpt _ bs w' (r.reads (by unfold maxLen; omega) bs.length) (by omega) hn2 (by omega)
    rwa [hs2, hl2] at this
  have K0 : Hid (Kpt w w) := Kpt.refl w
  clear S0 B0 hf hc hl1 hl2 hs1 hs2 hn1 hn2
  go_enter Try.func8, Try.ntmps8
  go_wp2_with (first
    | (go_at_call 26; (with_reducible refine (S.out _ K0.out).mono ?_); rintro e w1 ⟨g1, rfl, _, r1, k1⟩; have K0 := Lib.hid (ktr K0.out k1); have R1 := Lib.hid r1; clear k1 r1)
    | (go_at_call 27; (with_reducible refine (B.out _ K0.out).mono ?_); rintro e w1 ⟨g2, rfl, _, r2, k1⟩; have K0 := Lib.hid (ktr K0.out k1); have R1 := Lib.hid (Row.kptL R1.out k1); have R2 := Lib.hid r2; clear k1 r2)
    | (go_at_call 34; (with_reducible refine (loanBegun _).mono ?_); rintro e w1 ⟨rfl, k1⟩; have K0 := Lib.hid (ktr K0.out k1); have R1 := Lib.hid (Row.kptL R1.out k1); have R2 := Lib.hid (Row.kptL R2.out k1); clear k1)
    | (go_at_call 38; first
        | ((with_reducible refine (T1.out _ _ R1.out).mono ?_); rintro e w1 ⟨rfl, k1⟩; have K0 := Lib.hid (ktr K0.out k1); have R1 := Lib.hid (Row.kptL R1.out k1); have R2 := Lib.hid (Row.kptL R2.out k1); clear k1)
        | ((with_reducible refine (T2.out _ _ R2.out).mono ?_); rintro e w1 ⟨rfl, k1⟩; have K0 := Lib.hid (ktr K0.out k1); have R1 := Lib.hid (Row.kptL R1.out k1); have R2 := Lib.hid (Row.kptL R2.out k1); clear k1)))
  go_loopw [10] (fun i wr => ∃ k : Nat, k ≤ ps.length ∧ i = .int .i64 k ∧ Hid (Row wr g1 ss) ∧ Hid (Row wr g2 bs) ∧ Hid (Kpt w wr)) (fun i _ => ps.length - (intOf i).toNat)
  case atStart => exact ⟨0, Nat.zero_le _, rfl, R1.out, R2.out, K0.out⟩
  case round =>
    obtain ⟨k, hk, rfl, HR1, HR2, HK⟩ := hrel
    clear R1 R2 K0
    by_cases hlt : k < ps.length
    · have c1 := HR1.out.cell (j := k) (by rw [L1.out]; exact hlt)
      have c2 := HR2.out.cell (j := k) (by rw [L2.out]; exact hlt)
      obtain ⟨-, c3, -⟩ := (HC.out k hlt).kpt HK.out
      have hb := HF.out k hlt
      generalize ss.getD k 0 = s at *
      generalize bs.getD k 0 = t at *
      generalize (ps.getD k default).2.1 = U at *
      have k0 : (0 : Int) ≤ (k : Int) := by omega
      have k1 : (k : Int) < ps.length := by omega
      have d1 : decide (s < 0) = false := decide_eq_false (by omega)
      have d2 : decide (U < s) = false := decide_eq_false (by omega)
      have d3 : decide (t < 0) = false := decide_eq_false (by omega)
      have d4 : decide (U < t) = false := decide_eq_false (by omega)
      clear hb
      go_wp2
      go_quiet (fail)
      go_wp2
      go_roundw
      case rel => exact ⟨k + 1, by omega, by go_num, HR1.out.below (below_drewN (Below.refl _ _) _) HR1.out.lt, HR2.out.below (below_drewN (Below.refl _ _) _) HR2.out.lt, HK.out.drewN _⟩
      case measure => simp [intOf]; omega
    · obtain rfl : k = ps.length := by omega
      go_wp2
      go_ret
      exact ⟨rfl, HK.out⟩

theorem nn_of {zs : List Int} {n : Nat} (hl : zs.length = n) (h : ∀ j : Nat, j < n → 0 ≤ zs.getD j 0) : ∀ z ∈ zs, 0 ≤ z := fun z hz => by
  obtain ⟨j, hj, rfl⟩ := List.getElem_of_mem hz
  have := h j (by omega)
  rwa [List.getD_eq_getElem?_getD, List.getElem?_eq_getElem hj] at this
theorem fits_plain (v : Value) (u : Int) (ps : List (Int × Int × Int)) (w : World) (hr : ReadsP w v ps) : Calls Try.prog 8 #[v, .int .i64 u] w fun x w' => x = .returned (.bool true) ∧ Kpt w w' := by
  by_cases hE : wantE ps u = 0
  · obtain ⟨h0, h1, h2⟩ := want_0 hE
    obtain ⟨h40, hall⟩ := loan_0 h0
    have hb := best_is hE
    have hw := unts_E hE
    have hp : 0 < ps.length := by
      have := List.length_pos_iff.2 (wts_ok hw).1
      rwa [unts_len] at this
    have hfit : ∀ j : Nat, j < ps.length → 0 ≤ (pbs u (unts ps)).getD j 0 ∧ (pbs u (unts ps)).getD j 0 ≤ (ps.getD j default).2.1 := fun j hj => by
      have := pbs_fit (by omega) hw h2 (i := j) (by rw [unts_len]; exact hj)
      rwa [unts_at hj] at this
    have hl : (pbs u (unts ps)).length = ps.length := by rw [pbs_len, unts_len]
    rcases id hr.cell with ⟨e, _⟩ | ⟨_, b, off, cap, rfl, hc⟩
    · rw [e] at hp; simp at hp
    · exact fits_ok b off cap ps (pbs u (unts ps)) (bestR ps u).1 u w hp h40 (by omega) h1.2 hl hb.len (fun j hj => ⟨hfit j hj, hb.bd j hj⟩) (pbs_sum (by omega) hw) hb.sum (nn_of hl fun j hj => (hfit j hj).1) (nn_of hb.len fun j hj => (hb.bd j hj).1) hc (bestR ps u).2
        (fun w' k => lshare_ok _ ps u w' (hr.kpt k) hE) (fun w' k => best_ok _ ps u w' (hr.kpt k) hE)
  · exact fits_no v ps u w hr hE

end Go.Proofs.Ytmecggncedhehaa
