/-
  ShareQuota: the law answers true.
-/
import Derived.Test.YteooglpipggeoaaLawMore
import Derived.Test.YteooglpipggeoaaTogether
namespace Go.Proofs.Yteooglpipggeoaa
open Go.RowKit Go.Lib
set_option linter.unusedVariables false

theorem shareQuota_err_pos (c : Int) (hc : 1 ≤ c) (Z T : Int) (hz : 0 < Z) (hmod : Z.tmod 1048576 = T) (v : Value) (w : World) (S : Calls Try.prog 15 #[.int .i64 T, v] w fun e w' => e = .returned (.tuple #[.slice none 0 0, .int .i64 c]) ∧ w = w') :
    Calls Try.prog 4 #[.int .i64 Z, v] w fun r w' => r = .returned (.bool true) ∧ Below w.heap.size w w' := by
  have HS := Lib.hid S
  clear S
  have q2 : (c != 0) = true := bne_iff_ne.2 (by omega)
  go_enter Try.func4, Try.ntmps4
  go_wp2_with (first
    | (go_at_call 15; (with_reducible refine HS.out.mono ?_); rintro e w' ⟨rfl, rfl⟩)
    | (go_at_call 19; (with_reducible refine (shareBegun _).mono ?_); rintro e w2 ⟨rfl, b2⟩))
  go_ret
  exact ⟨rfl, b2⟩

set_option maxRecDepth 100000 in
set_option maxHeartbeats 2000000 in
theorem shareQuota_ok_pos (b off cap : Nat) (zs : List Int) (Z T : Int) (hz : 0 < Z) (hmod : Z.tmod 1048576 = T) (hT : 0 ≤ T) (hT' : T ≤ 1048576) (w : World) (hr : Reads w (.slice (some ⟨b, off, none⟩) zs.length cap) zs) (hE : wtsE zs = 0) :
    Calls Try.prog 4 #[.int .i64 Z, .slice (some ⟨b, off, none⟩) zs.length cap] w fun r w' => r = .returned (.bool true) ∧ Below w.heap.size w w' := by
  have HS := Lib.hid (parts_back b off cap zs T hT (by omega) w hr hE)
  obtain ⟨h0, hm, hall, _, hS, hSb, hz0⟩ := wts_ok hE
  have hp : 0 < zs.length := List.length_pos_iff.2 h0
  have HL := Lib.hid (pbs_len T zs)
  have HQ : Hid (∀ i : Nat, i < zs.length → 0 ≤ (pbs T zs).getD i 0 ∧ (pbs T zs).getD i 0 ≤ T ∧ (pbs T zs).getD i 0 * zs.sum < T * zs.getD i 0 + zs.sum ∧ T * zs.getD i 0 - zs.sum < (pbs T zs).getD i 0 * zs.sum) := fun i hi => pbs_quota hT hE hi
  have HSUM := Lib.hid (pbs_sum hT hE)
  have HN : Hid (∀ z ∈ pbs T zs, 0 ≤ z) := fun z hz => by
    obtain ⟨j, hj, rfl⟩ := List.getElem_of_mem hz
    have := (pbs_quota (T := T) hT hE (i := j) (by rw [pbs_len] at hj; exact hj)).1
    rw [List.getD_eq_getElem?_getD, List.getElem?_eq_getElem hj] at this
    exact this
  have HWB := Lib.hid (fun k => wt_at hall k)
  have TW : Hid (∀ w', Kpt w w' → Calls Try.prog 23 #[.slice (some ⟨b, off, none⟩) zs.length cap] w' fun e w'' => e = .returned (.int .i64 zs.sum) ∧ Kpt w' w'') := fun w' k => together_kpt _ zs w' (hr.kpt k) hp hz0 (by omega)
  have HR := Lib.hid (show ∀ j, j < zs.length → w.cell? ⟨b, off + j, none⟩ = some (.int .i64 (zs.getD j 0)) by
    rcases hr.cell with ⟨rfl, _⟩ | ⟨_, b', off', cap', e, hc⟩
    · exact absurd rfl h0
    · injection e with e1 e2 e3
      injection e1 with e1
      injection e1 with e1 e2
      subst e1 e2
      exact hc)
  clear hr hE h0 hall hz0
  generalize pbs T zs = ss at HS HL HQ HSUM HN
  obtain ⟨S, hSS⟩ : ∃ S, zs.sum = S := ⟨_, rfl⟩
  rw [hSS] at HQ TW hS hSb
  clear hSS
  have TP : Hid (∀ w1 g, Row w1 g ss → Calls Try.prog 23 #[.slice (some ⟨g, 0, none⟩) zs.length zs.length] w1 fun e w'' => e = .returned (.int .i64 T) ∧ Kpt w1 w'') := fun w1 g r => by
    have := together_kpt _ ss w1 (r.reads (by rw [HL.out]; unfold maxLen; omega) zs.length) (by rw [HL.out]; exact hp) HN.out (by rw [HSUM.out]; omega)
    rw [HSUM.out, HL.out] at this
    exact this
  go_enter Try.func4, Try.ntmps4
  go_wp2_with (first
    | (go_at_call 15; (with_reducible refine HS.out.mono ?_); rintro e w1 ⟨g, rfl, r1, b1⟩; have R1 := Lib.hid r1; have B1 : Hid (Kpt w w1) := b1; clear r1 b1)
    | (go_at_call 19; (with_reducible refine (shareBegun _).mono ?_); rintro e w2 ⟨rfl, b2⟩; have R2 := Lib.hid (R1.out.on b2); have B2 : Hid (Kpt w w2) := ktr B1.out b2; clear b2)
    | (go_at_call 23; (with_reducible refine (TW.out _ B2.out).mono ?_); rintro e w3 ⟨rfl, b3⟩; have R3 := Lib.hid (R2.out.on b3); have B3 : Hid (Kpt w w3) := ktr B2.out b3; clear b3))
  go_loopw [8] (fun i wr => ∃ k : Nat, k ≤ zs.length ∧ i = .int .i64 k ∧ Hid (Row wr g ss) ∧ Hid (Kpt w wr)) (fun i _ => zs.length - (intOf i).toNat)
  case atStart => exact ⟨0, Nat.zero_le _, rfl, R3.out, B3.out⟩
  case round =>
    obtain ⟨k, hk, rfl, HA, HK⟩ := hrel
    by_cases hlt : k < zs.length
    · have c1 := HA.out.cell (j := k) (by rw [HL.out]; exact hlt)
      have c2 := HK.out.cell (HR.out k hlt)
      have hq := HQ.out k hlt
      have hw := HWB.out k
      generalize ss.getD k 0 = p at c1 hq
      generalize zs.getD k 0 = z at c2 hq hw
      have hx : 0 ≤ T * z ∧ T * z ≤ 1048576 * 1099511627776 := ⟨Int.mul_nonneg hT hw.1, Int.le_trans (Int.mul_le_mul_of_nonneg_right hT' hw.1) (Int.mul_le_mul_of_nonneg_left hw.2 (by decide))⟩
      have k0 : (0 : Int) ≤ (k : Int) := by omega
      have k1 : (k : Int) < zs.length := by omega
      have m1 : IntKind.i64.wrap (T * z) = T * z := IntWalk.i64_in _ (by omega)
      have m2 : IntKind.i64.wrap (p * S) = p * S := IntWalk.i64_in _ (by omega)
      have m3 : IntKind.i64.wrap (T * z + S) = T * z + S := IntWalk.i64_in _ (by omega)
      have m4 : IntKind.i64.wrap (T * z - S) = T * z - S := IntWalk.i64_in _ (by omega)
      have d1 : decide (p < 0) = false := decide_eq_false (by omega)
      have d2 : decide (T < p) = false := decide_eq_false (by omega)
      have d3 : decide (T * z + S ≤ p * S) = false := decide_eq_false (by omega)
      have d4 : decide (p * S ≤ T * z - S) = false := decide_eq_false (by omega)
      clear hq hw
      go_wp2
      go_roundw
      case rel => exact ⟨k + 1, by omega, by go_num, HA.out, HK.out⟩
      case measure => simp [intOf]; omega
    · obtain rfl : k = zs.length := by omega
      have TG := Lib.hid (TP.out _ _ HA.out)
      go_wp2_with (go_at_call 23; (with_reducible refine TG.out.mono ?_); rintro e w4 ⟨rfl, b4⟩; have B4 : Hid (Kpt w w4) := ktr HK.out b4; clear b4)
      go_ret
      exact ⟨rfl, B4.out⟩

theorem shareQuota_err_zero (c : Int) (hc : 1 ≤ c) (Z T : Int) (hz : ¬ 0 < Z) (hmod : T = Z) (v : Value) (w : World) (S : Calls Try.prog 15 #[.int .i64 T, v] w fun e w' => e = .returned (.tuple #[.slice none 0 0, .int .i64 c]) ∧ w = w') :
    Calls Try.prog 4 #[.int .i64 Z, v] w fun r w' => r = .returned (.bool true) ∧ Below w.heap.size w w' := by
  subst hmod
  have HS := Lib.hid S
  clear S
  have q2 : (c != 0) = true := bne_iff_ne.2 (by omega)
  go_enter Try.func4, Try.ntmps4
  go_wp2_with (first
    | (go_at_call 15; (with_reducible refine HS.out.mono ?_); rintro e w' ⟨rfl, rfl⟩)
    | (go_at_call 19; (with_reducible refine (shareBegun _).mono ?_); rintro e w2 ⟨rfl, b2⟩))
  go_ret
  exact ⟨rfl, b2⟩

set_option maxRecDepth 100000 in
set_option maxHeartbeats 2000000 in
theorem shareQuota_ok_zero (b off cap : Nat) (zs : List Int) (Z T : Int) (hz : ¬ 0 < Z) (hmod : T = Z) (hT : 0 ≤ T) (hT' : T ≤ 1048576) (w : World) (hr : Reads w (.slice (some ⟨b, off, none⟩) zs.length cap) zs) (hE : wtsE zs = 0) :
    Calls Try.prog 4 #[.int .i64 Z, .slice (some ⟨b, off, none⟩) zs.length cap] w fun r w' => r = .returned (.bool true) ∧ Below w.heap.size w w' := by
  subst hmod
  have HS := Lib.hid (parts_back b off cap zs T hT (by omega) w hr hE)
  obtain ⟨h0, hm, hall, _, hS, hSb, hz0⟩ := wts_ok hE
  have hp : 0 < zs.length := List.length_pos_iff.2 h0
  have HL := Lib.hid (pbs_len T zs)
  have HQ : Hid (∀ i : Nat, i < zs.length → 0 ≤ (pbs T zs).getD i 0 ∧ (pbs T zs).getD i 0 ≤ T ∧ (pbs T zs).getD i 0 * zs.sum < T * zs.getD i 0 + zs.sum ∧ T * zs.getD i 0 - zs.sum < (pbs T zs).getD i 0 * zs.sum) := fun i hi => pbs_quota hT hE hi
  have HSUM := Lib.hid (pbs_sum hT hE)
  have HN : Hid (∀ z ∈ pbs T zs, 0 ≤ z) := fun z hz => by
    obtain ⟨j, hj, rfl⟩ := List.getElem_of_mem hz
    have := (pbs_quota (T := T) hT hE (i := j) (by rw [pbs_len] at hj; exact hj)).1
    rw [List.getD_eq_getElem?_getD, List.getElem?_eq_getElem hj] at this
    exact this
  have HWB := Lib.hid (fun k => wt_at hall k)
  have TW : Hid (∀ w', Kpt w w' → Calls Try.prog 23 #[.slice (some ⟨b, off, none⟩) zs.length cap] w' fun e w'' => e = .returned (.int .i64 zs.sum) ∧ Kpt w' w'') := fun w' k => together_kpt _ zs w' (hr.kpt k) hp hz0 (by omega)
  have HR := Lib.hid (show ∀ j, j < zs.length → w.cell? ⟨b, off + j, none⟩ = some (.int .i64 (zs.getD j 0)) by
    rcases hr.cell with ⟨rfl, _⟩ | ⟨_, b', off', cap', e, hc⟩
    · exact absurd rfl h0
    · injection e with e1 e2 e3
      injection e1 with e1
      injection e1 with e1 e2
      subst e1 e2
      exact hc)
  clear hr hE h0 hall hz0
  generalize pbs T zs = ss at HS HL HQ HSUM HN
  obtain ⟨S, hSS⟩ : ∃ S, zs.sum = S := ⟨_, rfl⟩
  rw [hSS] at HQ TW hS hSb
  clear hSS
  have TP : Hid (∀ w1 g, Row w1 g ss → Calls Try.prog 23 #[.slice (some ⟨g, 0, none⟩) zs.length zs.length] w1 fun e w'' => e = .returned (.int .i64 T) ∧ Kpt w1 w'') := fun w1 g r => by
    have := together_kpt _ ss w1 (r.reads (by rw [HL.out]; unfold maxLen; omega) zs.length) (by rw [HL.out]; exact hp) HN.out (by rw [HSUM.out]; omega)
    rw [HSUM.out, HL.out] at this
    exact this
  go_enter Try.func4, Try.ntmps4
  go_wp2_with (first
    | (go_at_call 15; (with_reducible refine HS.out.mono ?_); rintro e w1 ⟨g, rfl, r1, b1⟩; have R1 := Lib.hid r1; have B1 : Hid (Kpt w w1) := b1; clear r1 b1)
    | (go_at_call 19; (with_reducible refine (shareBegun _).mono ?_); rintro e w2 ⟨rfl, b2⟩; have R2 := Lib.hid (R1.out.on b2); have B2 : Hid (Kpt w w2) := ktr B1.out b2; clear b2)
    | (go_at_call 23; (with_reducible refine (TW.out _ B2.out).mono ?_); rintro e w3 ⟨rfl, b3⟩; have R3 := Lib.hid (R2.out.on b3); have B3 : Hid (Kpt w w3) := ktr B2.out b3; clear b3))
  go_loopw [8] (fun i wr => ∃ k : Nat, k ≤ zs.length ∧ i = .int .i64 k ∧ Hid (Row wr g ss) ∧ Hid (Kpt w wr)) (fun i _ => zs.length - (intOf i).toNat)
  case atStart => exact ⟨0, Nat.zero_le _, rfl, R3.out, B3.out⟩
  case round =>
    obtain ⟨k, hk, rfl, HA, HK⟩ := hrel
    by_cases hlt : k < zs.length
    · have c1 := HA.out.cell (j := k) (by rw [HL.out]; exact hlt)
      have c2 := HK.out.cell (HR.out k hlt)
      have hq := HQ.out k hlt
      have hw := HWB.out k
      generalize ss.getD k 0 = p at c1 hq
      generalize zs.getD k 0 = z at c2 hq hw
      have hx : 0 ≤ T * z ∧ T * z ≤ 1048576 * 1099511627776 := ⟨Int.mul_nonneg hT hw.1, Int.le_trans (Int.mul_le_mul_of_nonneg_right hT' hw.1) (Int.mul_le_mul_of_nonneg_left hw.2 (by decide))⟩
      have k0 : (0 : Int) ≤ (k : Int) := by omega
      have k1 : (k : Int) < zs.length := by omega
      have m1 : IntKind.i64.wrap (T * z) = T * z := IntWalk.i64_in _ (by omega)
      have m2 : IntKind.i64.wrap (p * S) = p * S := IntWalk.i64_in _ (by omega)
      have m3 : IntKind.i64.wrap (T * z + S) = T * z + S := IntWalk.i64_in _ (by omega)
      have m4 : IntKind.i64.wrap (T * z - S) = T * z - S := IntWalk.i64_in _ (by omega)
      have d1 : decide (p < 0) = false := decide_eq_false (by omega)
      have d2 : decide (T < p) = false := decide_eq_false (by omega)
      have d3 : decide (T * z + S ≤ p * S) = false := decide_eq_false (by omega)
      have d4 : decide (p * S ≤ T * z - S) = false := decide_eq_false (by omega)
      clear hq hw
      go_wp2
      go_roundw
      case rel => exact ⟨k + 1, by omega, by go_num, HA.out, HK.out⟩
      case measure => simp [intOf]; omega
    · obtain rfl : k = zs.length := by omega
      have TG := Lib.hid (TP.out _ _ HA.out)
      go_wp2_with (go_at_call 23; (with_reducible refine TG.out.mono ?_); rintro e w4 ⟨rfl, b4⟩; have B4 : Hid (Kpt w w4) := ktr HK.out b4; clear b4)
      go_ret
      exact ⟨rfl, B4.out⟩

theorem shareQuota_plain (Z : Int) (v : Value) (zs : List Int) (w : World) (hr : Reads w v zs) :
    Calls Try.prog 4 #[.int .i64 Z, v] w fun r w' => r = .returned (.bool true) ∧ Below w.heap.size w w' := by
  by_cases hz : 0 < Z
  · obtain ⟨T, hT⟩ : ∃ T, Z.tmod 1048576 = T := ⟨_, rfl⟩
    have e : T = Z % 1048576 := by rw [← hT, Int.tmod_eq_emod_of_nonneg (by omega)]
    rcases wtsE_cases zs with ⟨hE, h0, hm, _⟩ | ⟨h1, h4⟩
    · rcases hr.cell with ⟨rfl, _⟩ | ⟨_, b, off, cap, rfl, hc⟩
      · exact absurd rfl h0
      · exact shareQuota_ok_pos b off cap zs Z T hz hT (by omega) (by omega) w hr hE
    · exact shareQuota_err_pos (wtsE zs) h1 Z T hz hT v w (parts_bad v zs T w hr h1 h4)
  · rcases wtsE_cases zs with ⟨hE, h0, hm, _⟩ | ⟨h1, h4⟩
    · by_cases hb : Z = 0
      · rcases hr.cell with ⟨rfl, _⟩ | ⟨_, b, off, cap, rfl, hc⟩
        · exact absurd rfl h0
        · exact shareQuota_ok_zero b off cap zs Z Z hz rfl (by omega) (by omega) w hr hE
      · exact shareQuota_err_zero 3 (by omega) Z Z hz rfl v w (parts_rng v zs Z w hr hE (by omega))
    · exact shareQuota_err_zero (wtsE zs) h1 Z Z hz rfl v w (parts_bad v zs Z w hr h1 h4)

end Go.Proofs.Yteooglpipggeoaa
