/-
  TapeTells: the law answers true.
-/
import Derived.Test.YtljdffkelocfbaaLawTT
import Derived.Test.YtljdffkelocfbaaTapT
namespace Go.Proofs.Ytljdffkelocfbaa
open Go.RowKit
set_option linter.unusedVariables false

/-- what Put answers, whatever it is handed -/
theorem putA (t b : List Nat) (v u : Value) (w : World) (hv : ReadsU w v t) (hu : ReadsU w u b) : Calls Try.prog 10 #[v, u] w fun e w' => ∃ v', e = .returned (.tuple #[v', .int .i64 (putE t b)]) ∧ ReadsU w' v' (if putE t b = 0 then t ++ rcd b else []) ∧ Kpt w w' := by
  by_cases h : putE t b = 0
  · refine (putC t b v u w hv hu h).mono ?_
    rintro e w' ⟨a, c, rfl, hr, hk⟩
    exact ⟨_, by rw [h], by rw [if_pos h]; exact hr, hk⟩
  · refine (put_bad t b v u w hv hu h).mono ?_
    rintro e w' ⟨rfl, hk⟩
    exact ⟨_, rfl, by rw [if_neg h]; exact readsU_nil w', hk⟩
theorem readsS_nil (w : World) : ReadsS w (.slice none 0 0) [] := ⟨none, 0, rfl, Nat.le_refl _, ⟨Nat.zero_le _, Nat.zero_le _⟩, fun _ => rfl, fun k hk => absurd hk (Nat.not_lt_zero k)⟩
theorem tornA (v : Value) (t : List Nat) (k : Int) (w : World) (hv : ReadsU w v t) : Calls Try.prog 12 #[v, .int .i64 k] w fun e w' => ∃ v', e = .returned (.tuple #[v', .int .i64 (torE t.length k)]) ∧ ReadsU w' v' (if torE t.length k = 0 then t.take k.toNat else []) ∧ Kpt w w' := by
  refine (torn_run v t k w hv).mono ?_
  rintro e w' ⟨v', rfl, ho, hk⟩
  refine ⟨v', rfl, ?_, hk⟩
  split at ho
  · next h =>
    have h4 : t.length ≤ 4000 := by
      unfold torE at h
      split at h
      · next h4 => exact h4
      · cases h
    rw [if_pos h]
    exact ho.reads (isB_take hv.isB _) (by rw [List.length_take]; omega)
  · next h => rw [if_neg h]; exact ho.reads (fun x hx => by cases hx) (by simp)
set_option maxRecDepth 100000 in
set_option maxHeartbeats 2000000 in
theorem tu_00neg (a a' : Option Addr) (c c' : Nat) (t b : List Nat) (k : Int) (w : World) (hv : ReadsU w (.slice a t.length c) t) (hu : ReadsU w (.slice a' b.length c') b) (hb : b.length ≤ 4000) (ht : t.length ≤ 4000) (hk : k < 0) : Calls Try.prog 3 #[.slice a t.length c, .slice a' b.length c', .int .i64 k] w fun e w' => e = .returned (.bool true) ∧ Kpt w w' := by
  have SM := Lib.hid (fun w' (k : Kpt w w') => tsum_run _ b w' (hu.kpt k))
  simp only [if_pos hb] at SM
  have PU := Lib.hid (fun w' (k : Kpt w w') => putA t b _ _ w' (hv.kpt k) (hu.kpt k))
  have PR := Lib.hid (fun w' (k : Kpt w w') => rput_run _ _ t b w' (hv.kpt k) (hu.kpt k))
  have RS := Lib.hid (fun w' (k : Kpt w w') => rsum_run _ b w' (hu.kpt k))
  have GE := Lib.hid (fun w' (k : Kpt w w') => get_reads _ t w' (hv.kpt k) ht)
  have GR := Lib.hid (fun w' (k : Kpt w w') => rget_run _ t w' (hv.kpt k) ht)
  have TO := Lib.hid (fun w' (q : Kpt w w') => tornA _ t k w' (hv.kpt q))
  have e0 : torE t.length k = 3 := by unfold torE; rw [if_pos ht, if_neg (by omega)]
  rw [e0] at TO
  simp only [if_neg (show ¬ (3 : Int) = 0 by decide)] at TO
  clear e0
  have y1 : decide ((4000 : Int) < (b.length : Int)) = false := decide_eq_false (by omega)
  have y2 : decide (4000 < b.length) = false := decide_eq_false (by omega)
  have y3 : decide ((4000 : Int) < (t.length : Int)) = false := decide_eq_false (by omega)
  have y4 : decide (4000 < t.length) = false := decide_eq_false (by omega)
  have y5 : decide (k < 0) = true := decide_eq_true (by omega)
  have KX := Lib.hid (Kpt.refl w)
  clear hv hu hb ht hk
  generalize (if putE t b = 0 then t ++ rcd b else []) = X at *
  generalize putE t b = E at *
  generalize crc b = S at *
  generalize ends (recs t) = EN at *
  generalize recs t = R at *
  go_enter Try.func3, Try.ntmps3
  go_wp2_with (first
    | (go_at_call 9; (with_reducible refine (SM.out _ KX.out).mono ?_); rintro e w1 ⟨rfl, k1⟩; have KX := Lib.hid (ktr KX.out k1); clear k1)
    | (go_at_call 10; (with_reducible refine (PU.out _ KX.out).mono ?_); rintro e w1 ⟨vp, rfl, r1, k1⟩; have KX := Lib.hid (ktr KX.out k1); have RP := Lib.hid r1; clear k1)
    | (go_at_call 11; (with_reducible refine (GE.out _ KX.out).mono ?_); rintro e w1 ⟨vl, rfl, r1, k1⟩; have KX := Lib.hid (ktr KX.out k1); have RL := Lib.hid r1; have RP := Lib.hid (RP.out.kpt k1); clear k1)
    | (go_at_call 12; (with_reducible refine (TO.out _ KX.out).mono ?_); rintro e w1 ⟨vc, rfl, r1, k1⟩; have KX := Lib.hid (ktr KX.out k1); have RC := Lib.hid r1; have RP := Lib.hid (RP.out.kpt k1); have RL := Lib.hid (RL.out.kpt k1); clear k1)
    | (go_at_call 13; (with_reducible refine (RS.out _ KX.out).mono ?_); rintro e w1 ⟨rfl, rfl⟩)
    | (go_at_call 14; (with_reducible refine (PR.out _ KX.out).mono ?_); rintro e w1 ⟨vq, rfl, r1, k1⟩; have KX := Lib.hid (ktr KX.out k1); have RQ := Lib.hid r1; have RP := Lib.hid (RP.out.kpt k1); have RL := Lib.hid (RL.out.kpt k1); have RC := Lib.hid (RC.out.kpt k1); clear k1)
    | (go_at_call 15; (with_reducible refine (GR.out _ KX.out).mono ?_); rintro e w1 ⟨vo, rfl, r1, k1⟩; have KX := Lib.hid (ktr KX.out k1); have RO := Lib.hid r1; have RP := Lib.hid (RP.out.kpt k1); have RL := Lib.hid (RL.out.kpt k1); have RC := Lib.hid (RC.out.kpt k1); have RQ := Lib.hid (RQ.out.kpt k1); clear k1)
    | (go_at_call 16; (with_reducible refine (tapeBegun _).mono ?_); rintro e w1 ⟨rfl, k1⟩; have KX := Lib.hid (ktr KX.out k1); have RP := Lib.hid (RP.out.kpt k1); have RL := Lib.hid (RL.out.kpt k1); have RC := Lib.hid (RC.out.kpt k1); have RQ := Lib.hid (RQ.out.kpt k1); have RO := Lib.hid (RO.out.kpt k1); clear k1)
    | (go_at_call 17; (with_reducible refine (samU_run _ _ _ _ RP.out RQ.out).mono ?_); rintro e w1 ⟨rfl, rfl⟩)
    | (go_at_call 18; (with_reducible refine (samS_run _ _ _ _ RL.out RO.out).mono ?_); rintro e w1 ⟨rfl, k1⟩; have KX := Lib.hid (ktr KX.out k1); have RC := Lib.hid (RC.out.kpt k1); clear k1)
    | (go_at_call 17; (with_reducible refine (samU_run _ _ _ _ RC.out (readsU_nil _)).mono ?_); rintro e w1 ⟨rfl, rfl⟩))
  go_ret
  exact ⟨rfl, KX.out⟩
set_option maxRecDepth 100000 in
set_option maxHeartbeats 2000000 in
theorem tu_00over (a a' : Option Addr) (c c' : Nat) (t b : List Nat) (K : Nat) (w : World) (hv : ReadsU w (.slice a t.length c) t) (hu : ReadsU w (.slice a' b.length c') b) (hb : b.length ≤ 4000) (ht : t.length ≤ 4000) (hk : t.length < K) : Calls Try.prog 3 #[.slice a t.length c, .slice a' b.length c', .int .i64 (K : Int)] w fun e w' => e = .returned (.bool true) ∧ Kpt w w' := by
  have SM := Lib.hid (fun w' (k : Kpt w w') => tsum_run _ b w' (hu.kpt k))
  simp only [if_pos hb] at SM
  have PU := Lib.hid (fun w' (k : Kpt w w') => putA t b _ _ w' (hv.kpt k) (hu.kpt k))
  have PR := Lib.hid (fun w' (k : Kpt w w') => rput_run _ _ t b w' (hv.kpt k) (hu.kpt k))
  have RS := Lib.hid (fun w' (k : Kpt w w') => rsum_run _ b w' (hu.kpt k))
  have GE := Lib.hid (fun w' (k : Kpt w w') => get_reads _ t w' (hv.kpt k) ht)
  have GR := Lib.hid (fun w' (k : Kpt w w') => rget_run _ t w' (hv.kpt k) ht)
  have TO := Lib.hid (fun w' (q : Kpt w w') => tornA _ t (K : Int) w' (hv.kpt q))
  have e0 : torE t.length (K : Int) = 3 := by unfold torE; rw [if_pos ht, if_neg (by omega)]
  rw [e0] at TO
  simp only [if_neg (show ¬ (3 : Int) = 0 by decide)] at TO
  clear e0
  have y1 : decide ((4000 : Int) < (b.length : Int)) = false := decide_eq_false (by omega)
  have y2 : decide (4000 < b.length) = false := decide_eq_false (by omega)
  have y3 : decide ((4000 : Int) < (t.length : Int)) = false := decide_eq_false (by omega)
  have y4 : decide (4000 < t.length) = false := decide_eq_false (by omega)
  have y5 : decide ((K : Int) < 0) = false := decide_eq_false (by omega)
  have y6 : decide ((t.length : Int) < (K : Int)) = true := decide_eq_true (by omega)
  have y7 : decide (t.length < K) = true := decide_eq_true (by omega)
  have KX := Lib.hid (Kpt.refl w)
  clear hv hu hb ht hk
  generalize (if putE t b = 0 then t ++ rcd b else []) = X at *
  generalize putE t b = E at *
  generalize crc b = S at *
  generalize ends (recs t) = EN at *
  generalize recs t = R at *
  go_enter Try.func3, Try.ntmps3
  go_wp2_with (first
    | (go_at_call 9; (with_reducible refine (SM.out _ KX.out).mono ?_); rintro e w1 ⟨rfl, k1⟩; have KX := Lib.hid (ktr KX.out k1); clear k1)
    | (go_at_call 10; (with_reducible refine (PU.out _ KX.out).mono ?_); rintro e w1 ⟨vp, rfl, r1, k1⟩; have KX := Lib.hid (ktr KX.out k1); have RP := Lib.hid r1; clear k1)
    | (go_at_call 11; (with_reducible refine (GE.out _ KX.out).mono ?_); rintro e w1 ⟨vl, rfl, r1, k1⟩; have KX := Lib.hid (ktr KX.out k1); have RL := Lib.hid r1; have RP := Lib.hid (RP.out.kpt k1); clear k1)
    | (go_at_call 12; (with_reducible refine (TO.out _ KX.out).mono ?_); rintro e w1 ⟨vc, rfl, r1, k1⟩; have KX := Lib.hid (ktr KX.out k1); have RC := Lib.hid r1; have RP := Lib.hid (RP.out.kpt k1); have RL := Lib.hid (RL.out.kpt k1); clear k1)
    | (go_at_call 13; (with_reducible refine (RS.out _ KX.out).mono ?_); rintro e w1 ⟨rfl, rfl⟩)
    | (go_at_call 14; (with_reducible refine (PR.out _ KX.out).mono ?_); rintro e w1 ⟨vq, rfl, r1, k1⟩; have KX := Lib.hid (ktr KX.out k1); have RQ := Lib.hid r1; have RP := Lib.hid (RP.out.kpt k1); have RL := Lib.hid (RL.out.kpt k1); have RC := Lib.hid (RC.out.kpt k1); clear k1)
    | (go_at_call 15; (with_reducible refine (GR.out _ KX.out).mono ?_); rintro e w1 ⟨vo, rfl, r1, k1⟩; have KX := Lib.hid (ktr KX.out k1); have RO := Lib.hid r1; have RP := Lib.hid (RP.out.kpt k1); have RL := Lib.hid (RL.out.kpt k1); have RC := Lib.hid (RC.out.kpt k1); have RQ := Lib.hid (RQ.out.kpt k1); clear k1)
    | (go_at_call 16; (with_reducible refine (tapeBegun _).mono ?_); rintro e w1 ⟨rfl, k1⟩; have KX := Lib.hid (ktr KX.out k1); have RP := Lib.hid (RP.out.kpt k1); have RL := Lib.hid (RL.out.kpt k1); have RC := Lib.hid (RC.out.kpt k1); have RQ := Lib.hid (RQ.out.kpt k1); have RO := Lib.hid (RO.out.kpt k1); clear k1)
    | (go_at_call 17; (with_reducible refine (samU_run _ _ _ _ RP.out RQ.out).mono ?_); rintro e w1 ⟨rfl, rfl⟩)
    | (go_at_call 18; (with_reducible refine (samS_run _ _ _ _ RL.out RO.out).mono ?_); rintro e w1 ⟨rfl, k1⟩; have KX := Lib.hid (ktr KX.out k1); have RC := Lib.hid (RC.out.kpt k1); clear k1)
    | (go_at_call 17; (with_reducible refine (samU_run _ _ _ _ RC.out (readsU_nil _)).mono ?_); rintro e w1 ⟨rfl, rfl⟩))
  go_ret
  exact ⟨rfl, KX.out⟩
set_option maxRecDepth 100000 in
set_option maxHeartbeats 2000000 in
theorem tu_00ok (a a' : Option Addr) (c c' : Nat) (t b : List Nat) (K : Nat) (w : World) (hv : ReadsU w (.slice a t.length c) t) (hu : ReadsU w (.slice a' b.length c') b) (hb : b.length ≤ 4000) (ht : t.length ≤ 4000) (hk : K ≤ t.length) : Calls Try.prog 3 #[.slice a t.length c, .slice a' b.length c', .int .i64 (K : Int)] w fun e w' => e = .returned (.bool true) ∧ Kpt w w' := by
  have SM := Lib.hid (fun w' (k : Kpt w w') => tsum_run _ b w' (hu.kpt k))
  simp only [if_pos hb] at SM
  have PU := Lib.hid (fun w' (k : Kpt w w') => putA t b _ _ w' (hv.kpt k) (hu.kpt k))
  have PR := Lib.hid (fun w' (k : Kpt w w') => rput_run _ _ t b w' (hv.kpt k) (hu.kpt k))
  have RS := Lib.hid (fun w' (k : Kpt w w') => rsum_run _ b w' (hu.kpt k))
  have GE := Lib.hid (fun w' (k : Kpt w w') => get_reads _ t w' (hv.kpt k) ht)
  have GR := Lib.hid (fun w' (k : Kpt w w') => rget_run _ t w' (hv.kpt k) ht)
  have TO := Lib.hid (fun w' (q : Kpt w w') => tornA _ t (K : Int) w' (hv.kpt q))
  have e0 : torE t.length (K : Int) = 0 := by unfold torE; rw [if_pos ht, if_pos (by omega)]
  rw [e0] at TO
  have CU := Lib.hid (fun w' (q : Kpt w w') => (hv.kpt q).take hk)
  simp only [Int.toNat_natCast] at TO
  have cc : (K : Int) ≤ (c : Int) := by obtain ⟨_, _, e1, h1, -⟩ := hv.form; injection e1 with _ _ e3; omega
  have k0 : (0 : Int) ≤ (K : Int) := by omega
  clear e0
  have y1 : decide ((4000 : Int) < (b.length : Int)) = false := decide_eq_false (by omega)
  have y2 : decide (4000 < b.length) = false := decide_eq_false (by omega)
  have y3 : decide ((4000 : Int) < (t.length : Int)) = false := decide_eq_false (by omega)
  have y4 : decide (4000 < t.length) = false := decide_eq_false (by omega)
  have y5 : decide ((K : Int) < 0) = false := decide_eq_false (by omega)
  have y6 : decide ((t.length : Int) < (K : Int)) = false := decide_eq_false (by omega)
  have y7 : decide (t.length < K) = false := decide_eq_false (by omega)
  have KX := Lib.hid (Kpt.refl w)
  clear hv hu hb ht hk
  generalize (if putE t b = 0 then t ++ rcd b else []) = X at *
  generalize putE t b = E at *
  generalize crc b = S at *
  generalize ends (recs t) = EN at *
  generalize recs t = R at *
  go_enter Try.func3, Try.ntmps3
  go_wp2_with (first
    | (go_at_call 9; (with_reducible refine (SM.out _ KX.out).mono ?_); rintro e w1 ⟨rfl, k1⟩; have KX := Lib.hid (ktr KX.out k1); clear k1)
    | (go_at_call 10; (with_reducible refine (PU.out _ KX.out).mono ?_); rintro e w1 ⟨vp, rfl, r1, k1⟩; have KX := Lib.hid (ktr KX.out k1); have RP := Lib.hid r1; clear k1)
    | (go_at_call 11; (with_reducible refine (GE.out _ KX.out).mono ?_); rintro e w1 ⟨vl, rfl, r1, k1⟩; have KX := Lib.hid (ktr KX.out k1); have RL := Lib.hid r1; have RP := Lib.hid (RP.out.kpt k1); clear k1)
    | (go_at_call 12; (with_reducible refine (TO.out _ KX.out).mono ?_); rintro e w1 ⟨vc, rfl, r1, k1⟩; have KX := Lib.hid (ktr KX.out k1); have RC := Lib.hid r1; have RP := Lib.hid (RP.out.kpt k1); have RL := Lib.hid (RL.out.kpt k1); clear k1)
    | (go_at_call 13; (with_reducible refine (RS.out _ KX.out).mono ?_); rintro e w1 ⟨rfl, rfl⟩)
    | (go_at_call 14; (with_reducible refine (PR.out _ KX.out).mono ?_); rintro e w1 ⟨vq, rfl, r1, k1⟩; have KX := Lib.hid (ktr KX.out k1); have RQ := Lib.hid r1; have RP := Lib.hid (RP.out.kpt k1); have RL := Lib.hid (RL.out.kpt k1); have RC := Lib.hid (RC.out.kpt k1); clear k1)
    | (go_at_call 15; (with_reducible refine (GR.out _ KX.out).mono ?_); rintro e w1 ⟨vo, rfl, r1, k1⟩; have KX := Lib.hid (ktr KX.out k1); have RO := Lib.hid r1; have RP := Lib.hid (RP.out.kpt k1); have RL := Lib.hid (RL.out.kpt k1); have RC := Lib.hid (RC.out.kpt k1); have RQ := Lib.hid (RQ.out.kpt k1); clear k1)
    | (go_at_call 16; (with_reducible refine (tapeBegun _).mono ?_); rintro e w1 ⟨rfl, k1⟩; have KX := Lib.hid (ktr KX.out k1); have RP := Lib.hid (RP.out.kpt k1); have RL := Lib.hid (RL.out.kpt k1); have RC := Lib.hid (RC.out.kpt k1); have RQ := Lib.hid (RQ.out.kpt k1); have RO := Lib.hid (RO.out.kpt k1); clear k1)
    | (go_at_call 17; (with_reducible refine (samU_run _ _ _ _ RP.out RQ.out).mono ?_); rintro e w1 ⟨rfl, rfl⟩)
    | (go_at_call 18; (with_reducible refine (samS_run _ _ _ _ RL.out RO.out).mono ?_); rintro e w1 ⟨rfl, k1⟩; have KX := Lib.hid (ktr KX.out k1); have RC := Lib.hid (RC.out.kpt k1); clear k1)
    | (go_at_call 17; (with_reducible refine (samU_run _ _ _ _ RC.out (CU.out _ KX.out)).mono ?_); rintro e w1 ⟨rfl, rfl⟩))
  go_ret
  exact ⟨rfl, KX.out⟩
set_option maxRecDepth 100000 in
set_option maxHeartbeats 2000000 in
theorem tu_01neg (a a' : Option Addr) (c c' : Nat) (t b : List Nat) (k : Int) (w : World) (hv : ReadsU w (.slice a t.length c) t) (hu : ReadsU w (.slice a' b.length c') b) (hb : b.length ≤ 4000) (ht : 4000 < t.length) (hk : k < 0) : Calls Try.prog 3 #[.slice a t.length c, .slice a' b.length c', .int .i64 k] w fun e w' => e = .returned (.bool true) ∧ Kpt w w' := by
  have SM := Lib.hid (fun w' (k : Kpt w w') => tsum_run _ b w' (hu.kpt k))
  simp only [if_pos hb] at SM
  have PU := Lib.hid (fun w' (k : Kpt w w') => putA t b _ _ w' (hv.kpt k) (hu.kpt k))
  have PR := Lib.hid (fun w' (k : Kpt w w') => rput_run _ _ t b w' (hv.kpt k) (hu.kpt k))
  have RS := Lib.hid (fun w' (k : Kpt w w') => rsum_run _ b w' (hu.kpt k))
  have GE : Hid (∀ w' (k : Kpt w w'), Calls Try.prog 11 #[.slice a t.length c] w' fun e w'' => ∃ l, e = .returned (.tuple #[l, .int .i64 0, .int .i64 2]) ∧ ReadsS w'' l [] ∧ Kpt w' w'') := fun w' k => (get_bad a t.length c w' ht).mono (by rintro e w'' ⟨rfl, hk⟩; exact ⟨_, rfl, readsS_nil w'', hk⟩)
  have TO := Lib.hid (fun w' (q : Kpt w w') => tornA _ t k w' (hv.kpt q))
  have e0 : torE t.length k = 2 := by unfold torE; rw [if_neg (by omega)]
  rw [e0] at TO
  simp only [if_neg (show ¬ (2 : Int) = 0 by decide)] at TO
  clear e0
  have y1 : decide ((4000 : Int) < (b.length : Int)) = false := decide_eq_false (by omega)
  have y2 : decide (4000 < b.length) = false := decide_eq_false (by omega)
  have y3 : decide ((4000 : Int) < (t.length : Int)) = true := decide_eq_true (by omega)
  have y4 : decide (4000 < t.length) = true := decide_eq_true (by omega)
  have y5 : decide (k < 0) = true := decide_eq_true (by omega)
  have KX := Lib.hid (Kpt.refl w)
  clear hv hu hb ht hk
  generalize (if putE t b = 0 then t ++ rcd b else []) = X at *
  generalize putE t b = E at *
  generalize crc b = S at *
  go_enter Try.func3, Try.ntmps3
  go_wp2_with (first
    | (go_at_call 9; (with_reducible refine (SM.out _ KX.out).mono ?_); rintro e w1 ⟨rfl, k1⟩; have KX := Lib.hid (ktr KX.out k1); clear k1)
    | (go_at_call 10; (with_reducible refine (PU.out _ KX.out).mono ?_); rintro e w1 ⟨vp, rfl, r1, k1⟩; have KX := Lib.hid (ktr KX.out k1); have RP := Lib.hid r1; clear k1)
    | (go_at_call 11; (with_reducible refine (GE.out _ KX.out).mono ?_); rintro e w1 ⟨vl, rfl, r1, k1⟩; have KX := Lib.hid (ktr KX.out k1); have RL := Lib.hid r1; have RP := Lib.hid (RP.out.kpt k1); clear k1)
    | (go_at_call 12; (with_reducible refine (TO.out _ KX.out).mono ?_); rintro e w1 ⟨vc, rfl, r1, k1⟩; have KX := Lib.hid (ktr KX.out k1); have RC := Lib.hid r1; have RP := Lib.hid (RP.out.kpt k1); have RL := Lib.hid (RL.out.kpt k1); clear k1)
    | (go_at_call 13; (with_reducible refine (RS.out _ KX.out).mono ?_); rintro e w1 ⟨rfl, rfl⟩)
    | (go_at_call 14; (with_reducible refine (PR.out _ KX.out).mono ?_); rintro e w1 ⟨vq, rfl, r1, k1⟩; have KX := Lib.hid (ktr KX.out k1); have RQ := Lib.hid r1; have RP := Lib.hid (RP.out.kpt k1); have RL := Lib.hid (RL.out.kpt k1); have RC := Lib.hid (RC.out.kpt k1); clear k1)
    | (go_at_call 15; (with_reducible refine (GR.out _ KX.out).mono ?_); rintro e w1 ⟨vo, rfl, r1, k1⟩; have KX := Lib.hid (ktr KX.out k1); have RO := Lib.hid r1; have RP := Lib.hid (RP.out.kpt k1); have RL := Lib.hid (RL.out.kpt k1); have RC := Lib.hid (RC.out.kpt k1); have RQ := Lib.hid (RQ.out.kpt k1); clear k1)
    | (go_at_call 16; (with_reducible refine (tapeBegun _).mono ?_); rintro e w1 ⟨rfl, k1⟩; have KX := Lib.hid (ktr KX.out k1); have RP := Lib.hid (RP.out.kpt k1); have RL := Lib.hid (RL.out.kpt k1); have RC := Lib.hid (RC.out.kpt k1); have RQ := Lib.hid (RQ.out.kpt k1); clear k1)
    | (go_at_call 17; (with_reducible refine (samU_run _ _ _ _ RP.out RQ.out).mono ?_); rintro e w1 ⟨rfl, rfl⟩)
    | (go_at_call 18; (with_reducible refine (samS_run _ _ _ _ RL.out (readsS_nil _)).mono ?_); rintro e w1 ⟨rfl, k1⟩; have KX := Lib.hid (ktr KX.out k1); have RC := Lib.hid (RC.out.kpt k1); clear k1)
    | (go_at_call 17; (with_reducible refine (samU_run _ _ _ _ RC.out (readsU_nil _)).mono ?_); rintro e w1 ⟨rfl, rfl⟩))
  go_ret
  exact ⟨rfl, KX.out⟩
set_option maxRecDepth 100000 in
set_option maxHeartbeats 2000000 in
theorem tu_01over (a a' : Option Addr) (c c' : Nat) (t b : List Nat) (K : Nat) (w : World) (hv : ReadsU w (.slice a t.length c) t) (hu : ReadsU w (.slice a' b.length c') b) (hb : b.length ≤ 4000) (ht : 4000 < t.length) (hk : t.length < K) : Calls Try.prog 3 #[.slice a t.length c, .slice a' b.length c', .int .i64 (K : Int)] w fun e w' => e = .returned (.bool true) ∧ Kpt w w' := by
  have SM := Lib.hid (fun w' (k : Kpt w w') => tsum_run _ b w' (hu.kpt k))
  simp only [if_pos hb] at SM
  have PU := Lib.hid (fun w' (k : Kpt w w') => putA t b _ _ w' (hv.kpt k) (hu.kpt k))
  have PR := Lib.hid (fun w' (k : Kpt w w') => rput_run _ _ t b w' (hv.kpt k) (hu.kpt k))
  have RS := Lib.hid (fun w' (k : Kpt w w') => rsum_run _ b w' (hu.kpt k))
  have GE : Hid (∀ w' (k : Kpt w w'), Calls Try.prog 11 #[.slice a t.length c] w' fun e w'' => ∃ l, e = .returned (.tuple #[l, .int .i64 0, .int .i64 2]) ∧ ReadsS w'' l [] ∧ Kpt w' w'') := fun w' k => (get_bad a t.length c w' ht).mono (by rintro e w'' ⟨rfl, hk⟩; exact ⟨_, rfl, readsS_nil w'', hk⟩)
  have TO := Lib.hid (fun w' (q : Kpt w w') => tornA _ t (K : Int) w' (hv.kpt q))
  have e0 : torE t.length (K : Int) = 2 := by unfold torE; rw [if_neg (by omega)]
  rw [e0] at TO
  simp only [if_neg (show ¬ (2 : Int) = 0 by decide)] at TO
  clear e0
  have y1 : decide ((4000 : Int) < (b.length : Int)) = false := decide_eq_false (by omega)
  have y2 : decide (4000 < b.length) = false := decide_eq_false (by omega)
  have y3 : decide ((4000 : Int) < (t.length : Int)) = true := decide_eq_true (by omega)
  have y4 : decide (4000 < t.length) = true := decide_eq_true (by omega)
  have y5 : decide ((K : Int) < 0) = false := decide_eq_false (by omega)
  have y6 : decide ((t.length : Int) < (K : Int)) = true := decide_eq_true (by omega)
  have y7 : decide (t.length < K) = true := decide_eq_true (by omega)
  have KX := Lib.hid (Kpt.refl w)
  clear hv hu hb ht hk
  generalize (if putE t b = 0 then t ++ rcd b else []) = X at *
  generalize putE t b = E at *
  generalize crc b = S at *
  go_enter Try.func3, Try.ntmps3
  go_wp2_with (first
    | (go_at_call 9; (with_reducible refine (SM.out _ KX.out).mono ?_); rintro e w1 ⟨rfl, k1⟩; have KX := Lib.hid (ktr KX.out k1); clear k1)
    | (go_at_call 10; (with_reducible refine (PU.out _ KX.out).mono ?_); rintro e w1 ⟨vp, rfl, r1, k1⟩; have KX := Lib.hid (ktr KX.out k1); have RP := Lib.hid r1; clear k1)
    | (go_at_call 11; (with_reducible refine (GE.out _ KX.out).mono ?_); rintro e w1 ⟨vl, rfl, r1, k1⟩; have KX := Lib.hid (ktr KX.out k1); have RL := Lib.hid r1; have RP := Lib.hid (RP.out.kpt k1); clear k1)
    | (go_at_call 12; (with_reducible refine (TO.out _ KX.out).mono ?_); rintro e w1 ⟨vc, rfl, r1, k1⟩; have KX := Lib.hid (ktr KX.out k1); have RC := Lib.hid r1; have RP := Lib.hid (RP.out.kpt k1); have RL := Lib.hid (RL.out.kpt k1); clear k1)
    | (go_at_call 13; (with_reducible refine (RS.out _ KX.out).mono ?_); rintro e w1 ⟨rfl, rfl⟩)
    | (go_at_call 14; (with_reducible refine (PR.out _ KX.out).mono ?_); rintro e w1 ⟨vq, rfl, r1, k1⟩; have KX := Lib.hid (ktr KX.out k1); have RQ := Lib.hid r1; have RP := Lib.hid (RP.out.kpt k1); have RL := Lib.hid (RL.out.kpt k1); have RC := Lib.hid (RC.out.kpt k1); clear k1)
    | (go_at_call 15; (with_reducible refine (GR.out _ KX.out).mono ?_); rintro e w1 ⟨vo, rfl, r1, k1⟩; have KX := Lib.hid (ktr KX.out k1); have RO := Lib.hid r1; have RP := Lib.hid (RP.out.kpt k1); have RL := Lib.hid (RL.out.kpt k1); have RC := Lib.hid (RC.out.kpt k1); have RQ := Lib.hid (RQ.out.kpt k1); clear k1)
    | (go_at_call 16; (with_reducible refine (tapeBegun _).mono ?_); rintro e w1 ⟨rfl, k1⟩; have KX := Lib.hid (ktr KX.out k1); have RP := Lib.hid (RP.out.kpt k1); have RL := Lib.hid (RL.out.kpt k1); have RC := Lib.hid (RC.out.kpt k1); have RQ := Lib.hid (RQ.out.kpt k1); clear k1)
    | (go_at_call 17; (with_reducible refine (samU_run _ _ _ _ RP.out RQ.out).mono ?_); rintro e w1 ⟨rfl, rfl⟩)
    | (go_at_call 18; (with_reducible refine (samS_run _ _ _ _ RL.out (readsS_nil _)).mono ?_); rintro e w1 ⟨rfl, k1⟩; have KX := Lib.hid (ktr KX.out k1); have RC := Lib.hid (RC.out.kpt k1); clear k1)
    | (go_at_call 17; (with_reducible refine (samU_run _ _ _ _ RC.out (readsU_nil _)).mono ?_); rintro e w1 ⟨rfl, rfl⟩))
  go_ret
  exact ⟨rfl, KX.out⟩
set_option maxRecDepth 100000 in
set_option maxHeartbeats 2000000 in
theorem tu_01ok (a a' : Option Addr) (c c' : Nat) (t b : List Nat) (K : Nat) (w : World) (hv : ReadsU w (.slice a t.length c) t) (hu : ReadsU w (.slice a' b.length c') b) (hb : b.length ≤ 4000) (ht : 4000 < t.length) (hk : K ≤ t.length) : Calls Try.prog 3 #[.slice a t.length c, .slice a' b.length c', .int .i64 (K : Int)] w fun e w' => e = .returned (.bool true) ∧ Kpt w w' := by
  have SM := Lib.hid (fun w' (k : Kpt w w') => tsum_run _ b w' (hu.kpt k))
  simp only [if_pos hb] at SM
  have PU := Lib.hid (fun w' (k : Kpt w w') => putA t b _ _ w' (hv.kpt k) (hu.kpt k))
  have PR := Lib.hid (fun w' (k : Kpt w w') => rput_run _ _ t b w' (hv.kpt k) (hu.kpt k))
  have RS := Lib.hid (fun w' (k : Kpt w w') => rsum_run _ b w' (hu.kpt k))
  have GE : Hid (∀ w' (k : Kpt w w'), Calls Try.prog 11 #[.slice a t.length c] w' fun e w'' => ∃ l, e = .returned (.tuple #[l, .int .i64 0, .int .i64 2]) ∧ ReadsS w'' l [] ∧ Kpt w' w'') := fun w' k => (get_bad a t.length c w' ht).mono (by rintro e w'' ⟨rfl, hk⟩; exact ⟨_, rfl, readsS_nil w'', hk⟩)
  have TO := Lib.hid (fun w' (q : Kpt w w') => tornA _ t (K : Int) w' (hv.kpt q))
  have e0 : torE t.length (K : Int) = 2 := by unfold torE; rw [if_neg (by omega)]
  rw [e0] at TO
  simp only [if_neg (show ¬ (2 : Int) = 0 by decide)] at TO
  clear e0
  have y1 : decide ((4000 : Int) < (b.length : Int)) = false := decide_eq_false (by omega)
  have y2 : decide (4000 < b.length) = false := decide_eq_false (by omega)
  have y3 : decide ((4000 : Int) < (t.length : Int)) = true := decide_eq_true (by omega)
  have y4 : decide (4000 < t.length) = true := decide_eq_true (by omega)
  have y5 : decide ((K : Int) < 0) = false := decide_eq_false (by omega)
  have y6 : decide ((t.length : Int) < (K : Int)) = false := decide_eq_false (by omega)
  have y7 : decide (t.length < K) = false := decide_eq_false (by omega)
  have KX := Lib.hid (Kpt.refl w)
  clear hv hu hb ht hk
  generalize (if putE t b = 0 then t ++ rcd b else []) = X at *
  generalize putE t b = E at *
  generalize crc b = S at *
  go_enter Try.func3, Try.ntmps3
  go_wp2_with (first
    | (go_at_call 9; (with_reducible refine (SM.out _ KX.out).mono ?_); rintro e w1 ⟨rfl, k1⟩; have KX := Lib.hid (ktr KX.out k1); clear k1)
    | (go_at_call 10; (with_reducible refine (PU.out _ KX.out).mono ?_); rintro e w1 ⟨vp, rfl, r1, k1⟩; have KX := Lib.hid (ktr KX.out k1); have RP := Lib.hid r1; clear k1)
    | (go_at_call 11; (with_reducible refine (GE.out _ KX.out).mono ?_); rintro e w1 ⟨vl, rfl, r1, k1⟩; have KX := Lib.hid (ktr KX.out k1); have RL := Lib.hid r1; have RP := Lib.hid (RP.out.kpt k1); clear k1)
    | (go_at_call 12; (with_reducible refine (TO.out _ KX.out).mono ?_); rintro e w1 ⟨vc, rfl, r1, k1⟩; have KX := Lib.hid (ktr KX.out k1); have RC := Lib.hid r1; have RP := Lib.hid (RP.out.kpt k1); have RL := Lib.hid (RL.out.kpt k1); clear k1)
    | (go_at_call 13; (with_reducible refine (RS.out _ KX.out).mono ?_); rintro e w1 ⟨rfl, rfl⟩)
    | (go_at_call 14; (with_reducible refine (PR.out _ KX.out).mono ?_); rintro e w1 ⟨vq, rfl, r1, k1⟩; have KX := Lib.hid (ktr KX.out k1); have RQ := Lib.hid r1; have RP := Lib.hid (RP.out.kpt k1); have RL := Lib.hid (RL.out.kpt k1); have RC := Lib.hid (RC.out.kpt k1); clear k1)
    | (go_at_call 15; (with_reducible refine (GR.out _ KX.out).mono ?_); rintro e w1 ⟨vo, rfl, r1, k1⟩; have KX := Lib.hid (ktr KX.out k1); have RO := Lib.hid r1; have RP := Lib.hid (RP.out.kpt k1); have RL := Lib.hid (RL.out.kpt k1); have RC := Lib.hid (RC.out.kpt k1); have RQ := Lib.hid (RQ.out.kpt k1); clear k1)
    | (go_at_call 16; (with_reducible refine (tapeBegun _).mono ?_); rintro e w1 ⟨rfl, k1⟩; have KX := Lib.hid (ktr KX.out k1); have RP := Lib.hid (RP.out.kpt k1); have RL := Lib.hid (RL.out.kpt k1); have RC := Lib.hid (RC.out.kpt k1); have RQ := Lib.hid (RQ.out.kpt k1); clear k1)
    | (go_at_call 17; (with_reducible refine (samU_run _ _ _ _ RP.out RQ.out).mono ?_); rintro e w1 ⟨rfl, rfl⟩)
    | (go_at_call 18; (with_reducible refine (samS_run _ _ _ _ RL.out (readsS_nil _)).mono ?_); rintro e w1 ⟨rfl, k1⟩; have KX := Lib.hid (ktr KX.out k1); have RC := Lib.hid (RC.out.kpt k1); clear k1)
    | (go_at_call 17; (with_reducible refine (samU_run _ _ _ _ RC.out (readsU_nil _)).mono ?_); rintro e w1 ⟨rfl, rfl⟩))
  go_ret
  exact ⟨rfl, KX.out⟩
set_option maxRecDepth 100000 in
set_option maxHeartbeats 2000000 in
theorem tu_10neg (a a' : Option Addr) (c c' : Nat) (t b : List Nat) (k : Int) (w : World) (hv : ReadsU w (.slice a t.length c) t) (hu : ReadsU w (.slice a' b.length c') b) (hb : 4000 < b.length) (ht : t.length ≤ 4000) (hk : k < 0) : Calls Try.prog 3 #[.slice a t.length c, .slice a' b.length c', .int .i64 k] w fun e w' => e = .returned (.bool true) ∧ Kpt w w' := by
  have SM := Lib.hid (fun w' (k : Kpt w w') => tsum_run _ b w' (hu.kpt k))
  simp only [if_neg (show ¬ b.length ≤ 4000 by omega)] at SM
  have PU := Lib.hid (fun w' (k : Kpt w w') => putA t b _ _ w' (hv.kpt k) (hu.kpt k))
  have PR := Lib.hid (fun w' (k : Kpt w w') => rput_run _ _ t b w' (hv.kpt k) (hu.kpt k))
  have RS := Lib.hid (fun w' (k : Kpt w w') => rsum_run _ b w' (hu.kpt k))
  have GE := Lib.hid (fun w' (k : Kpt w w') => get_reads _ t w' (hv.kpt k) ht)
  have GR := Lib.hid (fun w' (k : Kpt w w') => rget_run _ t w' (hv.kpt k) ht)
  have TO := Lib.hid (fun w' (q : Kpt w w') => tornA _ t k w' (hv.kpt q))
  have e0 : torE t.length k = 3 := by unfold torE; rw [if_pos ht, if_neg (by omega)]
  rw [e0] at TO
  simp only [if_neg (show ¬ (3 : Int) = 0 by decide)] at TO
  clear e0
  have y1 : decide ((4000 : Int) < (b.length : Int)) = true := decide_eq_true (by omega)
  have y2 : decide (4000 < b.length) = true := decide_eq_true (by omega)
  have y3 : decide ((4000 : Int) < (t.length : Int)) = false := decide_eq_false (by omega)
  have y4 : decide (4000 < t.length) = false := decide_eq_false (by omega)
  have y5 : decide (k < 0) = true := decide_eq_true (by omega)
  have KX := Lib.hid (Kpt.refl w)
  clear hv hu hb ht hk
  generalize (if putE t b = 0 then t ++ rcd b else []) = X at *
  generalize putE t b = E at *
  generalize crc b = S at *
  generalize ends (recs t) = EN at *
  generalize recs t = R at *
  go_enter Try.func3, Try.ntmps3
  go_wp2_with (first
    | (go_at_call 9; (with_reducible refine (SM.out _ KX.out).mono ?_); rintro e w1 ⟨rfl, k1⟩; have KX := Lib.hid (ktr KX.out k1); clear k1)
    | (go_at_call 10; (with_reducible refine (PU.out _ KX.out).mono ?_); rintro e w1 ⟨vp, rfl, r1, k1⟩; have KX := Lib.hid (ktr KX.out k1); have RP := Lib.hid r1; clear k1)
    | (go_at_call 11; (with_reducible refine (GE.out _ KX.out).mono ?_); rintro e w1 ⟨vl, rfl, r1, k1⟩; have KX := Lib.hid (ktr KX.out k1); have RL := Lib.hid r1; have RP := Lib.hid (RP.out.kpt k1); clear k1)
    | (go_at_call 12; (with_reducible refine (TO.out _ KX.out).mono ?_); rintro e w1 ⟨vc, rfl, r1, k1⟩; have KX := Lib.hid (ktr KX.out k1); have RC := Lib.hid r1; have RP := Lib.hid (RP.out.kpt k1); have RL := Lib.hid (RL.out.kpt k1); clear k1)
    | (go_at_call 13; (with_reducible refine (RS.out _ KX.out).mono ?_); rintro e w1 ⟨rfl, rfl⟩)
    | (go_at_call 14; (with_reducible refine (PR.out _ KX.out).mono ?_); rintro e w1 ⟨vq, rfl, r1, k1⟩; have KX := Lib.hid (ktr KX.out k1); have RQ := Lib.hid r1; have RP := Lib.hid (RP.out.kpt k1); have RL := Lib.hid (RL.out.kpt k1); have RC := Lib.hid (RC.out.kpt k1); clear k1)
    | (go_at_call 15; (with_reducible refine (GR.out _ KX.out).mono ?_); rintro e w1 ⟨vo, rfl, r1, k1⟩; have KX := Lib.hid (ktr KX.out k1); have RO := Lib.hid r1; have RP := Lib.hid (RP.out.kpt k1); have RL := Lib.hid (RL.out.kpt k1); have RC := Lib.hid (RC.out.kpt k1); have RQ := Lib.hid (RQ.out.kpt k1); clear k1)
    | (go_at_call 16; (with_reducible refine (tapeBegun _).mono ?_); rintro e w1 ⟨rfl, k1⟩; have KX := Lib.hid (ktr KX.out k1); have RP := Lib.hid (RP.out.kpt k1); have RL := Lib.hid (RL.out.kpt k1); have RC := Lib.hid (RC.out.kpt k1); have RQ := Lib.hid (RQ.out.kpt k1); have RO := Lib.hid (RO.out.kpt k1); clear k1)
    | (go_at_call 17; (with_reducible refine (samU_run _ _ _ _ RP.out RQ.out).mono ?_); rintro e w1 ⟨rfl, rfl⟩)
    | (go_at_call 18; (with_reducible refine (samS_run _ _ _ _ RL.out RO.out).mono ?_); rintro e w1 ⟨rfl, k1⟩; have KX := Lib.hid (ktr KX.out k1); have RC := Lib.hid (RC.out.kpt k1); clear k1)
    | (go_at_call 17; (with_reducible refine (samU_run _ _ _ _ RC.out (readsU_nil _)).mono ?_); rintro e w1 ⟨rfl, rfl⟩))
  go_ret
  exact ⟨rfl, KX.out⟩
set_option maxRecDepth 100000 in
set_option maxHeartbeats 2000000 in
theorem tu_10over (a a' : Option Addr) (c c' : Nat) (t b : List Nat) (K : Nat) (w : World) (hv : ReadsU w (.slice a t.length c) t) (hu : ReadsU w (.slice a' b.length c') b) (hb : 4000 < b.length) (ht : t.length ≤ 4000) (hk : t.length < K) : Calls Try.prog 3 #[.slice a t.length c, .slice a' b.length c', .int .i64 (K : Int)] w fun e w' => e = .returned (.bool true) ∧ Kpt w w' := by
  have SM := Lib.hid (fun w' (k : Kpt w w') => tsum_run _ b w' (hu.kpt k))
  simp only [if_neg (show ¬ b.length ≤ 4000 by omega)] at SM
  have PU := Lib.hid (fun w' (k : Kpt w w') => putA t b _ _ w' (hv.kpt k) (hu.kpt k))
  have PR := Lib.hid (fun w' (k : Kpt w w') => rput_run _ _ t b w' (hv.kpt k) (hu.kpt k))
  have RS := Lib.hid (fun w' (k : Kpt w w') => rsum_run _ b w' (hu.kpt k))
  have GE := Lib.hid (fun w' (k : Kpt w w') => get_reads _ t w' (hv.kpt k) ht)
  have GR := Lib.hid (fun w' (k : Kpt w w') => rget_run _ t w' (hv.kpt k) ht)
  have TO := Lib.hid (fun w' (q : Kpt w w') => tornA _ t (K : Int) w' (hv.kpt q))
  have e0 : torE t.length (K : Int) = 3 := by unfold torE; rw [if_pos ht, if_neg (by omega)]
  rw [e0] at TO
  simp only [if_neg (show ¬ (3 : Int) = 0 by decide)] at TO
  clear e0
  have y1 : decide ((4000 : Int) < (b.length : Int)) = true := decide_eq_true (by omega)
  have y2 : decide (4000 < b.length) = true := decide_eq_true (by omega)
  have y3 : decide ((4000 : Int) < (t.length : Int)) = false := decide_eq_false (by omega)
  have y4 : decide (4000 < t.length) = false := decide_eq_false (by omega)
  have y5 : decide ((K : Int) < 0) = false := decide_eq_false (by omega)
  have y6 : decide ((t.length : Int) < (K : Int)) = true := decide_eq_true (by omega)
  have y7 : decide (t.length < K) = true := decide_eq_true (by omega)
  have KX := Lib.hid (Kpt.refl w)
  clear hv hu hb ht hk
  generalize (if putE t b = 0 then t ++ rcd b else []) = X at *
  generalize putE t b = E at *
  generalize crc b = S at *
  generalize ends (recs t) = EN at *
  generalize recs t = R at *
  go_enter Try.func3, Try.ntmps3
  go_wp2_with (first
    | (go_at_call 9; (with_reducible refine (SM.out _ KX.out).mono ?_); rintro e w1 ⟨rfl, k1⟩; have KX := Lib.hid (ktr KX.out k1); clear k1)
    | (go_at_call 10; (with_reducible refine (PU.out _ KX.out).mono ?_); rintro e w1 ⟨vp, rfl, r1, k1⟩; have KX := Lib.hid (ktr KX.out k1); have RP := Lib.hid r1; clear k1)
    | (go_at_call 11; (with_reducible refine (GE.out _ KX.out).mono ?_); rintro e w1 ⟨vl, rfl, r1, k1⟩; have KX := Lib.hid (ktr KX.out k1); have RL := Lib.hid r1; have RP := Lib.hid (RP.out.kpt k1); clear k1)
    | (go_at_call 12; (with_reducible refine (TO.out _ KX.out).mono ?_); rintro e w1 ⟨vc, rfl, r1, k1⟩; have KX := Lib.hid (ktr KX.out k1); have RC := Lib.hid r1; have RP := Lib.hid (RP.out.kpt k1); have RL := Lib.hid (RL.out.kpt k1); clear k1)
    | (go_at_call 13; (with_reducible refine (RS.out _ KX.out).mono ?_); rintro e w1 ⟨rfl, rfl⟩)
    | (go_at_call 14; (with_reducible refine (PR.out _ KX.out).mono ?_); rintro e w1 ⟨vq, rfl, r1, k1⟩; have KX := Lib.hid (ktr KX.out k1); have RQ := Lib.hid r1; have RP := Lib.hid (RP.out.kpt k1); have RL := Lib.hid (RL.out.kpt k1); have RC := Lib.hid (RC.out.kpt k1); clear k1)
    | (go_at_call 15; (with_reducible refine (GR.out _ KX.out).mono ?_); rintro e w1 ⟨vo, rfl, r1, k1⟩; have KX := Lib.hid (ktr KX.out k1); have RO := Lib.hid r1; have RP := Lib.hid (RP.out.kpt k1); have RL := Lib.hid (RL.out.kpt k1); have RC := Lib.hid (RC.out.kpt k1); have RQ := Lib.hid (RQ.out.kpt k1); clear k1)
    | (go_at_call 16; (with_reducible refine (tapeBegun _).mono ?_); rintro e w1 ⟨rfl, k1⟩; have KX := Lib.hid (ktr KX.out k1); have RP := Lib.hid (RP.out.kpt k1); have RL := Lib.hid (RL.out.kpt k1); have RC := Lib.hid (RC.out.kpt k1); have RQ := Lib.hid (RQ.out.kpt k1); have RO := Lib.hid (RO.out.kpt k1); clear k1)
    | (go_at_call 17; (with_reducible refine (samU_run _ _ _ _ RP.out RQ.out).mono ?_); rintro e w1 ⟨rfl, rfl⟩)
    | (go_at_call 18; (with_reducible refine (samS_run _ _ _ _ RL.out RO.out).mono ?_); rintro e w1 ⟨rfl, k1⟩; have KX := Lib.hid (ktr KX.out k1); have RC := Lib.hid (RC.out.kpt k1); clear k1)
    | (go_at_call 17; (with_reducible refine (samU_run _ _ _ _ RC.out (readsU_nil _)).mono ?_); rintro e w1 ⟨rfl, rfl⟩))
  go_ret
  exact ⟨rfl, KX.out⟩
set_option maxRecDepth 100000 in
set_option maxHeartbeats 2000000 in
theorem tu_10ok (a a' : Option Addr) (c c' : Nat) (t b : List Nat) (K : Nat) (w : World) (hv : ReadsU w (.slice a t.length c) t) (hu : ReadsU w (.slice a' b.length c') b) (hb : 4000 < b.length) (ht : t.length ≤ 4000) (hk : K ≤ t.length) : Calls Try.prog 3 #[.slice a t.length c, .slice a' b.length c', .int .i64 (K : Int)] w fun e w' => e = .returned (.bool true) ∧ Kpt w w' := by
  have SM := Lib.hid (fun w' (k : Kpt w w') => tsum_run _ b w' (hu.kpt k))
  simp only [if_neg (show ¬ b.length ≤ 4000 by omega)] at SM
  have PU := Lib.hid (fun w' (k : Kpt w w') => putA t b _ _ w' (hv.kpt k) (hu.kpt k))
  have PR := Lib.hid (fun w' (k : Kpt w w') => rput_run _ _ t b w' (hv.kpt k) (hu.kpt k))
  have RS := Lib.hid (fun w' (k : Kpt w w') => rsum_run _ b w' (hu.kpt k))
  have GE := Lib.hid (fun w' (k : Kpt w w') => get_reads _ t w' (hv.kpt k) ht)
  have GR := Lib.hid (fun w' (k : Kpt w w') => rget_run _ t w' (hv.kpt k) ht)
  have TO := Lib.hid (fun w' (q : Kpt w w') => tornA _ t (K : Int) w' (hv.kpt q))
  have e0 : torE t.length (K : Int) = 0 := by unfold torE; rw [if_pos ht, if_pos (by omega)]
  rw [e0] at TO
  have CU := Lib.hid (fun w' (q : Kpt w w') => (hv.kpt q).take hk)
  simp only [Int.toNat_natCast] at TO
  have cc : (K : Int) ≤ (c : Int) := by obtain ⟨_, _, e1, h1, -⟩ := hv.form; injection e1 with _ _ e3; omega
  have k0 : (0 : Int) ≤ (K : Int) := by omega
  clear e0
  have y1 : decide ((4000 : Int) < (b.length : Int)) = true := decide_eq_true (by omega)
  have y2 : decide (4000 < b.length) = true := decide_eq_true (by omega)
  have y3 : decide ((4000 : Int) < (t.length : Int)) = false := decide_eq_false (by omega)
  have y4 : decide (4000 < t.length) = false := decide_eq_false (by omega)
  have y5 : decide ((K : Int) < 0) = false := decide_eq_false (by omega)
  have y6 : decide ((t.length : Int) < (K : Int)) = false := decide_eq_false (by omega)
  have y7 : decide (t.length < K) = false := decide_eq_false (by omega)
  have KX := Lib.hid (Kpt.refl w)
  clear hv hu hb ht hk
  generalize (if putE t b = 0 then t ++ rcd b else []) = X at *
  generalize putE t b = E at *
  generalize crc b = S at *
  generalize ends (recs t) = EN at *
  generalize recs t = R at *
  go_enter Try.func3, Try.ntmps3
  go_wp2_with (first
    | (go_at_call 9; (with_reducible refine (SM.out _ KX.out).mono ?_); rintro e w1 ⟨rfl, k1⟩; have KX := Lib.hid (ktr KX.out k1); clear k1)
    | (go_at_call 10; (with_reducible refine (PU.out _ KX.out).mono ?_); rintro e w1 ⟨vp, rfl, r1, k1⟩; have KX := Lib.hid (ktr KX.out k1); have RP := Lib.hid r1; clear k1)
    | (go_at_call 11; (with_reducible refine (GE.out _ KX.out).mono ?_); rintro e w1 ⟨vl, rfl, r1, k1⟩; have KX := Lib.hid (ktr KX.out k1); have RL := Lib.hid r1; have RP := Lib.hid (RP.out.kpt k1); clear k1)
    | (go_at_call 12; (with_reducible refine (TO.out _ KX.out).mono ?_); rintro e w1 ⟨vc, rfl, r1, k1⟩; have KX := Lib.hid (ktr KX.out k1); have RC := Lib.hid r1; have RP := Lib.hid (RP.out.kpt k1); have RL := Lib.hid (RL.out.kpt k1); clear k1)
    | (go_at_call 13; (with_reducible refine (RS.out _ KX.out).mono ?_); rintro e w1 ⟨rfl, rfl⟩)
    | (go_at_call 14; (with_reducible refine (PR.out _ KX.out).mono ?_); rintro e w1 ⟨vq, rfl, r1, k1⟩; have KX := Lib.hid (ktr KX.out k1); have RQ := Lib.hid r1; have RP := Lib.hid (RP.out.kpt k1); have RL := Lib.hid (RL.out.kpt k1); have RC := Lib.hid (RC.out.kpt k1); clear k1)
    | (go_at_call 15; (with_reducible refine (GR.out _ KX.out).mono ?_); rintro e w1 ⟨vo, rfl, r1, k1⟩; have KX := Lib.hid (ktr KX.out k1); have RO := Lib.hid r1; have RP := Lib.hid (RP.out.kpt k1); have RL := Lib.hid (RL.out.kpt k1); have RC := Lib.hid (RC.out.kpt k1); have RQ := Lib.hid (RQ.out.kpt k1); clear k1)
    | (go_at_call 16; (with_reducible refine (tapeBegun _).mono ?_); rintro e w1 ⟨rfl, k1⟩; have KX := Lib.hid (ktr KX.out k1); have RP := Lib.hid (RP.out.kpt k1); have RL := Lib.hid (RL.out.kpt k1); have RC := Lib.hid (RC.out.kpt k1); have RQ := Lib.hid (RQ.out.kpt k1); have RO := Lib.hid (RO.out.kpt k1); clear k1)
    | (go_at_call 17; (with_reducible refine (samU_run _ _ _ _ RP.out RQ.out).mono ?_); rintro e w1 ⟨rfl, rfl⟩)
    | (go_at_call 18; (with_reducible refine (samS_run _ _ _ _ RL.out RO.out).mono ?_); rintro e w1 ⟨rfl, k1⟩; have KX := Lib.hid (ktr KX.out k1); have RC := Lib.hid (RC.out.kpt k1); clear k1)
    | (go_at_call 17; (with_reducible refine (samU_run _ _ _ _ RC.out (CU.out _ KX.out)).mono ?_); rintro e w1 ⟨rfl, rfl⟩))
  go_ret
  exact ⟨rfl, KX.out⟩
set_option maxRecDepth 100000 in
set_option maxHeartbeats 2000000 in
theorem tu_11neg (a a' : Option Addr) (c c' : Nat) (t b : List Nat) (k : Int) (w : World) (hv : ReadsU w (.slice a t.length c) t) (hu : ReadsU w (.slice a' b.length c') b) (hb : 4000 < b.length) (ht : 4000 < t.length) (hk : k < 0) : Calls Try.prog 3 #[.slice a t.length c, .slice a' b.length c', .int .i64 k] w fun e w' => e = .returned (.bool true) ∧ Kpt w w' := by
  have SM := Lib.hid (fun w' (k : Kpt w w') => tsum_run _ b w' (hu.kpt k))
  simp only [if_neg (show ¬ b.length ≤ 4000 by omega)] at SM
  have PU := Lib.hid (fun w' (k : Kpt w w') => putA t b _ _ w' (hv.kpt k) (hu.kpt k))
  have PR := Lib.hid (fun w' (k : Kpt w w') => rput_run _ _ t b w' (hv.kpt k) (hu.kpt k))
  have RS := Lib.hid (fun w' (k : Kpt w w') => rsum_run _ b w' (hu.kpt k))
  have GE : Hid (∀ w' (k : Kpt w w'), Calls Try.prog 11 #[.slice a t.length c] w' fun e w'' => ∃ l, e = .returned (.tuple #[l, .int .i64 0, .int .i64 2]) ∧ ReadsS w'' l [] ∧ Kpt w' w'') := fun w' k => (get_bad a t.length c w' ht).mono (by rintro e w'' ⟨rfl, hk⟩; exact ⟨_, rfl, readsS_nil w'', hk⟩)
  have TO := Lib.hid (fun w' (q : Kpt w w') => tornA _ t k w' (hv.kpt q))
  have e0 : torE t.length k = 2 := by unfold torE; rw [if_neg (by omega)]
  rw [e0] at TO
  simp only [if_neg (show ¬ (2 : Int) = 0 by decide)] at TO
  clear e0
  have y1 : decide ((4000 : Int) < (b.length : Int)) = true := decide_eq_true (by omega)
  have y2 : decide (4000 < b.length) = true := decide_eq_true (by omega)
  have y3 : decide ((4000 : Int) < (t.length : Int)) = true := decide_eq_true (by omega)
  have y4 : decide (4000 < t.length) = true := decide_eq_true (by omega)
  have y5 : decide (k < 0) = true := decide_eq_true (by omega)
  have KX := Lib.hid (Kpt.refl w)
  clear hv hu hb ht hk
  generalize (if putE t b = 0 then t ++ rcd b else []) = X at *
  generalize putE t b = E at *
  generalize crc b = S at *
  go_enter Try.func3, Try.ntmps3
  go_wp2_with (first
    | (go_at_call 9; (with_reducible refine (SM.out _ KX.out).mono ?_); rintro e w1 ⟨rfl, k1⟩; have KX := Lib.hid (ktr KX.out k1); clear k1)
    | (go_at_call 10; (with_reducible refine (PU.out _ KX.out).mono ?_); rintro e w1 ⟨vp, rfl, r1, k1⟩; have KX := Lib.hid (ktr KX.out k1); have RP := Lib.hid r1; clear k1)
    | (go_at_call 11; (with_reducible refine (GE.out _ KX.out).mono ?_); rintro e w1 ⟨vl, rfl, r1, k1⟩; have KX := Lib.hid (ktr KX.out k1); have RL := Lib.hid r1; have RP := Lib.hid (RP.out.kpt k1); clear k1)
    | (go_at_call 12; (with_reducible refine (TO.out _ KX.out).mono ?_); rintro e w1 ⟨vc, rfl, r1, k1⟩; have KX := Lib.hid (ktr KX.out k1); have RC := Lib.hid r1; have RP := Lib.hid (RP.out.kpt k1); have RL := Lib.hid (RL.out.kpt k1); clear k1)
    | (go_at_call 13; (with_reducible refine (RS.out _ KX.out).mono ?_); rintro e w1 ⟨rfl, rfl⟩)
    | (go_at_call 14; (with_reducible refine (PR.out _ KX.out).mono ?_); rintro e w1 ⟨vq, rfl, r1, k1⟩; have KX := Lib.hid (ktr KX.out k1); have RQ := Lib.hid r1; have RP := Lib.hid (RP.out.kpt k1); have RL := Lib.hid (RL.out.kpt k1); have RC := Lib.hid (RC.out.kpt k1); clear k1)
    | (go_at_call 15; (with_reducible refine (GR.out _ KX.out).mono ?_); rintro e w1 ⟨vo, rfl, r1, k1⟩; have KX := Lib.hid (ktr KX.out k1); have RO := Lib.hid r1; have RP := Lib.hid (RP.out.kpt k1); have RL := Lib.hid (RL.out.kpt k1); have RC := Lib.hid (RC.out.kpt k1); have RQ := Lib.hid (RQ.out.kpt k1); clear k1)
    | (go_at_call 16; (with_reducible refine (tapeBegun _).mono ?_); rintro e w1 ⟨rfl, k1⟩; have KX := Lib.hid (ktr KX.out k1); have RP := Lib.hid (RP.out.kpt k1); have RL := Lib.hid (RL.out.kpt k1); have RC := Lib.hid (RC.out.kpt k1); have RQ := Lib.hid (RQ.out.kpt k1); clear k1)
    | (go_at_call 17; (with_reducible refine (samU_run _ _ _ _ RP.out RQ.out).mono ?_); rintro e w1 ⟨rfl, rfl⟩)
    | (go_at_call 18; (with_reducible refine (samS_run _ _ _ _ RL.out (readsS_nil _)).mono ?_); rintro e w1 ⟨rfl, k1⟩; have KX := Lib.hid (ktr KX.out k1); have RC := Lib.hid (RC.out.kpt k1); clear k1)
    | (go_at_call 17; (with_reducible refine (samU_run _ _ _ _ RC.out (readsU_nil _)).mono ?_); rintro e w1 ⟨rfl, rfl⟩))
  go_ret
  exact ⟨rfl, KX.out⟩
set_option maxRecDepth 100000 in
set_option maxHeartbeats 2000000 in
theorem tu_11over (a a' : Option Addr) (c c' : Nat) (t b : List Nat) (K : Nat) (w : World) (hv : ReadsU w (.slice a t.length c) t) (hu : ReadsU w (.slice a' b.length c') b) (hb : 4000 < b.length) (ht : 4000 < t.length) (hk : t.length < K) : Calls Try.prog 3 #[.slice a t.length c, .slice a' b.length c', .int .i64 (K : Int)] w fun e w' => e = .returned (.bool true) ∧ Kpt w w' := by
  have SM := Lib.hid (fun w' (k : Kpt w w') => tsum_run _ b w' (hu.kpt k))
  simp only [if_neg (show ¬ b.length ≤ 4000 by omega)] at SM
  have PU := Lib.hid (fun w' (k : Kpt w w') => putA t b _ _ w' (hv.kpt k) (hu.kpt k))
  have PR := Lib.hid (fun w' (k : Kpt w w') => rput_run _ _ t b w' (hv.kpt k) (hu.kpt k))
  have RS := Lib.hid (fun w' (k : Kpt w w') => rsum_run _ b w' (hu.kpt k))
  have GE : Hid (∀ w' (k : Kpt w w'), Calls Try.prog 11 #[.slice a t.length c] w' fun e w'' => ∃ l, e = .returned (.tuple #[l, .int .i64 0, .int .i64 2]) ∧ ReadsS w'' l [] ∧ Kpt w' w'') := fun w' k => (get_bad a t.length c w' ht).mono (by rintro e w'' ⟨rfl, hk⟩; exact ⟨_, rfl, readsS_nil w'', hk⟩)
  have TO := Lib.hid (fun w' (q : Kpt w w') => tornA _ t (K : Int) w' (hv.kpt q))
  have e0 : torE t.length (K : Int) = 2 := by unfold torE; rw [if_neg (by omega)]
  rw [e0] at TO
  simp only [if_neg (show ¬ (2 : Int) = 0 by decide)] at TO
  clear e0
  have y1 : decide ((4000 : Int) < (b.length : Int)) = true := decide_eq_true (by omega)
  have y2 : decide (4000 < b.length) = true := decide_eq_true (by omega)
  have y3 : decide ((4000 : Int) < (t.length : Int)) = true := decide_eq_true (by omega)
  have y4 : decide (4000 < t.length) = true := decide_eq_true (by omega)
  have y5 : decide ((K : Int) < 0) = false := decide_eq_false (by omega)
  have y6 : decide ((t.length : Int) < (K : Int)) = true := decide_eq_true (by omega)
  have y7 : decide (t.length < K) = true := decide_eq_true (by omega)
  have KX := Lib.hid (Kpt.refl w)
  clear hv hu hb ht hk
  generalize (if putE t b = 0 then t ++ rcd b else []) = X at *
  generalize putE t b = E at *
  generalize crc b = S at *
  go_enter Try.func3, Try.ntmps3
  go_wp2_with (first
    | (go_at_call 9; (with_reducible refine (SM.out _ KX.out).mono ?_); rintro e w1 ⟨rfl, k1⟩; have KX := Lib.hid (ktr KX.out k1); clear k1)
    | (go_at_call 10; (with_reducible refine (PU.out _ KX.out).mono ?_); rintro e w1 ⟨vp, rfl, r1, k1⟩; have KX := Lib.hid (ktr KX.out k1); have RP := Lib.hid r1; clear k1)
    | (go_at_call 11; (with_reducible refine (GE.out _ KX.out).mono ?_); rintro e w1 ⟨vl, rfl, r1, k1⟩; have KX := Lib.hid (ktr KX.out k1); have RL := Lib.hid r1; have RP := Lib.hid (RP.out.kpt k1); clear k1)
    | (go_at_call 12; (with_reducible refine (TO.out _ KX.out).mono ?_); rintro e w1 ⟨vc, rfl, r1, k1⟩; have KX := Lib.hid (ktr KX.out k1); have RC := Lib.hid r1; have RP := Lib.hid (RP.out.kpt k1); have RL := Lib.hid (RL.out.kpt k1); clear k1)
    | (go_at_call 13; (with_reducible refine (RS.out _ KX.out).mono ?_); rintro e w1 ⟨rfl, rfl⟩)
    | (go_at_call 14; (with_reducible refine (PR.out _ KX.out).mono ?_); rintro e w1 ⟨vq, rfl, r1, k1⟩; have KX := Lib.hid (ktr KX.out k1); have RQ := Lib.hid r1; have RP := Lib.hid (RP.out.kpt k1); have RL := Lib.hid (RL.out.kpt k1); have RC := Lib.hid (RC.out.kpt k1); clear k1)
    | (go_at_call 15; (with_reducible refine (GR.out _ KX.out).mono ?_); rintro e w1 ⟨vo, rfl, r1, k1⟩; have KX := Lib.hid (ktr KX.out k1); have RO := Lib.hid r1; have RP := Lib.hid (RP.out.kpt k1); have RL := Lib.hid (RL.out.kpt k1); have RC := Lib.hid (RC.out.kpt k1); have RQ := Lib.hid (RQ.out.kpt k1); clear k1)
    | (go_at_call 16; (with_reducible refine (tapeBegun _).mono ?_); rintro e w1 ⟨rfl, k1⟩; have KX := Lib.hid (ktr KX.out k1); have RP := Lib.hid (RP.out.kpt k1); have RL := Lib.hid (RL.out.kpt k1); have RC := Lib.hid (RC.out.kpt k1); have RQ := Lib.hid (RQ.out.kpt k1); clear k1)
    | (go_at_call 17; (with_reducible refine (samU_run _ _ _ _ RP.out RQ.out).mono ?_); rintro e w1 ⟨rfl, rfl⟩)
    | (go_at_call 18; (with_reducible refine (samS_run _ _ _ _ RL.out (readsS_nil _)).mono ?_); rintro e w1 ⟨rfl, k1⟩; have KX := Lib.hid (ktr KX.out k1); have RC := Lib.hid (RC.out.kpt k1); clear k1)
    | (go_at_call 17; (with_reducible refine (samU_run _ _ _ _ RC.out (readsU_nil _)).mono ?_); rintro e w1 ⟨rfl, rfl⟩))
  go_ret
  exact ⟨rfl, KX.out⟩
set_option maxRecDepth 100000 in
set_option maxHeartbeats 2000000 in
theorem tu_11ok (a a' : Option Addr) (c c' : Nat) (t b : List Nat) (K : Nat) (w : World) (hv : ReadsU w (.slice a t.length c) t) (hu : ReadsU w (.slice a' b.length c') b) (hb : 4000 < b.length) (ht : 4000 < t.length) (hk : K ≤ t.length) : Calls Try.prog 3 #[.slice a t.length c, .slice a' b.length c', .int .i64 (K : Int)] w fun e w' => e = .returned (.bool true) ∧ Kpt w w' := by
  have SM := Lib.hid (fun w' (k : Kpt w w') => tsum_run _ b w' (hu.kpt k))
  simp only [if_neg (show ¬ b.length ≤ 4000 by omega)] at SM
  have PU := Lib.hid (fun w' (k : Kpt w w') => putA t b _ _ w' (hv.kpt k) (hu.kpt k))
  have PR := Lib.hid (fun w' (k : Kpt w w') => rput_run _ _ t b w' (hv.kpt k) (hu.kpt k))
  have RS := Lib.hid (fun w' (k : Kpt w w') => rsum_run _ b w' (hu.kpt k))
  have GE : Hid (∀ w' (k : Kpt w w'), Calls Try.prog 11 #[.slice a t.length c] w' fun e w'' => ∃ l, e = .returned (.tuple #[l, .int .i64 0, .int .i64 2]) ∧ ReadsS w'' l [] ∧ Kpt w' w'') := fun w' k => (get_bad a t.length c w' ht).mono (by rintro e w'' ⟨rfl, hk⟩; exact ⟨_, rfl, readsS_nil w'', hk⟩)
  have TO := Lib.hid (fun w' (q : Kpt w w') => tornA _ t (K : Int) w' (hv.kpt q))
  have e0 : torE t.length (K : Int) = 2 := by unfold torE; rw [if_neg (by omega)]
  rw [e0] at TO
  simp only [if_neg (show ¬ (2 : Int) = 0 by decide)] at TO
  clear e0
  have y1 : decide ((4000 : Int) < (b.length : Int)) = true := decide_eq_true (by omega)
  have y2 : decide (4000 < b.length) = true := decide_eq_true (by omega)
  have y3 : decide ((4000 : Int) < (t.length : Int)) = true := decide_eq_true (by omega)
  have y4 : decide (4000 < t.length) = true := decide_eq_true (by omega)
  have y5 : decide ((K : Int) < 0) = false := decide_eq_false (by omega)
  have y6 : decide ((t.length : Int) < (K : Int)) = false := decide_eq_false (by omega)
  have y7 : decide (t.length < K) = false := decide_eq_false (by omega)
  have KX := Lib.hid (Kpt.refl w)
  clear hv hu hb ht hk
  generalize (if putE t b = 0 then t ++ rcd b else []) = X at *
  generalize putE t b = E at *
  generalize crc b = S at *
  go_enter Try.func3, Try.ntmps3
  go_wp2_with (first
    | (go_at_call 9; (with_reducible refine (SM.out _ KX.out).mono ?_); rintro e w1 ⟨rfl, k1⟩; have KX := Lib.hid (ktr KX.out k1); clear k1)
    | (go_at_call 10; (with_reducible refine (PU.out _ KX.out).mono ?_); rintro e w1 ⟨vp, rfl, r1, k1⟩; have KX := Lib.hid (ktr KX.out k1); have RP := Lib.hid r1; clear k1)
    | (go_at_call 11; (with_reducible refine (GE.out _ KX.out).mono ?_); rintro e w1 ⟨vl, rfl, r1, k1⟩; have KX := Lib.hid (ktr KX.out k1); have RL := Lib.hid r1; have RP := Lib.hid (RP.out.kpt k1); clear k1)
    | (go_at_call 12; (with_reducible refine (TO.out _ KX.out).mono ?_); rintro e w1 ⟨vc, rfl, r1, k1⟩; have KX := Lib.hid (ktr KX.out k1); have RC := Lib.hid r1; have RP := Lib.hid (RP.out.kpt k1); have RL := Lib.hid (RL.out.kpt k1); clear k1)
    | (go_at_call 13; (with_reducible refine (RS.out _ KX.out).mono ?_); rintro e w1 ⟨rfl, rfl⟩)
    | (go_at_call 14; (with_reducible refine (PR.out _ KX.out).mono ?_); rintro e w1 ⟨vq, rfl, r1, k1⟩; have KX := Lib.hid (ktr KX.out k1); have RQ := Lib.hid r1; have RP := Lib.hid (RP.out.kpt k1); have RL := Lib.hid (RL.out.kpt k1); have RC := Lib.hid (RC.out.kpt k1); clear k1)
    | (go_at_call 15; (with_reducible refine (GR.out _ KX.out).mono ?_); rintro e w1 ⟨vo, rfl, r1, k1⟩; have KX := Lib.hid (ktr KX.out k1); have RO := Lib.hid r1; have RP := Lib.hid (RP.out.kpt k1); have RL := Lib.hid (RL.out.kpt k1); have RC := Lib.hid (RC.out.kpt k1); have RQ := Lib.hid (RQ.out.kpt k1); clear k1)
    | (go_at_call 16; (with_reducible refine (tapeBegun _).mono ?_); rintro e w1 ⟨rfl, k1⟩; have KX := Lib.hid (ktr KX.out k1); have RP := Lib.hid (RP.out.kpt k1); have RL := Lib.hid (RL.out.kpt k1); have RC := Lib.hid (RC.out.kpt k1); have RQ := Lib.hid (RQ.out.kpt k1); clear k1)
    | (go_at_call 17; (with_reducible refine (samU_run _ _ _ _ RP.out RQ.out).mono ?_); rintro e w1 ⟨rfl, rfl⟩)
    | (go_at_call 18; (with_reducible refine (samS_run _ _ _ _ RL.out (readsS_nil _)).mono ?_); rintro e w1 ⟨rfl, k1⟩; have KX := Lib.hid (ktr KX.out k1); have RC := Lib.hid (RC.out.kpt k1); clear k1)
    | (go_at_call 17; (with_reducible refine (samU_run _ _ _ _ RC.out (readsU_nil _)).mono ?_); rintro e w1 ⟨rfl, rfl⟩))
  go_ret
  exact ⟨rfl, KX.out⟩
theorem ttells_plain (v u : Value) (k : Int) (t b : List Nat) (w : World) (hv : ReadsU w v t) (hu : ReadsU w u b) : Calls Try.prog 3 #[v, u, .int .i64 k] w fun e w' => e = .returned (.bool true) ∧ Kpt w w' := by
  obtain ⟨a, c, rfl, -⟩ := hv.form
  obtain ⟨a', c', rfl, -⟩ := hu.form
  by_cases hk : k < 0
  · by_cases hb : b.length ≤ 4000 <;> by_cases ht : t.length ≤ 4000
    · exact tu_00neg a a' c c' t b k w hv hu hb ht hk
    · exact tu_01neg a a' c c' t b k w hv hu hb (by omega) hk
    · exact tu_10neg a a' c c' t b k w hv hu (by omega) ht hk
    · exact tu_11neg a a' c c' t b k w hv hu (by omega) (by omega) hk
  · obtain ⟨K, rfl⟩ : ∃ K : Nat, k = (K : Int) := ⟨k.toNat, by omega⟩
    by_cases hK : K ≤ t.length
    · by_cases hb : b.length ≤ 4000 <;> by_cases ht : t.length ≤ 4000
      · exact tu_00ok a a' c c' t b K w hv hu hb ht hK
      · exact tu_01ok a a' c c' t b K w hv hu hb (by omega) hK
      · exact tu_10ok a a' c c' t b K w hv hu (by omega) ht hK
      · exact tu_11ok a a' c c' t b K w hv hu (by omega) (by omega) hK
    · by_cases hb : b.length ≤ 4000 <;> by_cases ht : t.length ≤ 4000
      · exact tu_00over a a' c c' t b K w hv hu hb ht (by omega)
      · exact tu_01over a a' c c' t b K w hv hu hb (by omega) (by omega)
      · exact tu_10over a a' c c' t b K w hv hu (by omega) ht (by omega)
      · exact tu_11over a a' c c' t b K w hv hu (by omega) (by omega) (by omega)

end Go.Proofs.Ytljdffkelocfbaa
