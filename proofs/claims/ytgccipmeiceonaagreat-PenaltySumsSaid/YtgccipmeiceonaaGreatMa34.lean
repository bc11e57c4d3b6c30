/-
  Merged: RefNet.
-/
import Derived.Test.YtgccipmeiceonaaGreatMa33
import Derived.Test.YtgccipmeiceonaaGreatMa22
import Derived.Deep.QuietTactic
import Derived.BigQuiet
-- RefNet
namespace Go.Proofs.YtgccipmeiceonaaGreat
open Go.RowKit
set_option linter.unusedVariables false

theorem rnc_many (a : Option Addr) (n cap : Nat) (hn : 60 < n) (hb : n ≤ maxLen) (w : World) : Calls Tryz.prog 62 #[.slice a n cap] w fun e w' => e = .returned (.int .i64 2) ∧ Kpt w w' := by
  unfold maxLen at hb
  have h1 : (60 : Int) < (n : Int) := by omega
  go_enter Tryz.func62, Tryz.ntmps62
  go_wp2
  go_ret
  exact ⟨rfl, Kpt.refl _⟩
set_option maxHeartbeats 4000000 in
theorem rnc_few (a : Option Addr) (cap : Nat) (ps : List (Int × Int × Int)) (w : World) (hm : ps.length ≤ 60) (hc : ∀ j, j < ps.length → ∃ b off, a = some ⟨b, off, none⟩ ∧ PtAt w b (off + j * 3) (ps.getD j default)) :
    Calls Tryz.prog 62 #[.slice a ps.length cap] w fun e w' => e = .returned (.int .i64 (dueE ps)) ∧ Kpt w w' := by
  have HC := Lib.hid hc; clear hc
  go_enter Tryz.func62, Tryz.ntmps62
  go_wp2
  go_loopw [3] (fun i wr => ∃ k : Nat, k ≤ ps.length ∧ i = .int .i64 k ∧ Hid (dueE ps = dueE (ps.drop k)) ∧ Hid (Kpt w wr)) (fun i _ => ps.length - (intOf i).toNat)
  case atStart => exact ⟨0, Nat.zero_le _, rfl, rfl, Kpt.refl _⟩
  case round =>
    obtain ⟨k, hk, rfl, HE, HK⟩ := hrel
    by_cases hlt : k < ps.length
    · obtain ⟨x, off, rfl, c0, c1, c2⟩ := HC.out k hlt
      replace c0 := HK.out.cell c0
      replace c1 := HK.out.cell c1
      replace c2 := HK.out.cell c2
      have hd := due_drop hlt
      generalize ps.getD k default = p at c0 c1 c2 hd
      have HD : Hid (dueE ps = dueE (p :: ps.drop (k + 1))) := by unfold Hid; rw [HE.out, hd]
      clear hd
      obtain ⟨F, T, A⟩ := p
      simp only at c0 c1 c2
      by_cases hf : 0 ≤ F ∧ F ≤ 30
      · have BF := Lib.hid (fun w => rbt_any F 0 30 true (by unfold btw; exact decide_eq_true hf) w)
        by_cases ht : 0 ≤ T ∧ T ≤ 30
        · have BT := Lib.hid (fun w => rbt_any T 0 30 true (by unfold btw; exact decide_eq_true ht) w)
          by_cases ha : 1 ≤ A ∧ A ≤ 1152921504606846976
          · have BA := Lib.hid (fun w => rbt_any A 1 1152921504606846976 true (by unfold btw; exact decide_eq_true ha) w)
            have hB : dueB (F, T, A) = true := decide_eq_true ⟨hf.1, hf.2, ht.1, ht.2, ha.1, ha.2⟩
            by_cases hs : F = T
            · have HX : Hid (dueE ps = 1) := by unfold Hid; rw [HD.out, due_self hB hs]
              have q : (F == T) = true := beq_iff_eq.2 hs
              clear hB hs hf ht ha
              go_wp2_with (first
                | (go_at_call 53; (with_reducible refine (BF.out _).mono ?_); rintro e w' ⟨rfl, rfl⟩)
                | (go_at_call 53; (with_reducible refine (BT.out _).mono ?_); rintro e w' ⟨rfl, rfl⟩)
                | (go_at_call 53; (with_reducible refine (BA.out _).mono ?_); rintro e w' ⟨rfl, rfl⟩)
                | fail)
              go_quiet (fail)
              go_wp2
              go_ret
              exact ⟨ret_int HX.out.symm, HK.out.drewN _⟩
            · have HX : Hid (dueE ps = dueE (ps.drop (k + 1))) := by unfold Hid; rw [HD.out, due_ok hB hs]
              have q : (F == T) = false := beq_eq_false_iff_ne.2 hs
              clear hB hs hf ht ha
              go_wp2_with (first
                | (go_at_call 53; (with_reducible refine (BF.out _).mono ?_); rintro e w' ⟨rfl, rfl⟩)
                | (go_at_call 53; (with_reducible refine (BT.out _).mono ?_); rintro e w' ⟨rfl, rfl⟩)
                | (go_at_call 53; (with_reducible refine (BA.out _).mono ?_); rintro e w' ⟨rfl, rfl⟩)
                | fail)
              go_quiet (fail)
              go_wp2
              go_roundw
              case rel => exact ⟨k + 1, by omega, by go_num, HX.out, HK.out.drewN _⟩
              case measure => simp [intOf]; omega
          · have BA := Lib.hid (fun w => rbt_any A 1 1152921504606846976 false (by unfold btw; exact decide_eq_false ha) w)
            have HX : Hid (dueE ps = 3) := by unfold Hid; rw [HD.out, due_no (decide_eq_false (by simp only; omega))]
            clear hf ht ha
            go_wp2_with (first
              | (go_at_call 53; (with_reducible refine (BF.out _).mono ?_); rintro e w' ⟨rfl, rfl⟩)
              | (go_at_call 53; (with_reducible refine (BT.out _).mono ?_); rintro e w' ⟨rfl, rfl⟩)
              | (go_at_call 53; (with_reducible refine (BA.out _).mono ?_); rintro e w' ⟨rfl, rfl⟩)
              | fail)
            go_ret
            exact ⟨ret_int HX.out.symm, HK.out⟩
        · have BT := Lib.hid (fun w => rbt_any T 0 30 false (by unfold btw; exact decide_eq_false ht) w)
          have HX : Hid (dueE ps = 3) := by unfold Hid; rw [HD.out, due_no (decide_eq_false (by simp only; omega))]
          clear hf ht
          go_wp2_with (first
            | (go_at_call 53; (with_reducible refine (BF.out _).mono ?_); rintro e w' ⟨rfl, rfl⟩)
            | (go_at_call 53; (with_reducible refine (BT.out _).mono ?_); rintro e w' ⟨rfl, rfl⟩)
            | fail)
          go_ret
          exact ⟨ret_int HX.out.symm, HK.out⟩
      · have BF := Lib.hid (fun w => rbt_any F 0 30 false (by unfold btw; exact decide_eq_false hf) w)
        have HX : Hid (dueE ps = 3) := by unfold Hid; rw [HD.out, due_no (decide_eq_false (by simp only; omega))]
        clear hf
        go_wp2_with (first
          | (go_at_call 53; (with_reducible refine (BF.out _).mono ?_); rintro e w' ⟨rfl, rfl⟩)
          | fail)
        go_ret
        exact ⟨ret_int HX.out.symm, HK.out⟩
    · obtain rfl : k = ps.length := by omega
      have HX : Hid (dueE ps = 0) := by unfold Hid; rw [HE.out, List.drop_length]; rfl
      have y2 : decide (((ps.length : Nat) : Int) < (ps.length : Int)) = false := decide_eq_false (by omega)
      go_wp2
      go_ret
      exact ⟨ret_int HX.out.symm, HK.out⟩
theorem rnc_run (v : Value) (ps : List (Int × Int × Int)) (w : World) (hr : ReadsP w v ps) :
    Calls Tryz.prog 62 #[v] w fun e w' => e = .returned (.int .i64 (netE ps)) ∧ Kpt w w' := by
  obtain ⟨a, cap, rfl, -, hm, -, hc⟩ := hr
  unfold netE
  by_cases h : 60 < ps.length
  · rw [if_pos h]; exact rnc_many a _ cap h hm w
  · rw [if_neg h]; exact rnc_few a cap ps w (by omega) hc

end Go.Proofs.YtgccipmeiceonaaGreat
