/-
  Merged: RefPrc.
-/
import Derived.Test.YtgccipmeiceonaaMk8
import Derived.Test.YtgccipmeiceonaaPrices
-- RefPrc
namespace Go.Proofs.Ytgccipmeiceonaa
open Go.RowKit
set_option linter.unusedVariables false

theorem rprc_run (p : Int) (w : World) : Calls Try.prog 62 #[.int .i64 p] w fun e w' => e = .returned (.int .i64 (if prcB p = true then 0 else 3)) ∧ w = w' := by
  have BT := Lib.hid (fun w => rbt_any p 0 1099511627776 (prcB p) rfl w)
  cases hb : prcB p with
  | true =>
    rw [hb] at BT
    rw [if_pos rfl]
    go_enter Try.func62, Try.ntmps62
    go_wp2_with (go_at_call 61; (with_reducible refine (BT.out _).mono ?_); rintro x w3 ⟨rfl, rfl⟩)
    go_ret
    exact ⟨rfl, rfl⟩
  | false =>
    rw [hb] at BT
    rw [if_neg (by decide)]
    go_enter Try.func62, Try.ntmps62
    go_wp2_with (go_at_call 61; (with_reducible refine (BT.out _).mono ?_); rintro x w3 ⟨rfl, rfl⟩)
    go_ret
    exact ⟨rfl, rfl⟩
set_option maxHeartbeats 2000000 in
theorem rprs_run (v : Value) (ps : List Int) (w : World) (hr : Reads w v ps) : Calls Try.prog 13 #[v] w fun e w' => e = .returned (.int .i64 (prsE ps)) ∧ w = w' := by
  obtain ⟨a, cap, rfl, hm, hc⟩ := hr
  unfold maxLen at hm
  have HC := Lib.hid hc
  obtain ⟨n, hn⟩ : ∃ n, n = ps.length := ⟨_, rfl⟩
  by_cases h6 : ps.length = 20
  · have HX : Hid (prsE ps = prsL (ps.drop 0)) := by unfold Hid prsE; rw [if_pos h6]; rfl
    have DR := Lib.hid (fun k (h : k < ps.length) => drop_atI h)
    have DA : Hid (ps.drop n = []) := by unfold Hid; rw [hn, List.drop_length]
    rw [← hn] at HC hm h6 DR ⊢
    have y1 : ((n : Int) != 20) = false := by rw [h6]; rfl
    have H6 : Hid (n = 20) := h6
    clear hc hn h6
    go_enter Try.func13, Try.ntmps13
    go_wp2
    go_loop [3] (fun ii => ∃ k : Nat, k ≤ n ∧ ii = .int .i64 (k : Int) ∧ Hid (prsE ps = prsL (ps.drop k))) (fun ii => n - (intOf ii).toNat)
    case atStart => exact ⟨0, Nat.zero_le _, rfl, HX.out⟩
    case round =>
      obtain ⟨k, hk, rfl, HE⟩ := hrel
      by_cases hlt : k < n
      · obtain ⟨g, off, rfl, c0⟩ := HC.out k hlt
        have he := HE.out
        rw [DR.out k hlt] at he
        unfold prsL at he
        have y2 : decide ((k : Int) < (n : Int)) = true := decide_eq_true (by omega)
        have i0 : (0 : Int) ≤ (k : Int) := by omega
        have m0 : IntKind.i64.wrap ((k : Int) + 1) = (k : Int) + 1 := IntWalk.i64_in _ (by have := H6.out; omega)
        clear HE
        generalize ps.getD k 0 = p at *
        have PC := Lib.hid (fun w' => rprc_run p w')
        by_cases hp : prcB p = true
        · rw [if_pos hp] at he PC
          have HE2 := Lib.hid he
          clear he hp
          go_wp2_with (go_at_call 62; (with_reducible refine (PC.out _).mono ?_); rintro x w2 ⟨rfl, rfl⟩)
          go_round
          case rel => exact ⟨k + 1, by omega, by go_num, HE2.out⟩
          case measure => simp [intOf]; omega
        · rw [if_neg hp] at he PC
          have HE2 := Lib.hid he
          clear he hp
          go_wp2_with (go_at_call 62; (with_reducible refine (PC.out _).mono ?_); rintro x w2 ⟨rfl, rfl⟩)
          go_ret
          exact ⟨ret_int HE2.out.symm, rfl⟩
      · obtain rfl : k = n := by omega
        rw [DA.out] at HE
        have y2 : decide ((k : Int) < (k : Int)) = false := decide_eq_false (by omega)
        go_wp2
        go_ret
        exact ⟨ret_int HE.out.symm, rfl⟩
  · have HX : Hid (prsE ps = 1) := by unfold Hid prsE; rw [if_neg h6]
    rw [← hn] at HC hm h6 ⊢
    have y1 : ((n : Int) != 20) = true := bne_iff_ne.2 (by omega)
    clear hc hn
    go_enter Try.func13, Try.ntmps13
    go_wp2
    go_ret
    exact ⟨ret_int HX.out.symm, rfl⟩

end Go.Proofs.Ytgccipmeiceonaa
