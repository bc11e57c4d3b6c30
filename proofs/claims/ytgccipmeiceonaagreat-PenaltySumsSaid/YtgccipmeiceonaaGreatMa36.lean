/-
  Merged: RefStand.
-/
import Derived.Test.YtgccipmeiceonaaGreatMa35
-- RefStand
namespace Go.Proofs.YtgccipmeiceonaaGreat
open Go.RowKit
set_option linter.unusedVariables false

def stdL (ps : List (Int × Int × Int)) (n : Nat) : List Int := (List.range n).map fun u => standF ps u
theorem stdL_more (ps : List (Int × Int × Int)) (n : Nat) : stdL ps (n + 1) = stdL ps n ++ [standF ps n] := by
  unfold stdL; rw [List.range_succ, List.map_append]; rfl
theorem stdL_len (ps : List (Int × Int × Int)) (n : Nat) : (stdL ps n).length = n := by unfold stdL; rw [List.length_map, List.length_range]
def StdRes (ps : List (Int × Int × Int)) (base : Nat) (e : Ending) (w' : World) : Prop :=
  (netE ps ≠ 0 ∧ e = .returned (.tuple #[.slice none 0 0, .int .i64 (netE ps)])) ∨ (netE ps = 0 ∧ (∃ u : Nat, u < 31 ∧ amtB (standF ps u) = false) ∧ e = .returned (.tuple #[.slice none 0 0, .int .i64 8])) ∨ (netE ps = 0 ∧ (∀ u : Nat, u < 31 → amtB (standF ps u) = true) ∧ ∃ v', e = .returned (.tuple #[v', .int .i64 0]) ∧ Owns w' base v' (stdL ps 31))

set_option maxRecDepth 100000 in
set_option maxHeartbeats 4000000 in
theorem rns_run (v : Value) (ps : List (Int × Int × Int)) (w : World) (hr : ReadsP w v ps) :
    Calls Tryz.prog 20 #[v] w fun e w' => Hid (StdRes ps w.heap.size e w') ∧ Kpt w w' := by
  have NC := Lib.hid (rnc_run v ps w hr)
  by_cases h0 : netE ps = 0
  · have hn : ps.length ≤ 60 ∧ ∀ p ∈ ps, dueO p := by
      unfold netE at h0
      split at h0
      · cases h0
      · exact ⟨by omega, due_0 h0⟩
    have DT := Lib.hid (fun (x : Nat) w' (k : Kpt w w') => rdt_run v ps x w' (hr.kpt k) hn.1 hn.2)
    have SM := Lib.hid (fun (x : Nat) => dueA_sum ps hn.2 x)
    have AM := Lib.hid (fun (x : Nat) => dueA_amt ps hn.2 (x : Int))
    have LN := Lib.hid (fun (x : Nat) => Nat.le_trans (dueA_len ps (x : Int)) (Nat.le_trans hn.1 (by decide : 60 ≤ 1000)))
    have H0 := Lib.hid h0
    rw [h0] at NC
    clear hn h0 hr
    go_enter Tryz.func20, Tryz.ntmps20
    go_wp2_with (go_at_call 62; (with_reducible refine NC.out.mono ?_); rintro e w1 ⟨rfl, k1⟩; have K1 := Lib.hid k1; clear k1)
    go_loopw [5, 6] (fun m i wr => ∃ k : Nat, k ≤ 31 ∧ i = .int .i64 k ∧ Hid (Owns wr w.heap.size m (stdL ps k)) ∧ Hid (∀ u : Nat, u < k → amtB (standF ps u) = true) ∧ Hid (Kpt w wr)) (fun _ i _ => 31 - (intOf i).toNat)
    case atStart => exact ⟨0, Nat.zero_le _, rfl, Owns.nil _ _, fun u hu => absurd hu (Nat.not_lt_zero u), K1.out⟩
    case round =>
      obtain ⟨k, hk, rfl, HO, HA, HJ⟩ := hrel
      by_cases hlt : k < 31
      · have D := Lib.hid (fun w' kk => DT.out k w' kk)
        have hl := stdL_len ps k
        have y1 : decide ((k : Int) ≤ 30) = true := decide_eq_true (by omega)
        cases hA : amtB (standF ps k) with
        | false =>
          have SO := Lib.hid (fun v' w' base (h : Owns w' base v' (dueA ps k)) => sumOf_no v' (dueA ps k) _ h (LN.out k) (AM.out k) (SM.out k) hA)
          have HP : Hid (∃ u : Nat, u < 31 ∧ amtB (standF ps u) = false) := ⟨k, hlt, hA⟩
          clear hA
          go_wp2_with (first
            | (go_at_call 64; (with_reducible refine (D.out _ HJ.out).mono ?_); rintro e w6 ⟨v6, rfl, O6, k6⟩; have K6 := Lib.hid (ktr HJ.out k6.out); clear k6)
            | (go_at_call 63; (with_reducible refine (SO.out _ _ _ O6.out).mono ?_); rintro e w7 ⟨r7, rfl, k7⟩; have K7 := Lib.hid (ktr K6.out k7); clear k7))
          go_ret2
          exact ⟨.inr (.inl ⟨H0.out, HP.out, rfl⟩), K7.out⟩
        | true =>
          have SO := Lib.hid (fun v' w' base (h : Owns w' base v' (dueA ps k)) => sumOf_own v' (dueA ps k) _ h (LN.out k) (AM.out k) (SM.out k) hA)
          have HX : Hid (∀ u : Nat, u < k + 1 → amtB (standF ps u) = true) := fun i hi => by
            rcases Nat.lt_or_ge i k with h | h
            · exact HA.out i h
            · obtain rfl : i = k := by omega
              exact hA
          have HN : Hid (stdL ps (k + 1) = stdL ps k ++ [standF ps k]) := stdL_more ps k
          clear hA
          generalize standF ps k = S at *
          go_wp2_with (first
            | (go_at_call 64; (with_reducible refine (D.out _ HJ.out).mono ?_); rintro e w6 ⟨v6, rfl, O6, k6⟩; have K6 := Lib.hid (ktr HJ.out k6.out); have J6 := Lib.hid k6.out; clear k6)
            | (go_at_call 63; (with_reducible refine (SO.out _ _ _ O6.out).mono ?_); rintro e w7 ⟨rfl, k7⟩; have K7 := Lib.hid (ktr K6.out k7); have HO7 := Lib.hid (HO.out.kpt (ktr J6.out k7)); clear k7)
            | (at_builtin; refine wp_append1 rfl (.tmp 27) (.tmp 29) rfl w.heap.size _ _ S w7 rfl HO7.out rfl (by omega) K7.out.size ?_; intro v' w' h1 h2; have HO' : Hid (Owns w' w.heap.size v' (stdL ps (k + 1))) := (by unfold Hid; rw [HN.out]; exact h1); have HJ' : Hid (Kpt w w') := Below.trans K7.out h2; clear h1 h2))
          go_roundw
          case rel => exact ⟨k + 1, by omega, by go_num, HO'.out, HX.out, HJ'.out⟩
          case measure => simp [intOf]; omega
      · obtain rfl : k = 31 := by omega
        go_wp2
        go_ret2
        exact ⟨.inr (.inr ⟨H0.out, HA.out, _, rfl, HO.out⟩), HJ.out⟩
  · have HE : Hid (StdRes ps w.heap.size (.returned (.tuple #[.slice none 0 0, .int .i64 (netE ps)])) w) := .inl ⟨h0, rfl⟩
    have HF : Hid (∀ w', StdRes ps w.heap.size (.returned (.tuple #[.slice none 0 0, .int .i64 (netE ps)])) w') := fun _ => .inl ⟨h0, rfl⟩
    have q : (netE ps != 0) = true := bne_iff_ne.2 h0
    clear h0 hr HE
    generalize netE ps = E at *
    go_enter Tryz.func20, Tryz.ntmps20
    go_wp2_with (go_at_call 62; (with_reducible refine NC.out.mono ?_); rintro e w1 ⟨rfl, k1⟩; have K1 := Lib.hid k1; clear k1)
    go_ret2
    exact ⟨HF.out _, K1.out⟩

end Go.Proofs.YtgccipmeiceonaaGreat
