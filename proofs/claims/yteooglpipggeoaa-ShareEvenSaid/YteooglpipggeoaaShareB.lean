/-
  What nextSeat of package share does: contracts.
-/
import Derived.Test.YteooglpipggeoaaShareA
namespace Go.Proofs.Yteooglpipggeoaa
open Go.RowKit
set_option linter.unusedVariables false

theorem Grew.drewN {w w' : World} (h : Grew w w') (n : Nat) : Grew w (w'.drewN n) := by
  induction n generalizing w' with
  | zero => exact h
  | succ n ih => exact (ih h).drew
theorem mul_bd {a b : Int} (h1 : 0 ≤ a) (h2 : a ≤ 1099511627776) (h3 : 0 ≤ b) (h4 : b ≤ 2001) : 0 ≤ a * b ∧ a * b ≤ 2200122767179777 := by
  refine ⟨Int.mul_nonneg h1 h3, ?_⟩
  have := Int.mul_le_mul h2 h4 h3 (by omega)
  omega
/-- a place in a list, in the walk's words -/
theorem at_getD {zs : List Int} (k : Nat) : zs.getD k 0 = zs[k]?.getD 0 := List.getD_eq_getElem?_getD ..


set_option maxRecDepth 100000 in
set_option maxHeartbeats 1000000 in
theorem nextSeat_ones (b off cap c off' cap' : Nat) (ws ss : List Int) (w : World) (h0 : 0 < ws.length) (hm : ws.length ≤ 40) (hl : ss.length = ws.length)
    (hw : ∀ j, j < ws.length → w.cell? ⟨b, off + j, none⟩ = some (.int .i64 (ws.getD j 0))) (hs : ∀ j, j < ws.length → w.cell? ⟨c, off' + j, none⟩ = some (.int .i64 (ss.getD j 0)))
    (hwb : ∀ k, 0 ≤ ws.getD k 0 ∧ ws.getD k 0 ≤ 1099511627776) (hsb : ∀ k, 0 ≤ ss.getD k 0 ∧ ss.getD k 0 ≤ 1000) :
    Calls Try.prog 56 #[.slice (some ⟨b, off, none⟩) ws.length cap, .slice (some ⟨c, off', none⟩) ws.length cap', .func (.func 100) #[] #[]] w fun e w' => e = .returned (.int .i64 (nx byOnes ws ss ws.length)) ∧ Grew w w' := by
  have HW := Lib.hid hw; clear hw
  have HS := Lib.hid hs; clear hs
  have HWB := Lib.hid hwb; clear hwb
  have HSB := Lib.hid hsb; clear hsb
  have HL := Lib.hid hl; clear hl
  go_enter Try.func56, Try.ntmps56
  go_wp2
  go_loopw [7, 12] (fun p i wr => ∃ k : Nat, k ≤ ws.length ∧ i = .int .i64 k ∧ p = .int .i64 (nx byOnes ws ss k) ∧ Hid (Grew w wr)) (fun _ i _ => ws.length - (intOf i).toNat)
  case atStart => exact ⟨0, Nat.zero_le _, rfl, rfl, Grew.refl _⟩
  case round =>
    obtain ⟨k, hk, rfl, rfl, HG⟩ := hrel
    by_cases hlt : k < ws.length
    · have hbl := nx_lt byOnes ws ss h0 hk
      have HT : Hid (ws.getD k 0 * byOnes (ss.getD (nx byOnes ws ss k) 0) > ws.getD (nx byOnes ws ss k) 0 * byOnes (ss.getD k 0) → nx byOnes ws ss (k + 1) = k) := fun h => nx_t h
      have HF : Hid (¬ ws.getD k 0 * byOnes (ss.getD (nx byOnes ws ss k) 0) > ws.getD (nx byOnes ws ss k) 0 * byOnes (ss.getD k 0) → nx byOnes ws ss (k + 1) = nx byOnes ws ss k) := fun h => nx_f h
      obtain ⟨p, hp⟩ : ∃ p, nx byOnes ws ss k = p := ⟨_, rfl⟩
      rw [hp] at hbl HT HF ⊢
      clear hp
      have c1 := HG.out.cell (cell_in (HW.out k hlt)) (HW.out k hlt)
      have c2 := HG.out.cell (cell_in (HW.out p hbl)) (HW.out p hbl)
      have c3 := HG.out.cell (cell_in (HS.out k hlt)) (HS.out k hlt)
      have c4 := HG.out.cell (cell_in (HS.out p hbl)) (HS.out p hbl)
      have b1 := HWB.out k
      have b2 := HWB.out p
      have b3 := HSB.out k
      have b4 := HSB.out p
      generalize ws.getD k 0 = wk at c1 b1 HT HF
      generalize ws.getD p 0 = wp at c2 b2 HT HF
      generalize ss.getD k 0 = sk at c3 b3 HT HF
      generalize ss.getD p 0 = sp at c4 b4 HT HF
      have d3 : 0 ≤ byOnes sk ∧ byOnes sk ≤ 2001 := by unfold byOnes; omega
      have d4 : 0 ≤ byOnes sp ∧ byOnes sp ≤ 2001 := by unfold byOnes; omega
      have R3 := Lib.hid (fun w => ones_run sk b3.1 b3.2 w)
      have R4 := Lib.hid (fun w => ones_run sp b4.1 b4.2 w)
      generalize byOnes sk = dk at d3 R3 HT HF
      generalize byOnes sp = dp at d4 R4 HT HF
      have m1 := mul_bd b1.1 b1.2 d4.1 d4.2
      have m2 := mul_bd b2.1 b2.2 d3.1 d3.2
      have e1 : IntKind.i64.wrap (wk * dp) = wk * dp := IntWalk.i64_in _ (by omega)
      have e2 : IntKind.i64.wrap (wp * dk) = wp * dk := IntWalk.i64_in _ (by omega)
      have hk0 : (0 : Int) ≤ k := by omega
      have hp0 : (0 : Int) ≤ p := by omega
      have hk1 : (k : Int) < ws.length := by omega
      have hp1 : (p : Int) < ws.length := by omega
      by_cases ht : wk * dp > wp * dk
      · have q := decide_eq_true ht
        have E := Lib.hid (HT.out ht)
        clear HT HF
        go_wp2
        go_quiet ((first | (go_at_call 100; with_reducible exact Calls.quiet_of_same (R4.out _)) | (go_at_call 100; with_reducible exact Calls.quiet_of_same (R3.out _))))
        go_wp2
        go_roundw
        case rel => exact ⟨k + 1, by omega, by go_num, by rw [E.out], by unfold Hid; exact HG.out.drewN _⟩
        case measure => simp [intOf]; omega
      · have q := decide_eq_false ht
        have E := Lib.hid (HF.out ht)
        clear HT HF
        go_wp2
        go_quiet ((first | (go_at_call 100; with_reducible exact Calls.quiet_of_same (R4.out _)) | (go_at_call 100; with_reducible exact Calls.quiet_of_same (R3.out _))))
        go_wp2
        go_roundw
        case rel => exact ⟨k + 1, by omega, by go_num, by rw [E.out], by unfold Hid; exact HG.out.drewN _⟩
        case measure => simp [intOf]; omega
    · obtain rfl : k = ws.length := by omega
      go_wp2
      go_ret
      exact ⟨rfl, HG.out⟩

set_option maxRecDepth 100000 in
set_option maxHeartbeats 1000000 in
theorem nextSeat_odds (b off cap c off' cap' : Nat) (ws ss : List Int) (w : World) (h0 : 0 < ws.length) (hm : ws.length ≤ 40) (hl : ss.length = ws.length)
    (hw : ∀ j, j < ws.length → w.cell? ⟨b, off + j, none⟩ = some (.int .i64 (ws.getD j 0))) (hs : ∀ j, j < ws.length → w.cell? ⟨c, off' + j, none⟩ = some (.int .i64 (ss.getD j 0)))
    (hwb : ∀ k, 0 ≤ ws.getD k 0 ∧ ws.getD k 0 ≤ 1099511627776) (hsb : ∀ k, 0 ≤ ss.getD k 0 ∧ ss.getD k 0 ≤ 1000) :
    Calls Try.prog 56 #[.slice (some ⟨b, off, none⟩) ws.length cap, .slice (some ⟨c, off', none⟩) ws.length cap', .func (.func 101) #[] #[]] w fun e w' => e = .returned (.int .i64 (nx byOdds ws ss ws.length)) ∧ Grew w w' := by
  have HW := Lib.hid hw; clear hw
  have HS := Lib.hid hs; clear hs
  have HWB := Lib.hid hwb; clear hwb
  have HSB := Lib.hid hsb; clear hsb
  have HL := Lib.hid hl; clear hl
  go_enter Try.func56, Try.ntmps56
  go_wp2
  go_loopw [7, 12] (fun p i wr => ∃ k : Nat, k ≤ ws.length ∧ i = .int .i64 k ∧ p = .int .i64 (nx byOdds ws ss k) ∧ Hid (Grew w wr)) (fun _ i _ => ws.length - (intOf i).toNat)
  case atStart => exact ⟨0, Nat.zero_le _, rfl, rfl, Grew.refl _⟩
  case round =>
    obtain ⟨k, hk, rfl, rfl, HG⟩ := hrel
    by_cases hlt : k < ws.length
    · have hbl := nx_lt byOdds ws ss h0 hk
      have HT : Hid (ws.getD k 0 * byOdds (ss.getD (nx byOdds ws ss k) 0) > ws.getD (nx byOdds ws ss k) 0 * byOdds (ss.getD k 0) → nx byOdds ws ss (k + 1) = k) := fun h => nx_t h
      have HF : Hid (¬ ws.getD k 0 * byOdds (ss.getD (nx byOdds ws ss k) 0) > ws.getD (nx byOdds ws ss k) 0 * byOdds (ss.getD k 0) → nx byOdds ws ss (k + 1) = nx byOdds ws ss k) := fun h => nx_f h
      obtain ⟨p, hp⟩ : ∃ p, nx byOdds ws ss k = p := ⟨_, rfl⟩
      rw [hp] at hbl HT HF ⊢
      clear hp
      have c1 := HG.out.cell (cell_in (HW.out k hlt)) (HW.out k hlt)
      have c2 := HG.out.cell (cell_in (HW.out p hbl)) (HW.out p hbl)
      have c3 := HG.out.cell (cell_in (HS.out k hlt)) (HS.out k hlt)
      have c4 := HG.out.cell (cell_in (HS.out p hbl)) (HS.out p hbl)
      have b1 := HWB.out k
      have b2 := HWB.out p
      have b3 := HSB.out k
      have b4 := HSB.out p
      generalize ws.getD k 0 = wk at c1 b1 HT HF
      generalize ws.getD p 0 = wp at c2 b2 HT HF
      generalize ss.getD k 0 = sk at c3 b3 HT HF
      generalize ss.getD p 0 = sp at c4 b4 HT HF
      have d3 : 0 ≤ byOdds sk ∧ byOdds sk ≤ 2001 := by unfold byOdds; omega
      have d4 : 0 ≤ byOdds sp ∧ byOdds sp ≤ 2001 := by unfold byOdds; omega
      have R3 := Lib.hid (fun w => odds_run sk b3.1 b3.2 w)
      have R4 := Lib.hid (fun w => odds_run sp b4.1 b4.2 w)
      generalize byOdds sk = dk at d3 R3 HT HF
      generalize byOdds sp = dp at d4 R4 HT HF
      have m1 := mul_bd b1.1 b1.2 d4.1 d4.2
      have m2 := mul_bd b2.1 b2.2 d3.1 d3.2
      have e1 : IntKind.i64.wrap (wk * dp) = wk * dp := IntWalk.i64_in _ (by omega)
      have e2 : IntKind.i64.wrap (wp * dk) = wp * dk := IntWalk.i64_in _ (by omega)
      have hk0 : (0 : Int) ≤ k := by omega
      have hp0 : (0 : Int) ≤ p := by omega
      have hk1 : (k : Int) < ws.length := by omega
      have hp1 : (p : Int) < ws.length := by omega
      by_cases ht : wk * dp > wp * dk
      · have q := decide_eq_true ht
        have E := Lib.hid (HT.out ht)
        clear HT HF
        go_wp2
        go_quiet ((first | (go_at_call 101; with_reducible exact Calls.quiet_of_same (R4.out _)) | (go_at_call 101; with_reducible exact Calls.quiet_of_same (R3.out _))))
        go_wp2
        go_roundw
        case rel => exact ⟨k + 1, by omega, by go_num, by rw [E.out], by unfold Hid; exact HG.out.drewN _⟩
        case measure => simp [intOf]; omega
      · have q := decide_eq_false ht
        have E := Lib.hid (HF.out ht)
        clear HT HF
        go_wp2
        go_quiet ((first | (go_at_call 101; with_reducible exact Calls.quiet_of_same (R4.out _)) | (go_at_call 101; with_reducible exact Calls.quiet_of_same (R3.out _))))
        go_wp2
        go_roundw
        case rel => exact ⟨k + 1, by omega, by go_num, by rw [E.out], by unfold Hid; exact HG.out.drewN _⟩
        case measure => simp [intOf]; omega
    · obtain rfl : k = ws.length := by omega
      go_wp2
      go_ret
      exact ⟨rfl, HG.out⟩

end Go.Proofs.Yteooglpipggeoaa
