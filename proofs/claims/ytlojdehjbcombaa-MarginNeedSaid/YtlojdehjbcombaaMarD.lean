/-
  What sort.Search, kept and Spare do.
-/
import Derived.Test.YtlojdehjbcombaaMarC
namespace Go.Proofs.Ytlojdehjbcombaa
open Go.RowKit
set_option linter.unusedVariables false

/-- what Search answers: the first place behind which it is so -/
def SrchOk (n : Nat) (p : Nat → Bool) (k : Nat) : Prop := k ≤ n ∧ (k < n → p k = true) ∧ (0 < k → p (k - 1) = false)
theorem half_bit (x : Int) (h0 : 0 ≤ x) : x / 2 ^ 1 = x / 2 := by rfl
set_option maxHeartbeats 4000000 in
theorem search_run (n : Nat) (x0 x1 x2 : Value) (p : Nat → Bool) (w : World) (hn : n ≤ 1073741824)
    (hf : ∀ (i : Nat) w', i < n → Kpt w w' → Calls Try.prog 113 #[.int .i64 i, x0, x1, x2] w' fun e w'' => e = .returned (.bool (p i)) ∧ Kpt w' w'') :
    Calls Try.prog 112 #[.int .i64 n, .func (.func 113) #[] #[x0, x1, x2]] w fun e w' => ∃ k : Nat, e = .returned (.int .i64 k) ∧ SrchOk n p k ∧ Kpt w w' := by
  have HF := Lib.hid hf
  clear hf
  have HN := Lib.hid hn
  go_enter Try.func112, Try.ntmps112
  go_wp2
  go_loopw [5, 6, 7] (fun ii jj hh wr => ∃ i j : Nat, ii = .int .i64 (i : Int) ∧ jj = .int .i64 (j : Int) ∧ i ≤ j ∧ j ≤ n ∧ Hid ((j < n → p j = true) ∧ (0 < i → p (i - 1) = false)) ∧ Hid (Kpt w wr)) (fun ii jj _ _ => (intOf jj).toNat - (intOf ii).toNat)
  case atStart => exact ⟨0, n, rfl, rfl, Nat.zero_le _, Nat.le_refl _, ⟨fun h => absurd h (Nat.lt_irrefl _), fun h => absurd h (Nat.lt_irrefl _)⟩, Kpt.refl w⟩
  case round =>
    obtain ⟨i, j, rfl, rfl, hij, hjn, HP, HK⟩ := hrel
    by_cases hlt : i < j
    · have y1 : (i : Int) < (j : Int) := by omega
      have w1 : IntKind.i64.wrap ((i : Int) + (j : Int)) = (i : Int) + (j : Int) := IntWalk.i64_in _ (by omega)
      have w2 : IntKind.u64.wrap ((i : Int) + (j : Int)) = (i : Int) + (j : Int) := IntWalk.u64_in _ (by omega)
      obtain ⟨h, hh⟩ : ∃ h : Nat, (h : Int) = ((i : Int) + (j : Int)) / 2 := ⟨((i + j) / 2 : Nat), by omega⟩
      have h1 : i ≤ h := by omega
      have h2 : h < j := by omega
      have FC := Lib.hid (fun w' (k : Kpt w w') => HF.out h w' (by omega) k)
      rw [hh] at FC
      have HH := Lib.hid hh
      clear hh
      cases hp : p h with
      | true =>
        rw [hp] at FC
        have HP2 : Hid ((h < n → p h = true) ∧ (0 < i → p (i - 1) = false)) := ⟨fun _ => hp, HP.out.2⟩
        clear HP hp
        go_wp2_with (go_at_call 113; (with_reducible refine (FC.out _ HK.out).mono ?_); rintro e wa ⟨rfl, k1⟩; have K1 := Lib.hid (ktr HK.out k1); clear k1)
        go_roundw
        case rel => exact ⟨i, h, rfl, congrArg (Value.int .i64) HH.out.symm, h1, by omega, HP2.out, K1.out⟩
        case measure => have := HH.out; simp [intOf]; omega
      | false =>
        rw [hp] at FC
        have HP2 : Hid ((j < n → p j = true) ∧ (0 < h + 1 → p (h + 1 - 1) = false)) := ⟨HP.out.1, fun _ => hp⟩
        clear HP hp
        go_wp2_with (go_at_call 113; (with_reducible refine (FC.out _ HK.out).mono ?_); rintro e wa ⟨rfl, k1⟩; have K1 := Lib.hid (ktr HK.out k1); clear k1)
        go_roundw
        case rel => exact ⟨h + 1, j, congrArg (Value.int .i64) (by have := HH.out; omega), rfl, by omega, hjn, HP2.out, K1.out⟩
        case measure => have := HH.out; simp [intOf]; omega
    · obtain rfl : i = j := by omega
      go_wp2
      go_ret
      exact ⟨i, rfl, ⟨hjn, HP.out⟩, HK.out⟩

end Go.Proofs.Ytlojdehjbcombaa
