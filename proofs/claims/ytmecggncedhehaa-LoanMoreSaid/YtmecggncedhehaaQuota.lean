/-
  What quota of package share does: its contract.
-/
import Derived.Test.YtmecggncedhehaaTotal
import Derived.Test.YtmecggncedhehaaShareC
import Derived.Test.YtmecggncedhehaaPartsMath
namespace Go.Proofs.Ytmecggncedhehaa
open Go.RowKit
set_option linter.unusedVariables false

theorem quot_le {T z S : Int} (hT : 0 ≤ T) (hz : 0 ≤ z) (hS : 0 < S) (h : z ≤ S) : 0 ≤ T * z / S ∧ T * z / S ≤ T := by
  refine ⟨Int.ediv_nonneg (Int.mul_nonneg hT hz) (by omega), ?_⟩
  have : T * z ≤ T * S := Int.mul_le_mul_of_nonneg_left h hT
  exact Int.ediv_le_of_le_mul hS this

theorem quota_small (T z S : Int) (hT : 0 ≤ T) (hT' : T ≤ 1152921504606846976) (hz : 0 ≤ z) (hzS : z ≤ S) (hS : 0 < S) (hS' : S ≤ 1099511627776) (w : World) :
    Calls Try.prog 115 #[.int .i64 T, .int .i64 z, .int .i64 S] w fun e w' => e = .returned (.tuple #[.int .i64 (T * z / S), .int .i64 (T * z % S)]) ∧ Grew w w' := by
  have q := quot_le hT hz hS hzS
  have P := Lib.hid (part_ok T z S (amt_mk (by omega) hT') (decide_eq_true ⟨by omega, by omega, by omega, by omega⟩) (amt_mk (by omega) (by omega)) w)
  generalize T * z / S = a at P q ⊢
  generalize T * z % S = b at P ⊢
  go_enter Try.func115, Try.ntmps115
  go_wp2_with (go_at_call 40; (with_reducible refine P.out.mono ?_); rintro e w1 ⟨rfl, h1⟩)
  go_ret2
  exact ⟨rfl, h1⟩

theorem word_split (p s : Nat) : (p / 18446744073709551616 * 18446744073709551616 + p % 18446744073709551616) = p := by omega

set_option maxHeartbeats 400000 in
theorem quota_big (T z S : Int) (hT : 0 ≤ T) (hT' : T ≤ 1152921504606846976) (hz : 0 ≤ z) (hz' : z ≤ 1099511627776) (hzS : z ≤ S) (hS : 1099511627776 < S) (hS' : S ≤ 43980465111040) (w : World) :
    Calls Try.prog 115 #[.int .i64 T, .int .i64 z, .int .i64 S] w fun e w' => e = .returned (.tuple #[.int .i64 (T * z / S), .int .i64 (T * z % S)]) ∧ Grew w w' := by
  have q := quot_le hT hz (show 0 < S by omega) hzS
  have r := Int.emod_lt_of_pos (T * z) (show 0 < S by omega)
  have r' := Int.emod_nonneg (T * z) (show S ≠ 0 by omega)
  obtain ⟨t, rfl⟩ : ∃ t : Nat, T = t := ⟨T.toNat, by omega⟩
  obtain ⟨y, rfl⟩ : ∃ y : Nat, z = y := ⟨z.toNat, by omega⟩
  obtain ⟨s, rfl⟩ : ∃ s : Nat, S = s := ⟨S.toNat, by omega⟩
  have M := Try.bits_Mul64 t y (by omega) (by omega) w
  have hp : t * y ≤ 1152921504606846976 * 1099511627776 := Nat.mul_le_mul (by omega) (by omega)
  have hi : t * y / 18446744073709551616 < s := by omega
  have D := div64 (t * y / 18446744073709551616) (t * y % 18446744073709551616) s hi (Nat.mod_lt _ (by omega)) (by omega) w
  rw [word_split _ s] at D
  rw [← Int.natCast_mul, ← Int.natCast_ediv] at q
  rw [← Int.natCast_mul, ← Int.natCast_emod] at r r'
  rw [← Int.natCast_mul, ← Int.natCast_ediv, ← Int.natCast_emod]
  generalize t * y / 18446744073709551616 = a at M D
  generalize t * y % 18446744073709551616 = b at M D
  generalize t * y / s = c at D q ⊢
  generalize t * y % s = d at D r r' ⊢
  have HM := Lib.hid M
  have HD := Lib.hid D
  clear M D hp hi
  have g : decide ((s : Int) ≤ 1099511627776) = false := decide_eq_false (by omega)
  have e1 : wrap64 (c : Int) = c := by unfold wrap64; omega
  have e2 : wrap64 (d : Int) = d := by unfold wrap64; omega
  have E1 := Lib.hid e1
  have E2 := Lib.hid e2
  clear e1 e2
  go_enter Try.func115, Try.ntmps115
  go_wp2_with (first
    | (go_at_call 121; (with_reducible refine HM.out.mono ?_); rintro e w1 ⟨rfl, rfl⟩)
    | (go_at_call 122; (with_reducible refine HD.out.mono ?_); rintro e w2 ⟨rfl, h2⟩))
  go_ret2
  first
    | exact ⟨rfl, h2⟩
    | exact ⟨ret_tup2 E1.out E2.out, h2⟩

end Go.Proofs.Ytmecggncedhehaa
