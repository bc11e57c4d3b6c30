/-
  What Prices of package penalty answers.
-/
import Derived.Test.YtgccipmeiceonaaCost
namespace Go.Proofs.Ytgccipmeiceonaa
open Go.RowKit
set_option linter.unusedVariables false

/-- the first error of two -/
def orE (a b : Int) : Int := if a = 0 then b else a
theorem orE_0 {a b : Int} (h : orE a b = 0) : a = 0 ∧ b = 0 := by
  unfold orE at h
  by_cases h0 : a = 0
  · rw [if_pos h0] at h; exact ⟨h0, h⟩
  · rw [if_neg h0] at h; exact absurd h h0
theorem orE_l {a : Int} (b : Int) (h : a ≠ 0) : orE a b = a := by unfold orE; rw [if_neg h]
theorem orE_r {a b : Int} (h : a = 0) : orE a b = b := by unfold orE; rw [if_pos h]
def prsL : List Int → Int
  | [] => 0
  | p :: ps => if prcB p = true then prsL ps else 3
/-- the error of prices -/
def prsE (ps : List Int) : Int := if ps.length = 20 then prsL ps else 1
theorem prs_0 {ps : List Int} (h : prsL ps = 0) : ∀ p ∈ ps, prcB p = true := by
  induction ps with
  | nil => intro l hl; cases hl
  | cons t ts ih =>
    unfold prsL at h
    split at h
    · next h1 =>
      intro l hl
      rcases List.mem_cons.1 hl with rfl | hl
      · exact h1
      · exact ih h l hl
    · next h1 => omega
theorem prs_bd (ps : List Int) : prsL ps = 0 ∨ prsL ps = 3 := by
  induction ps with
  | nil => exact .inl rfl
  | cons t ts ih =>
    unfold prsL
    split
    · exact ih
    · exact .inr rfl
theorem drop_atI {ps : List Int} {k : Nat} (h : k < ps.length) : ps.drop k = ps.getD k 0 :: ps.drop (k + 1) := by
  rw [List.drop_eq_getElem_cons h, List.getD_eq_getElem?_getD, List.getElem?_eq_getElem h]; rfl


set_option maxHeartbeats 2000000 in
theorem prices_run (v : Value) (ps : List Int) (w : World) (hr : Reads w v ps) :
    Calls Try.prog 12 #[v] w fun e w' => e = .returned (.int .i64 (prsE ps)) ∧ w = w' := by
  obtain ⟨a, cap, rfl, hm, hc⟩ := hr
  unfold maxLen at hm
  have HC := Lib.hid hc
  obtain ⟨n, hn⟩ : ∃ n, n = ps.length := ⟨_, rfl⟩
  by_cases h6 : ps.length = 20
  · have HX : Hid (prsE ps = prsL (ps.drop 0)) := by unfold Hid prsE; rw [if_pos h6]; rfl
    have DR := Lib.hid (fun k (h : k < ps.length) => drop_atI h)
    have DA : Hid (ps.drop n = []) := by unfold Hid; rw [hn, List.drop_length]
    rw [← hn] at HC hm h6 DR ⊢
    have y1 : ((n : Int) != 20) = false := by rw [h6]; rfl
    clear hc hn h6
    go_enter Try.func12, Try.ntmps12
    go_wp2
    go_loop [11] (fun ii => ∃ k : Nat, k ≤ n ∧ ii = .int .i64 (k : Int) ∧ Hid (prsE ps = prsL (ps.drop k))) (fun ii => n - (intOf ii).toNat)
    case atStart => exact ⟨0, Nat.zero_le _, rfl, HX.out⟩
    case round =>
      obtain ⟨k, hk, rfl, HE⟩ := hrel
      by_cases hlt : k < n
      · obtain ⟨g, off, rfl, c0⟩ := HC.out k hlt
        have he := HE.out
        rw [DR.out k hlt] at he
        unfold prsL at he
        clear HE
        generalize ps.getD k 0 = p at *
        by_cases hp : prcB p = true
        · rw [if_pos hp] at he
          have PC := Lib.hid (fun w' => pcheck_ok p hp w')
          have HE2 := Lib.hid he
          clear he hp
          go_wp2_with (go_at_call 73; (with_reducible refine (PC.out _).mono ?_); rintro x w2 ⟨rfl, rfl⟩)
          go_round
          case rel => exact ⟨k + 1, by omega, by go_num, HE2.out⟩
          case measure => simp [intOf]; omega
        · rw [if_neg hp] at he
          have PC := Lib.hid (fun w' => pcheck_no p (by simpa using hp) w')
          have HE2 := Lib.hid he
          clear he hp
          go_wp2_with (go_at_call 73; (with_reducible refine (PC.out _).mono ?_); rintro x w2 ⟨rfl, rfl⟩)
          go_ret
          exact ⟨ret_int HE2.out.symm, rfl⟩
      · obtain rfl : k = n := by omega
        rw [DA.out] at HE
        go_wp2
        go_ret
        exact ⟨ret_int HE.out.symm, rfl⟩
  · have HX : Hid (prsE ps = 1) := by unfold Hid prsE; rw [if_neg h6]
    rw [← hn] at HC hm h6 ⊢
    have y1 : ((n : Int) != 20) = true := bne_iff_ne.2 (by omega)
    clear hc hn
    go_enter Try.func12, Try.ntmps12
    go_wp2
    go_ret
    exact ⟨ret_int HX.out.symm, rfl⟩


end Go.Proofs.Ytgccipmeiceonaa
