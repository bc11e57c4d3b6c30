/-
  What Check and checkDays of package cal do: contracts.
-/
import Derived.Test.YtmoanndonfmihaaDateC
namespace Go.Proofs.Ytmoanndonfmihaa
open Go.RowKit
set_option linter.unusedVariables false

/-- what is wrong with holidays, behind one that is 'before' -/
def holE (before : Int) : List Int → Int
  | [] => 0
  | h :: t => if ¬ (0 ≤ h ∧ h ≤ 3652058) then 3 else if h = before then 6 else if h < before then 4 else holE h t
/-- what is wrong with a calendar -/
def calE (W : Int) (hs : List Int) : Int := if W < 0 ∨ 126 < W then 3 else if 60 < hs.length then 2 else holE (-1) hs
theorem calE_w {W : Int} {hs : List Int} (h : W < 0 ∨ 126 < W) : calE W hs = 3 := by unfold calE; rw [if_pos h]
theorem calE_m {W : Int} {hs : List Int} (h : ¬ (W < 0 ∨ 126 < W)) (h2 : 60 < hs.length) : calE W hs = 2 := by unfold calE; rw [if_neg h, if_pos h2]
theorem calE_h {W : Int} {hs : List Int} (h : ¬ (W < 0 ∨ 126 < W)) (h2 : hs.length ≤ 60) : calE W hs = holE (-1) hs := by unfold calE; rw [if_neg h, if_neg (by omega)]
theorem holE_step {b : Int} {hs : List Int} {k : Nat} (hk : k < hs.length) : holE b (hs.drop k) = (if ¬ (0 ≤ hs.getD k 0 ∧ hs.getD k 0 ≤ 3652058) then 3 else if hs.getD k 0 = b then 6 else if hs.getD k 0 < b then 4 else holE (hs.getD k 0) (hs.drop (k + 1))) := by
  rw [List.drop_eq_getElem_cons hk, holE, List.getD_eq_getElem?_getD, List.getElem?_eq_getElem hk]; rfl

theorem calDay_t (y : Int) (h1 : 0 ≤ y) (h2 : y ≤ 3652058) (w : World) :
    Calls Try.prog 78 #[.int .i64 y] w fun e w' => e = .returned (.bool true) ∧ w = w' := by
  go_enter Try.func78, Try.ntmps78
  go_wp2
  go_ret
  exact ⟨rfl, rfl⟩
theorem calDay_f (y : Int) (h : y < 0 ∨ 3652058 < y) (w : World) :
    Calls Try.prog 78 #[.int .i64 y] w fun e w' => e = .returned (.bool false) ∧ w = w' := by
  rcases h with h | h
  · go_enter Try.func78, Try.ntmps78
    go_wp2
    go_ret
    exact ⟨rfl, rfl⟩
  · have h' : 0 ≤ y := by omega
    go_enter Try.func78, Try.ntmps78
    go_wp2
    go_ret
    exact ⟨ret_bool (decide_eq_false (by omega)), rfl⟩

/-- a calendar, as it is handed in -/
abbrev calV (W : Int) (v : Value) : Value := .agg #[.int .i64 W, v]

theorem calCheck_w (W : Int) (a : Option Addr) (n cap : Nat) (h : W < 0 ∨ 126 < W) (w : World) :
    Calls Try.prog 26 #[calV W (.slice a n cap)] w fun e w' => e = .returned (.int .i64 3) ∧ Grew w w' := by
  rcases h with h | h
  · go_enter Try.func26, Try.ntmps26
    go_wp2
    go_ret
    exact ⟨rfl, (Grew.refl _).alloc _ _⟩
  · have h' : ¬ W < 0 := by omega
    go_enter Try.func26, Try.ntmps26
    go_wp2
    go_ret
    exact ⟨rfl, (Grew.refl _).alloc _ _⟩
theorem calCheck_m (W : Int) (a : Option Addr) (n cap : Nat) (h0 : 0 ≤ W) (h1 : W ≤ 126) (hn : 60 < n) (hm : n ≤ maxLen) (w : World) :
    Calls Try.prog 26 #[calV W (.slice a n cap)] w fun e w' => e = .returned (.int .i64 2) ∧ Grew w w' := by
  unfold maxLen at hm
  go_enter Try.func26, Try.ntmps26
  go_wp2
  go_ret
  exact ⟨rfl, (Grew.refl _).alloc _ _⟩
theorem calCheck_none (W : Int) (a : Option Addr) (cap : Nat) (h0 : 0 ≤ W) (h1 : W ≤ 126) (w : World) :
    Calls Try.prog 26 #[calV W (.slice a 0 cap)] w fun e w' => e = .returned (.int .i64 0) ∧ Grew w w' := by
  go_enter Try.func26, Try.ntmps26
  go_wp2
  go_loop [3, 21] (fun b i => b = .int .i64 (-1) ∧ i = .int .i64 0) (fun _ _ => 0)
  case atStart => exact ⟨rfl, rfl⟩
  case round =>
    obtain ⟨rfl, rfl⟩ := hrel
    go_wp2
    go_ret
    exact ⟨rfl, (Grew.refl _).alloc _ _⟩

set_option maxRecDepth 100000 in
set_option maxHeartbeats 1000000 in
theorem calCheck_some (W : Int) (b off cap : Nat) (hs : List Int) (h0 : 0 ≤ W) (h1 : W ≤ 126) (hn : hs.length ≤ 60) (w : World) (hc : ∀ j, j < hs.length → w.cell? ⟨b, off + j, none⟩ = some (.int .i64 (hs.getD j 0))) (hwf : ∀ j, j < hs.length → -9223372036854775808 ≤ hs.getD j 0 ∧ hs.getD j 0 ≤ 9223372036854775807) :
    Calls Try.prog 26 #[calV W (.slice (some ⟨b, off, none⟩) hs.length cap)] w fun e w' => e = .returned (.int .i64 (holE (-1) hs)) ∧ Grew w w' := by
  have HC := Lib.hid hc
  have HWF := Lib.hid hwf
  clear hc hwf
  go_enter Try.func26, Try.ntmps26
  go_wp2
  go_loop [3, 21] (fun p i => ∃ (k : Nat) (z : Int), k ≤ hs.length ∧ i = .int .i64 k ∧ p = .int .i64 z ∧ -1 ≤ z ∧ z ≤ 3652058 ∧ Hid (holE z (hs.drop k) = holE (-1) hs)) (fun _ i => hs.length - (intOf i).toNat)
  case atStart => exact ⟨0, -1, Nat.zero_le _, rfl, rfl, by omega, by omega, by unfold Hid; rw [List.drop_zero]⟩
  case round =>
    obtain ⟨k, z, hk, rfl, rfl, z0, z1, HE⟩ := hrel
    by_cases hlt : k < hs.length
    · have c0 := HC.out k hlt
      have c1 : (w.alloc (.cells #[.int .i64 W, .slice (some ⟨b, off, none⟩) hs.length cap] 24)).cell? ⟨b, off + k, none⟩ = some (.int .i64 (hs.getD k 0)) := ((Grew.refl w).alloc _ _).cell (cell_in c0) c0
      have st := holE_step (b := z) hlt
      rw [HE.out] at st
      clear c0
      generalize hs.getD k 0 = h at c1 st
      by_cases hd : 0 ≤ h ∧ h ≤ 3652058
      · rw [if_neg (by omega)] at st
        have D := Lib.hid (fun w => calDay_t h hd.1 hd.2 w)
        obtain ⟨d0, d1⟩ := hd
        by_cases he : h = z
        · rw [if_pos he] at st
          have ST := Lib.hid st
          clear st
          subst he
          go_wp2_with (go_at_call 78; (with_reducible refine (D.out _).mono ?_); rintro e w' ⟨rfl, rfl⟩)
          go_ret
          exact ⟨ret_int ST.out.symm, (Grew.refl _).alloc _ _⟩
        · rw [if_neg he] at st
          have q1 : (h == z) = false := beq_eq_false_iff_ne.2 he
          by_cases hl : h < z
          · rw [if_pos hl] at st
            have ST := Lib.hid st
            clear st he
            go_wp2_with (go_at_call 78; (with_reducible refine (D.out _).mono ?_); rintro e w' ⟨rfl, rfl⟩)
            go_ret
            exact ⟨ret_int ST.out.symm, (Grew.refl _).alloc _ _⟩
          · rw [if_neg hl] at st
            have ST := Lib.hid st
            clear st he
            go_wp2_with (go_at_call 78; (with_reducible refine (D.out _).mono ?_); rintro e w' ⟨rfl, rfl⟩)
            go_round
            case rel => exact ⟨k + 1, h, by omega, by go_num, rfl, by omega, by omega, ST.out.symm⟩
            case measure => simp [intOf]; omega
      · rw [if_pos hd] at st
        have ST := Lib.hid st
        have D := Lib.hid (fun w => calDay_f h (by omega) w)
        clear st hd
        go_wp2_with (go_at_call 78; (with_reducible refine (D.out _).mono ?_); rintro e w' ⟨rfl, rfl⟩)
        go_ret
        exact ⟨ret_int ST.out.symm, (Grew.refl _).alloc _ _⟩
    · have he := HE.out
      rw [List.drop_of_length_le (by omega)] at he
      have ST := Lib.hid he
      clear he HE
      go_wp2
      go_ret
      exact ⟨ret_int ST.out, (Grew.refl _).alloc _ _⟩

theorem calCheck_any (W : Int) (v : Value) (hs : List Int) (w : World) (hr : Reads w v hs) (hwf : ∀ j, j < hs.length → -9223372036854775808 ≤ hs.getD j 0 ∧ hs.getD j 0 ≤ 9223372036854775807) :
    Calls Try.prog 26 #[calV W v] w fun e w' => e = .returned (.int .i64 (calE W hs)) ∧ Grew w w' := by
  have hm := hr.len
  by_cases hW : W < 0 ∨ 126 < W
  · rw [calE_w hW]
    obtain ⟨a, cap, rfl, _⟩ := hr
    exact calCheck_w W a _ cap hW w
  · by_cases hl : 60 < hs.length
    · rw [calE_m hW hl]
      obtain ⟨a, cap, rfl, _⟩ := hr
      exact calCheck_m W a _ cap (by omega) (by omega) hl hm w
    · rw [calE_h hW (by omega)]
      rcases hr.cell with ⟨rfl, a, cap, rfl⟩ | ⟨_, b, off, cap, rfl, hc⟩
      · exact calCheck_none W a cap (by omega) (by omega) w
      · exact calCheck_some W b off cap hs (by omega) (by omega) (by omega) w hc hwf

end Go.Proofs.Ytmoanndonfmihaa
