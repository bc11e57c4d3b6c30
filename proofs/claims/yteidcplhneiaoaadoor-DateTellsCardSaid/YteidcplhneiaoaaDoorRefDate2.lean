/-
  What the reference's DateMonths does: a contract.
-/
import Derived.Test.YteidcplhneiaoaaDoorRefDate
namespace Go.Proofs.YteidcplhneiaoaaDoor
open Go.RowKit
set_option linter.unusedVariables false

theorem mth_at {y m many Y M : Int} (h : (Y - 1) * 12 + M - 1 = mth y m many) (h1 : 1 ≤ M) (h2 : M ≤ 12) : mth y m many / 12 + 1 = Y ∧ mth y m many % 12 + 1 = M := by omega

/-- behind the two loops -/
def Turned (y m d many : Int) (w : World) (e : Ending) (w' : World) : Prop :=
  e = .returned (.tuple #[.int .i64 (if mthB y m many = true then mthN y m d many else 0), .int .i64 (if mthB y m many = true then 0 else 8)]) ∧ w = w'
theorem turned_ok {y m d many : Int} {w : World} {x : Int} (h : mthB y m many = true) (hx : mthN y m d many = x) : Turned y m d many w (.returned (.tuple #[.int .i64 x, .int .i64 0])) w := by
  unfold Turned; rw [if_pos h, if_pos h, hx]; exact ⟨rfl, rfl⟩
theorem turned_no {y m d many : Int} {w : World} (h : mthB y m many = false) : Turned y m d many w (.returned (.tuple #[.int .i64 0, .int .i64 8])) w := by
  unfold Turned; rw [h]; exact ⟨rfl, rfl⟩

set_option maxRecDepth 100000 in
set_option maxHeartbeats 1000000 in
theorem ref_months_in (y m d n many : Int) (hv : vldB y m d = true) (hN : num y m d = n) (h1 : -120000 ≤ many) (h2 : many ≤ 120000) (w : World) :
    Calls Tryd.prog 23 #[.int .i64 n, .int .i64 many] w (Turned y m d many w) := by
  have O := Lib.hid (ref_of_at y m d n hv hN w)
  obtain ⟨v1, v2, v3, v4, v5, v6⟩ := vld_t hv
  have db := dim_bd y m
  have HV := Lib.hid hv
  clear hv hN
  go_enter Tryd.func23, Tryd.ntmps23
  go_wp2_with (first
    | (go_at_call 22; (with_reducible refine O.out.mono ?_); rintro e w' ⟨rfl, rfl⟩)
    | (go_at_call 45; (with_reducible refine (btw_t many (-120000) 120000 h1 h2 _).mono ?_); rintro e w' ⟨rfl, rfl⟩))
  go_loop [6, 7, 10] (fun a b i => ∃ Y M j : Int, a = .int .i64 Y ∧ b = .int .i64 M ∧ i = .int .i64 j ∧ 0 ≤ j ∧ (j ≤ many ∨ j ≤ 0) ∧ 1 ≤ M ∧ M ≤ 12 ∧ Hid ((Y - 1) * 12 + M - 1 = (y - 1) * 12 + m - 1 + j)) (fun _ _ i => (many - intOf i).toNat)
  case atStart => exact ⟨y, m, 0, rfl, rfl, rfl, by omega, by omega, v3, v4, by unfold Hid; omega⟩
  case round =>
    obtain ⟨Y, M, j, rfl, rfl, rfl, j0, j1, M1, M2, HE⟩ := hrel
    have yb : -20000 ≤ Y ∧ Y ≤ 20000 := by have := HE.out; omega
    by_cases hlt : j < many
    · by_cases e12 : M = 12
      · subst e12
        go_wp2
        go_round
        case rel => exact ⟨Y + 1, 1, j + 1, rfl, rfl, rfl, by omega, by omega, by omega, by omega, by have := HE.out; unfold Hid; omega⟩
        case measure => simp [intOf]; omega
      · have e13 : (M + 1 == 13) = false := beq_eq_false_iff_ne.2 (by omega)
        go_wp2
        go_round
        case rel => exact ⟨Y, M + 1, j + 1, rfl, rfl, rfl, by omega, by omega, by omega, by omega, by have := HE.out; unfold Hid; omega⟩
        case measure => simp [intOf]; omega
    · have HJ : Hid ((Y - 1) * 12 + M - 1 = (y - 1) * 12 + m - 1 + j ∧ (j = many ∨ (j = 0 ∧ many ≤ 0))) := ⟨HE.out, by omega⟩
      clear HE
      go_wp2
      go_loop [6, 7, 11] (fun a b i => ∃ Y' M' l : Int, a = .int .i64 Y' ∧ b = .int .i64 M' ∧ i = .int .i64 l ∧ 0 ≤ l ∧ (l ≤ -many ∨ l ≤ 0) ∧ 1 ≤ M' ∧ M' ≤ 12 ∧ Hid ((Y' - 1) * 12 + M' - 1 = (Y - 1) * 12 + M - 1 - l)) (fun _ _ i => (-many - intOf i).toNat)
      case atStart => exact ⟨Y, M, 0, rfl, rfl, rfl, by omega, by omega, M1, M2, by unfold Hid; omega⟩
      case round =>
        obtain ⟨Y', M', l, rfl, rfl, rfl, l0, l1, N1, N2, HF⟩ := hrel
        have yb' : -20000 ≤ Y' ∧ Y' ≤ 20000 := by have := HF.out; have := HJ.out; omega
        by_cases hl : l < -many
        · by_cases e1 : M' = 1
          · subst e1
            go_wp2
            go_round
            case rel => exact ⟨Y' - 1, 12, l + 1, rfl, rfl, rfl, by omega, by omega, by omega, by omega, by have := HF.out; unfold Hid; omega⟩
            case measure => simp [intOf]; omega
          · have e0 : (M' - 1 == 0) = false := beq_eq_false_iff_ne.2 (by omega)
            go_wp2
            go_round
            case rel => exact ⟨Y', M' - 1, l + 1, rfl, rfl, rfl, by omega, by omega, by omega, by omega, by have := HF.out; unfold Hid; omega⟩
            case measure => simp [intOf]; omega
        · have HM : Hid ((Y' - 1) * 12 + M' - 1 = mth y m many) := by have := HF.out; have := HJ.out; unfold Hid mth; omega
          have LG := ref_long Y' M' (by omega) (by omega) w
          clear HJ HF
          have dd := dim_bd Y' M'
          obtain ⟨t1, t2⟩ := mth_at HM.out N1 N2
          by_cases hy : 1 ≤ Y' ∧ Y' ≤ 9999
          · have hm : mthB y m many = true := decide_eq_true ⟨h1, h2, by have := HM.out; omega, by have := HM.out; omega⟩
            have hvv := mth_vld HV.out hm
            have hnn : mthN y m d many = num Y' M' (min d (dim Y' M')) := by unfold mthN; rw [t1, t2]
            rw [t1, t2] at hvv
            have RF := ref_from_ok Y' M' _ hvv w
            have BT := Lib.hid (btw_t Y' 1 9999 hy.1 hy.2 w)
            have HMB := Lib.hid hm
            by_cases hd : d ≤ dim Y' M'
            · rw [Int.min_eq_left hd] at RF hnn
              have HNN := Lib.hid hnn
              replace RF := Lib.hid RF
              replace LG := Lib.hid LG
              clear hnn hvv hm t1 t2 hy
              go_wp2_with (first
                | (go_at_call 45; (with_reducible refine BT.out.mono ?_); rintro e w' ⟨rfl, rfl⟩)
                | (go_at_call 25; (with_reducible refine LG.out.mono ?_); rintro e w' ⟨rfl, rfl⟩)
                | (go_at_call 21; (with_reducible refine RF.out.mono ?_); rintro e w' ⟨rfl, rfl⟩))
              go_ret2
              exact turned_ok HMB.out HNN.out
            · rw [Int.min_eq_right (by omega)] at RF hnn
              have hd' : dim Y' M' < d := by omega
              have HNN := Lib.hid hnn
              replace RF := Lib.hid RF
              replace LG := Lib.hid LG
              clear hnn hvv hm t1 t2 hy hd
              go_wp2_with (first
                | (go_at_call 45; (with_reducible refine BT.out.mono ?_); rintro e w' ⟨rfl, rfl⟩)
                | (go_at_call 25; (with_reducible refine LG.out.mono ?_); rintro e w' ⟨rfl, rfl⟩)
                | (go_at_call 21; (with_reducible refine RF.out.mono ?_); rintro e w' ⟨rfl, rfl⟩))
              go_ret2
              exact turned_ok HMB.out HNN.out
          · have BF := Lib.hid (btw_f Y' 1 9999 (by omega) w)
            have HMB : Hid (mthB y m many = false) := decide_eq_false (by have := HM.out; omega)
            clear LG t1 t2 hy
            go_wp2_with (go_at_call 45; (with_reducible refine BF.out.mono ?_); rintro e w' ⟨rfl, rfl⟩)
            go_ret2
            exact turned_no HMB.out

theorem ref_months_out (y m d n many : Int) (hv : vldB y m d = true) (hN : num y m d = n) (h : many < -120000 ∨ 120000 < many) (w : World) :
    Calls Tryd.prog 23 #[.int .i64 n, .int .i64 many] w (Turned y m d many w) := by
  have O := Lib.hid (ref_of_at y m d n hv hN w)
  have BF := Lib.hid (btw_f many (-120000) 120000 h w)
  have HMB : Hid (mthB y m many = false) := decide_eq_false (by omega)
  clear hv hN h
  go_enter Tryd.func23, Tryd.ntmps23
  go_wp2_with (first
    | (go_at_call 22; (with_reducible refine O.out.mono ?_); rintro e w' ⟨rfl, rfl⟩)
    | (go_at_call 45; (with_reducible refine BF.out.mono ?_); rintro e w' ⟨rfl, rfl⟩))
  go_ret2
  exact turned_no HMB.out

theorem ref_months_any (y m d n many : Int) (hv : vldB y m d = true) (hN : num y m d = n) (w : World) :
    Calls Tryd.prog 23 #[.int .i64 n, .int .i64 many] w (Turned y m d many w) := by
  by_cases h : -120000 ≤ many ∧ many ≤ 120000
  · exact ref_months_in y m d n many hv hN h.1 h.2 w
  · exact ref_months_out y m d n many hv hN (by omega) w

theorem ref_months_no (n many : Int) (h : n < 0 ∨ 3652058 < n) (w : World) :
    Calls Tryd.prog 23 #[.int .i64 n, .int .i64 many] w fun e w' => e = .returned (.tuple #[.int .i64 0, .int .i64 3]) ∧ w = w' := by
  have O := Lib.hid (ref_of_no n h w)
  clear h
  go_enter Tryd.func23, Tryd.ntmps23
  go_wp2_with (go_at_call 22; (with_reducible refine O.out.mono ?_); rintro e w' ⟨rfl, rfl⟩)
  go_ret2
  exact ⟨rfl, rfl⟩

end Go.Proofs.YteidcplhneiaoaaDoor
