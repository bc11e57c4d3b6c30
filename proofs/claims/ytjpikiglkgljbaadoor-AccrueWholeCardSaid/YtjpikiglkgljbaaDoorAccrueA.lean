/-
  What package accrue does: contracts.
-/
import Derived.Test.YtjpikiglkgljbaaDoorDateC
import Derived.Test.YtjpikiglkgljbaaDoorBegun
import Derived.Test.YtjpikiglkgljbaaDoorRefDate
import Derived.IntWalk
namespace Go.Proofs.YtjpikiglkgljbaaDoor
open Go.RowKit
set_option linter.unusedVariables false

/-- the value of a kind: days as they are, of so many a year; flat months -/
abbrev actV (n : Int) : Value := .iface 83 (.agg #[.int .i64 n])
abbrev flatV : Value := .iface 85 (.agg #[])

theorem conv_1 (w : World) : Calls Tryd.prog 53 #[.int .i64 1] w fun e w' => e = .returned (.tuple #[actV 360, .bool true]) ∧ w = w' := by
  go_enter Tryd.func53, Tryd.ntmps53
  go_wp2
  go_ret2
  exact ⟨rfl, rfl⟩
theorem conv_2 (w : World) : Calls Tryd.prog 53 #[.int .i64 2] w fun e w' => e = .returned (.tuple #[actV 365, .bool true]) ∧ w = w' := by
  go_enter Tryd.func53, Tryd.ntmps53
  go_wp2
  go_ret2
  exact ⟨rfl, rfl⟩
theorem conv_3 (w : World) : Calls Tryd.prog 53 #[.int .i64 3] w fun e w' => e = .returned (.tuple #[flatV, .bool true]) ∧ w = w' := by
  go_enter Tryd.func53, Tryd.ntmps53
  go_wp2
  go_ret2
  exact ⟨rfl, rfl⟩
theorem conv_no (k : Int) (h : k < 1 ∨ 3 < k) (w : World) : Calls Tryd.prog 53 #[.int .i64 k] w fun e w' => e = .returned (.tuple #[.nilIface, .bool false]) ∧ w = w' := by
  have a1 : (k == 1) = false := beq_eq_false_iff_ne.2 (by omega)
  have a2 : (k == 2) = false := beq_eq_false_iff_ne.2 (by omega)
  have a3 : (k == 3) = false := beq_eq_false_iff_ne.2 (by omega)
  clear h
  go_enter Tryd.func53, Tryd.ntmps53
  go_wp2
  go_ret2
  exact ⟨rfl, rfl⟩

theorem accDay_t (n : Int) (h0 : 0 ≤ n) (h1 : n ≤ 3652058) (w : World) : Calls Tryd.prog 54 #[.int .i64 n] w fun e w' => e = .returned (.bool true) ∧ w = w' := by
  have WK := Lib.hid (fun w => week_ok n h0 h1 w)
  go_enter Tryd.func54, Tryd.ntmps54
  go_wp2_with (go_at_call 45; (with_reducible refine (WK.out _).mono ?_); rintro e w' ⟨rfl, rfl⟩)
  go_ret
  exact ⟨rfl, rfl⟩
theorem accDay_f (n : Int) (h : n < 0 ∨ 3652058 < n) (w : World) : Calls Tryd.prog 54 #[.int .i64 n] w fun e w' => e = .returned (.bool false) ∧ w = w' := by
  have WK := Lib.hid (fun w => week_no n h w)
  clear h
  go_enter Tryd.func54, Tryd.ntmps54
  go_wp2_with (go_at_call 45; (with_reducible refine (WK.out _).mono ?_); rintro e w' ⟨rfl, rfl⟩)
  go_ret
  exact ⟨rfl, rfl⟩

/-- a date in a calendar of flat months -/
def flatN (y m d : Int) : Int := 360 * y + 30 * m + min d 30
theorem flat_bd {y m d : Int} (hv : vldB y m d = true) : 0 ≤ flatN y m d ∧ flatN y m d ≤ 3600360 := by
  obtain ⟨v1, v2, v3, v4, v5, v6⟩ := vld_t hv
  unfold flatN; omega
theorem flatNumber_at (y m d n : Int) (hv : vldB y m d = true) (hN : num y m d = n) (w : World) (ht : Tab w) :
    Calls Tryd.prog 99 #[.int .i64 n] w fun e w' => e = .returned (.int .i64 (flatN y m d)) ∧ w = w' := by
  have O := Lib.hid (of_at y m d n hv hN w ht)
  obtain ⟨v1, v2, v3, v4, v5, v6⟩ := vld_t hv
  have db := dim_bd y m
  have E : Hid (flatN y m d = 360 * y + 30 * m + min d 30) := rfl
  clear hv hN ht
  go_enter Tryd.func99, Tryd.ntmps99
  go_wp2_with (go_at_call 25; (with_reducible refine O.out.mono ?_); rintro e w' ⟨rfl, rfl⟩)
  go_ret
  exact ⟨ret_int E.out.symm, rfl⟩

theorem actual_days (k a b : Int) (ha : 0 ≤ a) (ha' : a ≤ 3652058) (hb : 0 ≤ b) (hb' : b ≤ 3652058) (w : World) :
    Calls Tryd.prog 95 #[.agg #[.int .i64 k], .int .i64 a, .int .i64 b] w fun e w' => e = .returned (.int .i64 (b - a)) ∧ Grew w w' := by
  go_enter Tryd.func95, Tryd.ntmps95
  go_wp2
  go_ret
  exact ⟨rfl, (Grew.refl _).alloc _ _⟩
theorem flat_days (y m d a Y M D b : Int) (hv : vldB y m d = true) (hN : num y m d = a) (hV : vldB Y M D = true) (hM : num Y M D = b) (w : World) (ht : Tab w) :
    Calls Tryd.prog 97 #[.agg #[], .int .i64 a, .int .i64 b] w fun e w' => e = .returned (.int .i64 (flatN Y M D - flatN y m d)) ∧ Grew w w' := by
  have F1 := Lib.hid (fun w' (g : Grew w w') => flatNumber_at y m d a hv hN w' (ht.grew g))
  have F2 := Lib.hid (fun w' (g : Grew w w') => flatNumber_at Y M D b hV hM w' (ht.grew g))
  have b1 := flat_bd hv
  have b2 := flat_bd hV
  clear hv hN hV hM ht
  generalize flatN y m d = p at F1 b1 ⊢
  generalize flatN Y M D = q at F2 b2 ⊢
  go_enter Tryd.func97, Tryd.ntmps97
  go_wp2_with (first
    | (go_at_call 99; (with_reducible refine (F2.out _ ((Grew.refl _).alloc _ _)).mono ?_); rintro e w' ⟨rfl, rfl⟩)
    | (go_at_call 99; (with_reducible refine (F1.out _ ((Grew.refl _).alloc _ _)).mono ?_); rintro e w' ⟨rfl, rfl⟩))
  go_ret
  exact ⟨rfl, (Grew.refl _).alloc _ _⟩

theorem days_kind (k a b : Int) (h : k < 1 ∨ 3 < k) (w : World) :
    Calls Tryd.prog 28 #[.int .i64 k, .int .i64 a, .int .i64 b] w fun e w' => e = .returned (.tuple #[.int .i64 0, .int .i64 7]) ∧ w = w' := by
  have C := Lib.hid (fun w => conv_no k h w)
  clear h
  go_enter Tryd.func28, Tryd.ntmps28
  go_wp2_with (go_at_call 53; (with_reducible refine (C.out _).mono ?_); rintro e w' ⟨rfl, rfl⟩)
  go_ret2
  exact ⟨rfl, rfl⟩
theorem days_act1 (a b : Int) (ha : 0 ≤ a) (ha' : a ≤ b) (hb' : b ≤ 3652058) (w : World) :
    Calls Tryd.prog 28 #[.int .i64 1, .int .i64 a, .int .i64 b] w fun e w' => e = .returned (.tuple #[.int .i64 (b - a), .int .i64 0]) ∧ Grew w w' := by
  have hb : 0 ≤ b := by omega
  have ha2 : a ≤ 3652058 := by omega
  have D1 := Lib.hid (fun w => accDay_t a ha ha2 w)
  have D2 := Lib.hid (fun w => accDay_t b hb hb' w)
  have M := Lib.hid (fun w => actual_days 360 a b ha ha2 hb hb' w)
  go_enter Tryd.func28, Tryd.ntmps28
  go_wp2_with (first
    | (go_at_call 53; (with_reducible refine (conv_1 _).mono ?_); rintro e w' ⟨rfl, rfl⟩)
    | (go_at_call 54; (with_reducible refine (D1.out _).mono ?_); rintro e w' ⟨rfl, rfl⟩)
    | (go_at_call 54; (with_reducible refine (D2.out _).mono ?_); rintro e w' ⟨rfl, rfl⟩)
    | (go_at_call 95; (with_reducible refine (M.out _).mono ?_); rintro e w' ⟨rfl, g1⟩))
  go_ret2
  exact ⟨rfl, g1⟩
theorem days_act2 (a b : Int) (ha : 0 ≤ a) (ha' : a ≤ b) (hb' : b ≤ 3652058) (w : World) :
    Calls Tryd.prog 28 #[.int .i64 2, .int .i64 a, .int .i64 b] w fun e w' => e = .returned (.tuple #[.int .i64 (b - a), .int .i64 0]) ∧ Grew w w' := by
  have hb : 0 ≤ b := by omega
  have ha2 : a ≤ 3652058 := by omega
  have D1 := Lib.hid (fun w => accDay_t a ha ha2 w)
  have D2 := Lib.hid (fun w => accDay_t b hb hb' w)
  have M := Lib.hid (fun w => actual_days 365 a b ha ha2 hb hb' w)
  go_enter Tryd.func28, Tryd.ntmps28
  go_wp2_with (first
    | (go_at_call 53; (with_reducible refine (conv_2 _).mono ?_); rintro e w' ⟨rfl, rfl⟩)
    | (go_at_call 54; (with_reducible refine (D1.out _).mono ?_); rintro e w' ⟨rfl, rfl⟩)
    | (go_at_call 54; (with_reducible refine (D2.out _).mono ?_); rintro e w' ⟨rfl, rfl⟩)
    | (go_at_call 95; (with_reducible refine (M.out _).mono ?_); rintro e w' ⟨rfl, g1⟩))
  go_ret2
  exact ⟨rfl, g1⟩
theorem days_form (a b : Int) (ha : 0 ≤ b) (ha' : b < a) (hb' : a ≤ 3652058) (w : World) :
    Calls Tryd.prog 28 #[.int .i64 1, .int .i64 a, .int .i64 b] w fun e w' => e = .returned (.tuple #[.int .i64 0, .int .i64 1]) ∧ w = w' := by
  have D1 := Lib.hid (fun w => accDay_t a (by omega) hb' w)
  have D2 := Lib.hid (fun w => accDay_t b ha (by omega) w)
  go_enter Tryd.func28, Tryd.ntmps28
  go_wp2_with (first
    | (go_at_call 53; (with_reducible refine (conv_1 _).mono ?_); rintro e w' ⟨rfl, rfl⟩)
    | (go_at_call 54; (with_reducible refine (D1.out _).mono ?_); rintro e w' ⟨rfl, rfl⟩)
    | (go_at_call 54; (with_reducible refine (D2.out _).mono ?_); rintro e w' ⟨rfl, rfl⟩))
  go_ret2
  exact ⟨rfl, rfl⟩
theorem days_flat (y m d a Y M D b : Int) (hv : vldB y m d = true) (hN : num y m d = a) (hV : vldB Y M D = true) (hM : num Y M D = b) (hab : a ≤ b) (w : World) (ht : Tab w) :
    Calls Tryd.prog 28 #[.int .i64 3, .int .i64 a, .int .i64 b] w fun e w' => e = .returned (.tuple #[.int .i64 (flatN Y M D - flatN y m d), .int .i64 0]) ∧ Grew w w' := by
  have na := num_bd hv
  have nb := num_bd hV
  rw [hN] at na; rw [hM] at nb
  have D1 := Lib.hid (fun w => accDay_t a na.1 na.2 w)
  have D2 := Lib.hid (fun w => accDay_t b nb.1 nb.2 w)
  have FD := Lib.hid (flat_days y m d a Y M D b hv hN hV hM w ht)
  clear hv hN hV hM na nb ht
  generalize flatN Y M D - flatN y m d = x at FD ⊢
  go_enter Tryd.func28, Tryd.ntmps28
  go_wp2_with (first
    | (go_at_call 53; (with_reducible refine (conv_3 _).mono ?_); rintro e w' ⟨rfl, rfl⟩)
    | (go_at_call 54; (with_reducible refine (D1.out _).mono ?_); rintro e w' ⟨rfl, rfl⟩)
    | (go_at_call 54; (with_reducible refine (D2.out _).mono ?_); rintro e w' ⟨rfl, rfl⟩)
    | (go_at_call 97; (with_reducible refine FD.out.mono ?_); rintro e w' ⟨rfl, g1⟩))
  go_ret2
  exact ⟨rfl, g1⟩

theorem year_1 (w : World) : Calls Tryd.prog 52 #[.int .i64 1] w fun e w' => e = .returned (.tuple #[.int .i64 360, .int .i64 0]) ∧ Grew w w' := by
  have Y : Hid (∀ w, Calls Tryd.prog 96 #[.agg #[.int .i64 360]] w fun e w' => e = .returned (.int .i64 360) ∧ Grew w w') := by
    intro w
    go_enter Tryd.func96, Tryd.ntmps96
    go_wp2
    go_ret
    exact ⟨rfl, (Grew.refl _).alloc _ _⟩
  go_enter Tryd.func52, Tryd.ntmps52
  go_wp2_with (first
    | (go_at_call 53; (with_reducible refine (conv_1 _).mono ?_); rintro e w' ⟨rfl, rfl⟩)
    | (go_at_call 96; (with_reducible refine (Y.out _).mono ?_); rintro e w' ⟨rfl, g1⟩))
  go_ret2
  exact ⟨rfl, g1⟩
theorem year_2 (w : World) : Calls Tryd.prog 52 #[.int .i64 2] w fun e w' => e = .returned (.tuple #[.int .i64 365, .int .i64 0]) ∧ Grew w w' := by
  have Y : Hid (∀ w, Calls Tryd.prog 96 #[.agg #[.int .i64 365]] w fun e w' => e = .returned (.int .i64 365) ∧ Grew w w') := by
    intro w
    go_enter Tryd.func96, Tryd.ntmps96
    go_wp2
    go_ret
    exact ⟨rfl, (Grew.refl _).alloc _ _⟩
  go_enter Tryd.func52, Tryd.ntmps52
  go_wp2_with (first
    | (go_at_call 53; (with_reducible refine (conv_2 _).mono ?_); rintro e w' ⟨rfl, rfl⟩)
    | (go_at_call 96; (with_reducible refine (Y.out _).mono ?_); rintro e w' ⟨rfl, g1⟩))
  go_ret2
  exact ⟨rfl, g1⟩
theorem year_3 (w : World) : Calls Tryd.prog 52 #[.int .i64 3] w fun e w' => e = .returned (.tuple #[.int .i64 360, .int .i64 0]) ∧ Grew w w' := by
  have Y : Hid (∀ w, Calls Tryd.prog 98 #[.agg #[]] w fun e w' => e = .returned (.int .i64 360) ∧ Grew w w') := by
    intro w
    go_enter Tryd.func98, Tryd.ntmps98
    go_wp2
    go_ret
    exact ⟨rfl, (Grew.refl _).alloc _ _⟩
  go_enter Tryd.func52, Tryd.ntmps52
  go_wp2_with (first
    | (go_at_call 53; (with_reducible refine (conv_3 _).mono ?_); rintro e w' ⟨rfl, rfl⟩)
    | (go_at_call 98; (with_reducible refine (Y.out _).mono ?_); rintro e w' ⟨rfl, g1⟩))
  go_ret2
  exact ⟨rfl, g1⟩

/-- 'Days answers so' -/
def DaysOk (k a b n : Int) (w : World) : Prop := Calls Tryd.prog 28 #[.int .i64 k, .int .i64 a, .int .i64 b] w fun e w' => e = .returned (.tuple #[.int .i64 n, .int .i64 0]) ∧ Grew w w'
def YearOk (k n : Int) : Prop := ∀ w, Calls Tryd.prog 52 #[.int .i64 k] w fun e w' => e = .returned (.tuple #[.int .i64 n, .int .i64 0]) ∧ Grew w w'
theorem DaysOk.run {k a b n : Int} {w : World} (h : DaysOk k a b n w) : Calls Tryd.prog 28 #[.int .i64 k, .int .i64 a, .int .i64 b] w fun e w' => e = .returned (.tuple #[.int .i64 n, .int .i64 0]) ∧ Grew w w' := h
theorem YearOk.run {k n : Int} (h : YearOk k n) (w : World) : Calls Tryd.prog 52 #[.int .i64 k] w fun e w' => e = .returned (.tuple #[.int .i64 n, .int .i64 0]) ∧ Grew w w' := h w

theorem interest_amt (k amt rate a b n : Int) (w : World) (hD : DaysOk k a b n w) (h : amtB amt = false) :
    Calls Tryd.prog 30 #[.int .i64 k, .int .i64 amt, .int .i64 rate, .int .i64 a, .int .i64 b] w fun e w' => e = .returned (.tuple #[.int .i64 0, .int .i64 3]) ∧ Grew w w' := by
  have C := Lib.hid (fun w => check_no amt w h)
  clear h
  go_enter Tryd.func30, Tryd.ntmps30
  go_wp2_with (first
    | (go_at_call 28; (with_reducible refine hD.run.mono ?_); rintro e w1 ⟨rfl, g1⟩)
    | (go_at_call 58; (with_reducible refine (C.out _).mono ?_); rintro e w2 ⟨rfl, g2⟩))
  go_ret2
  exact ⟨rfl, gtr g1 g2⟩
theorem interest_rate (k amt rate a b n : Int) (w : World) (hD : DaysOk k a b n w) (h : amtB amt = true) (hr : rate < 0 ∨ 10000 < rate) :
    Calls Tryd.prog 30 #[.int .i64 k, .int .i64 amt, .int .i64 rate, .int .i64 a, .int .i64 b] w fun e w' => e = .returned (.tuple #[.int .i64 0, .int .i64 3]) ∧ Grew w w' := by
  have C := Lib.hid (fun w => check_ok amt w h)
  clear h
  rcases hr with hr | hr
  · go_enter Tryd.func30, Tryd.ntmps30
    go_wp2_with (first
      | (go_at_call 28; (with_reducible refine hD.run.mono ?_); rintro e w1 ⟨rfl, g1⟩)
      | (go_at_call 58; (with_reducible refine (C.out _).mono ?_); rintro e w2 ⟨rfl, g2⟩))
    go_ret2
    exact ⟨rfl, gtr g1 g2⟩
  · have hr0 : 0 ≤ rate := by omega
    go_enter Tryd.func30, Tryd.ntmps30
    go_wp2_with (first
      | (go_at_call 28; (with_reducible refine hD.run.mono ?_); rintro e w1 ⟨rfl, g1⟩)
      | (go_at_call 58; (with_reducible refine (C.out _).mono ?_); rintro e w2 ⟨rfl, g2⟩))
    go_ret2
    exact ⟨rfl, gtr g1 g2⟩
/-- what is borne: by what Part answers -/
def PartIs (a b c q r E : Int) : Prop := ∀ w, Calls Tryd.prog 31 #[.int .i64 a, .int .i64 b, .int .i64 c] w fun e w' => e = .returned (.tuple #[.int .i64 q, .int .i64 r, .int .i64 E]) ∧ Grew w w'
theorem PartIs.run {a b c q r E : Int} (h : PartIs a b c q r E) (w : World) : Calls Tryd.prog 31 #[.int .i64 a, .int .i64 b, .int .i64 c] w fun e w' => e = .returned (.tuple #[.int .i64 q, .int .i64 r, .int .i64 E]) ∧ Grew w w' := h w
theorem interest_is (k amt rate a b n Y q r E : Int) (w : World) (hD : DaysOk k a b n w) (hY : YearOk k Y) (h : amtB amt = true) (r0 : 0 ≤ rate) (r1 : rate ≤ 10000) (n0 : 0 ≤ n) (n1 : n ≤ 3652058) (y0 : 0 ≤ Y) (y1 : Y ≤ 365) (x : Int) (hx : rate * n = x) (hP : PartIs amt x (10000 * Y) q r E) :
    Calls Tryd.prog 30 #[.int .i64 k, .int .i64 amt, .int .i64 rate, .int .i64 a, .int .i64 b] w fun e w' => e = .returned (.tuple #[.int .i64 q, .int .i64 E]) ∧ Grew w w' := by
  have C := Lib.hid (fun w => check_ok amt w h)
  have hm : IntKind.i64.wrap (rate * n) = x := by
    rw [← hx]
    refine IntWalk.i64_in _ ?_
    have h1 : rate * n ≤ 10000 * 3652058 := Int.mul_le_mul r1 n1 n0 (by omega)
    have h0 : 0 ≤ rate * n := Int.mul_nonneg r0 n0
    omega
  clear h hx
  go_enter Tryd.func30, Tryd.ntmps30
  go_wp2_with (first
    | (go_at_call 28; (with_reducible refine hD.run.mono ?_); rintro e w1 ⟨rfl, g1⟩)
    | (go_at_call 58; (with_reducible refine (C.out _).mono ?_); rintro e w2 ⟨rfl, g2⟩)
    | (go_at_call 52; (with_reducible refine (hY.run _).mono ?_); rintro e w3 ⟨rfl, g3⟩)
    | (go_at_call 31; (with_reducible refine (hP.run _).mono ?_); rintro e w4 ⟨rfl, g4⟩))
  go_ret2
  exact ⟨rfl, gtr (gtr (gtr g1 g2) g3) g4⟩

end Go.Proofs.YtjpikiglkgljbaaDoor
