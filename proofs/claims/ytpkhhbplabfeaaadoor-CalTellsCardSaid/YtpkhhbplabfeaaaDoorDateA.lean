/-
  What the inner functions of package date do: contracts.
-/
import Derived.Test.YtpkhhbplabfeaaaDoorBase
import Derived.Test.YtpkhhbplabfeaaaDoorDateMath
namespace Go.Proofs.YtpkhhbplabfeaaaDoor
open Go.RowKit
set_option linter.unusedVariables false

/-- what the variable 'lengths' holds -/
def lens : List Int := [31, 28, 31, 30, 31, 30, 31, 31, 30, 31, 30, 31]
def Tab (w : World) : Prop := ∀ j, j < 12 → w.cell? ⟨0, j, none⟩ = some (.int .i64 (lens.getD j 0))
theorem Tab.grew {w w' : World} (h : Tab w) (g : Grew w w') : Tab w' := fun j hj => g.cell (cell_in (h j hj)) (h j hj)
theorem Tab.below {w w' : World} {B : Nat} (h : Tab w) (g : Below B w w') (hB : w.heap.size ≤ B) : Tab w' := fun j hj => (g.cell (p := ⟨0, j, none⟩) (Nat.lt_of_lt_of_le (cell_in (h j hj)) hB)).trans (h j hj)

theorem ret_bool {a b : Bool} (h : a = b) : Ending.returned (.bool a) = .returned (.bool b) := by rw [h]

theorem isDay_t (y : Int) (h1 : 0 ≤ y) (h2 : y ≤ 3652058) (w : World) :
    Calls Tryd.prog 39 #[.int .i64 y] w fun e w' => e = .returned (.bool true) ∧ w = w' := by
  go_enter Tryd.func39, Tryd.ntmps39
  go_wp2
  go_ret
  exact ⟨rfl, rfl⟩
theorem isDay_f (y : Int) (h : y < 0 ∨ 3652058 < y) (w : World) :
    Calls Tryd.prog 39 #[.int .i64 y] w fun e w' => e = .returned (.bool false) ∧ w = w' := by
  rcases h with h | h
  · go_enter Tryd.func39, Tryd.ntmps39
    go_wp2
    go_ret
    exact ⟨rfl, rfl⟩
  · have h' : 0 ≤ y := by omega
    go_enter Tryd.func39, Tryd.ntmps39
    go_wp2
    go_ret
    exact ⟨ret_bool (decide_eq_false (by omega)), rfl⟩

theorem isLeap_any (y : Int) (h1 : 1 ≤ y) (h2 : y ≤ 9999) (w : World) :
    Calls Tryd.prog 44 #[.int .i64 y] w fun e w' => e = .returned (.bool (leapB y)) ∧ w = w' := by
  by_cases a : y % 4 = 0
  · by_cases b : y % 100 = 0
    · by_cases c : y % 400 = 0
      · have E := Lib.hid (leap_mk ⟨a, .inr c⟩)
        go_enter Tryd.func44, Tryd.ntmps44
        go_wp2
        go_ret
        exact ⟨ret_bool E.out.symm, rfl⟩
      · have E := Lib.hid (leap_no (y := y) (by omega))
        go_enter Tryd.func44, Tryd.ntmps44
        go_wp2
        go_ret
        exact ⟨ret_bool ((beq_eq_false_iff_ne.2 c).trans E.out.symm), rfl⟩
    · have E := Lib.hid (leap_mk ⟨a, .inl b⟩)
      go_enter Tryd.func44, Tryd.ntmps44
      go_wp2
      go_ret
      exact ⟨ret_bool E.out.symm, rfl⟩
  · have E := Lib.hid (leap_no (y := y) (by omega))
    go_enter Tryd.func44, Tryd.ntmps44
    go_wp2
    go_ret
    exact ⟨ret_bool E.out.symm, rfl⟩

theorem daysBefore_any (y : Int) (h1 : 1 ≤ y) (h2 : y ≤ 10000) (w : World) :
    Calls Tryd.prog 41 #[.int .i64 y] w fun e w' => e = .returned (.int .i64 (yd y)) ∧ w = w' := by
  go_enter Tryd.func41, Tryd.ntmps41
  go_wp2
  go_ret
  exact ⟨rfl, rfl⟩

theorem lens_dim (y : Int) {m : Int} (h1 : 1 ≤ m) (h2 : m ≤ 12) : ∃ j : Nat, j < 12 ∧ m = (j : Int) + 1 ∧ ((m = 2 ∧ leapB y = true ∧ dim y m = lens.getD j 0 + 1) ∨ ((m ≠ 2 ∨ leapB y = false) ∧ dim y m = lens.getD j 0)) ∧ 28 ≤ lens.getD j 0 ∧ lens.getD j 0 ≤ 31 := by
  rcases m12 h1 h2 with h | h | h | h | h | h | h | h | h | h | h | h <;> subst h
  · exact ⟨0, by decide, rfl, .inr ⟨.inl (by decide), rfl⟩, by decide, by decide⟩
  · cases hl : leapB y with
    | true => exact ⟨1, by decide, rfl, .inl ⟨rfl, rfl, by simp [dim, lp_t hl, lens]⟩, by decide, by decide⟩
    | false => exact ⟨1, by decide, rfl, .inr ⟨.inr rfl, by simp [dim, lp_f hl, lens]⟩, by decide, by decide⟩
  · exact ⟨2, by decide, rfl, .inr ⟨.inl (by decide), rfl⟩, by decide, by decide⟩
  · exact ⟨3, by decide, rfl, .inr ⟨.inl (by decide), rfl⟩, by decide, by decide⟩
  · exact ⟨4, by decide, rfl, .inr ⟨.inl (by decide), rfl⟩, by decide, by decide⟩
  · exact ⟨5, by decide, rfl, .inr ⟨.inl (by decide), rfl⟩, by decide, by decide⟩
  · exact ⟨6, by decide, rfl, .inr ⟨.inl (by decide), rfl⟩, by decide, by decide⟩
  · exact ⟨7, by decide, rfl, .inr ⟨.inl (by decide), rfl⟩, by decide, by decide⟩
  · exact ⟨8, by decide, rfl, .inr ⟨.inl (by decide), rfl⟩, by decide, by decide⟩
  · exact ⟨9, by decide, rfl, .inr ⟨.inl (by decide), rfl⟩, by decide, by decide⟩
  · exact ⟨10, by decide, rfl, .inr ⟨.inl (by decide), rfl⟩, by decide, by decide⟩
  · exact ⟨11, by decide, rfl, .inr ⟨.inl (by decide), rfl⟩, by decide, by decide⟩

theorem monthDays_any (y m : Int) (h1 : 1 ≤ y) (h2 : y ≤ 9999) (h3 : 1 ≤ m) (h4 : m ≤ 12) (w : World) (ht : Tab w) :
    Calls Tryd.prog 42 #[.int .i64 y, .int .i64 m] w fun e w' => e = .returned (.int .i64 (dim y m)) ∧ w = w' := by
  obtain ⟨j, hj, rfl, hd, b1, b2⟩ := lens_dim y h3 h4
  have hc := ht j hj
  clear ht
  generalize lens.getD j 0 = z at hc hd b1 b2
  rcases hd with ⟨e2, hl, hd⟩ | ⟨hl, hd⟩
  · have HD := Lib.hid hd; clear hd
    obtain rfl : j = 1 := by omega
    have L : ∀ w, Calls Tryd.prog 44 #[.int .i64 y] w fun e w' => e = .returned (.bool true) ∧ w = w' := fun w => by
      have := isLeap_any y h1 h2 w; rw [hl] at this; exact this
    clear hl e2
    go_enter Tryd.func42, Tryd.ntmps42
    go_wp2_with (go_at_call 44; (with_reducible refine (L _).mono ?_); rintro e w' ⟨rfl, rfl⟩)
    go_ret
    exact ⟨ret_int HD.out.symm, rfl⟩
  · have HD := Lib.hid hd; clear hd
    by_cases e2 : (j : Int) + 1 = 2
    · have hl' : leapB y = false := hl.resolve_left (fun h => h e2)
      obtain rfl : j = 1 := by omega
      have L : ∀ w, Calls Tryd.prog 44 #[.int .i64 y] w fun e w' => e = .returned (.bool false) ∧ w = w' := fun w => by
        have := isLeap_any y h1 h2 w; rw [hl'] at this; exact this
      clear hl hl' e2
      go_enter Tryd.func42, Tryd.ntmps42
      go_wp2_with (go_at_call 44; (with_reducible refine (L _).mono ?_); rintro e w' ⟨rfl, rfl⟩)
      go_ret
      exact ⟨ret_int HD.out.symm, rfl⟩
    · clear hl
      go_enter Tryd.func42, Tryd.ntmps42
      go_wp2
      go_ret
      exact ⟨ret_int HD.out.symm, rfl⟩

theorem yearOf_any (n y : Int) (h0 : 0 ≤ n) (h1 : n ≤ 3652058) (a : yd y ≤ n) (b : n < yd (y + 1)) (w : World) :
    Calls Tryd.prog 40 #[.int .i64 n] w fun e w' => e = .returned (.int .i64 y) ∧ w = w' := by
  have s := yearOf_spec h0 h1 rfl rfl rfl rfl rfl rfl
  obtain ⟨R, hR⟩ : ∃ R, R = n % 146097 := ⟨_, rfl⟩
  obtain ⟨K, hK⟩ : ∃ K, K = min (R / 36524) 3 := ⟨_, rfl⟩
  obtain ⟨R', hR'⟩ : ∃ R', R' = R - K * 36524 := ⟨_, rfl⟩
  obtain ⟨S, hS⟩ : ∃ S, S = min (R' % 1461 / 365) 3 := ⟨_, rfl⟩
  rw [← hR, ← hK, ← hR', ← hS] at s
  obtain ⟨s1, s2, s3, s4⟩ := s
  have E : y = 400 * (n / 146097) + 100 * K + 4 * (R' / 1461) + S + 1 := by
    rcases Int.lt_trichotomy y (400 * (n / 146097) + 100 * K + 4 * (R' / 1461) + S + 1) with h | h | h
    · have := yd_mono (show y + 1 ≤ _ from h); omega
    · exact h
    · have := yd_mono (show _ + 1 ≤ y from h); omega
  have k0 : 0 ≤ R / 36524 ∧ R / 36524 ≤ 4 := by omega
  have r0 : 0 ≤ R ∧ R < 146097 := by omega
  have k1 : 0 ≤ K ∧ K ≤ 3 := by omega
  have r1 : 0 ≤ R' ∧ R' ≤ 36524 := by
    rcases (show K = 0 ∨ K = 1 ∨ K = 2 ∨ K = 3 by omega) with h | h | h | h <;> subst h <;> omega
  have s0 : 0 ≤ S ∧ S ≤ 3 := by omega
  have E' := Lib.hid E
  clear E s1 s2 s3 s4 a b
  go_enter Tryd.func40, Tryd.ntmps40
  go_wp2
  all_goals
    go_ret
    exact ⟨ret_int (by have := E'.out; omega), rfl⟩

end Go.Proofs.YtpkhhbplabfeaaaDoor
