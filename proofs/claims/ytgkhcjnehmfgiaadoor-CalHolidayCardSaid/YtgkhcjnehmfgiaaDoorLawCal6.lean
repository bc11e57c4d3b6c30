/-
  CalHoliday: the law answers true, whatever it is handed.
-/
import Derived.Test.YtgkhcjnehmfgiaaDoorLawCal5
namespace Go.Proofs.YtgkhcjnehmfgiaaDoor
open Go.RowKit
set_option linter.unusedVariables false

set_option maxRecDepth 100000 in
set_option maxHeartbeats 1000000 in
theorem calHoliday_out (W : Int) (a : Option Addr) (l cap : Nat) (hs : List Int) (i f t n : Int) (w : World) (ht : Tab w) (hr : Reads w (.slice a l cap) hs) (hf : Fits hs) (hi : calE W hs ≠ 0 ∨ (calE W hs = 0 ∧ (i < 0 ∨ (0 ≤ i ∧ (l : Int) ≤ i)))) :
    Calls Tryd.prog 4 #[calV W (.slice a l cap), .int .i64 i, .int .i64 f, .int .i64 t, .int .i64 n] w fun r w' => r = .returned (.bool true) ∧ Kpt w w' := by
  have k0 : Kpt w (w.alloc (.cells #[.int .i64 W, .slice a l cap] 24)) := (Kpt.refl _).alloc _
  have hl := hr.slice
  have hm := hr.len
  rw [hl] at hm
  unfold maxLen at hm
  clear hl
  have G := Lib.hid k0
  have c0 : (w.alloc (.cells #[.int .i64 W, .slice a l cap] 24)).cell? ⟨w.heap.size, 0, none⟩ = some (.int .i64 W) := by simp [go_sem]
  have c1 : (w.alloc (.cells #[.int .i64 W, .slice a l cap] 24)).cell? ⟨w.heap.size, 1, none⟩ = some (.slice a l cap) := by simp [go_sem]
  have B := Lib.hid (fun w' (g : Kpt w w') => calBegun w' (ht.kpt g))
  obtain ⟨E, hE⟩ : ∃ E, calE W hs = E := ⟨_, rfl⟩
  have CK : Hid (∀ w', Kpt w w' → Calls Tryd.prog 16 #[calV W (.slice a l cap)] w' fun e w'' => e = .returned (.int .i64 E) ∧ Kpt w' w'') := fun w' g => by
    have := calCheck_any W _ hs w' (hr.kpt g) hf
    rw [hE] at this
    exact this.mono fun e w'' h => ⟨h.1, h.2.kpt⟩
  rw [hE] at hi
  clear hr hf ht k0 hE
  rcases hi with h | ⟨rfl, h | ⟨h, h'⟩⟩
  · have q : (E != 0) = true := bne_iff_ne.2 h
    clear h
    go_enter Tryd.func4, Tryd.ntmps4
    go_wp2_with (first
      | (go_at_call 15; (with_reducible refine (B.out _ G.out).mono ?_); rintro e w1 ⟨rfl, g1⟩; have c0 := g1.cell c0; have c1 := g1.cell c1; have G := Lib.hid (ktr G.out g1); clear g1)
      | (go_at_call 16; (with_reducible refine (CK.out _ G.out).mono ?_); rintro e w1 ⟨rfl, g1⟩; have c0 := g1.cell c0; have c1 := g1.cell c1; have G := Lib.hid (ktr G.out g1); clear g1))
    go_ret
    exact ⟨rfl, G.out⟩
  · have q : decide (i < 0) = true := decide_eq_true h
    go_enter Tryd.func4, Tryd.ntmps4
    go_wp2_with (first
      | (go_at_call 15; (with_reducible refine (B.out _ G.out).mono ?_); rintro e w1 ⟨rfl, g1⟩; have c0 := g1.cell c0; have c1 := g1.cell c1; have G := Lib.hid (ktr G.out g1); clear g1)
      | (go_at_call 16; (with_reducible refine (CK.out _ G.out).mono ?_); rintro e w1 ⟨rfl, g1⟩; have c0 := g1.cell c0; have c1 := g1.cell c1; have G := Lib.hid (ktr G.out g1); clear g1))
    all_goals
      go_ret
      exact ⟨rfl, G.out⟩
  · have q : decide (i < 0) = false := decide_eq_false (by omega)
    go_enter Tryd.func4, Tryd.ntmps4
    go_wp2_with (first
      | (go_at_call 15; (with_reducible refine (B.out _ G.out).mono ?_); rintro e w1 ⟨rfl, g1⟩; have c0 := g1.cell c0; have c1 := g1.cell c1; have G := Lib.hid (ktr G.out g1); clear g1)
      | (go_at_call 16; (with_reducible refine (CK.out _ G.out).mono ?_); rintro e w1 ⟨rfl, g1⟩; have c0 := g1.cell c0; have c1 := g1.cell c1; have G := Lib.hid (ktr G.out g1); clear g1))
    all_goals
      go_ret
      exact ⟨rfl, G.out⟩

theorem calHoliday_walk (W : Int) (v : Value) (hs : List Int) (i f t n : Int) (w : World) (ht : Tab w) (hr : Reads w v hs) (hf : Fits hs) (hv : ∃ a l cap, v = .slice a l cap ∧ l ≤ cap ∧ cap ≤ maxLen) :
    Calls Tryd.prog 4 #[calV W v, .int .i64 i, .int .i64 f, .int .i64 t, .int .i64 n] w fun r w' => r = .returned (.bool true) ∧ Kpt w w' := by
  obtain ⟨a, l, cap, rfl, hc, hm⟩ := hv
  have hl := hr.slice
  by_cases hE : calE W hs = 0
  · by_cases h0 : i < 0
    · exact calHoliday_out W a l cap hs i f t n w ht hr hf (.inr ⟨hE, .inl h0⟩)
    · by_cases h1 : (l : Int) ≤ i
      · exact calHoliday_out W a l cap hs i f t n w ht hr hf (.inr ⟨hE, .inr ⟨by omega, h1⟩⟩)
      · obtain ⟨k, rfl⟩ : ∃ k : Nat, i = k := ⟨i.toNat, by omega⟩
        rcases hr.cell with ⟨rfl, a', cap', e⟩ | ⟨_, b, off, cap', e, hcell⟩
        · simp at hl; omega
        · injection e with e1 e2 e3
          subst e1; subst e3; subst hl
          by_cases hlast : cap = k + 1
          · subst hlast
            have hk : k < hs.length := by omega
            exact calHoliday_end W k f t n b off hs w ht hr hf hE hk (by omega) hcell
          · exact calHoliday_at W k f t n b off cap hs w ht hr hf hE (by omega) hc hlast hm hcell
  · exact calHoliday_out W a l cap hs i f t n w ht hr hf (.inl hE)

end Go.Proofs.YtgkhcjnehmfgiaaDoor
