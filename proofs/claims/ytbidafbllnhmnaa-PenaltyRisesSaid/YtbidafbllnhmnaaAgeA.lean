/-
  What Check, checkTerms, walk and Days of package age do.
-/
import Derived.Test.YtbidafbllnhmnaaCalK
import Derived.Test.YtbidafbllnhmnaaFailS
namespace Go.Proofs.Ytbidafbllnhmnaa
open Go.RowKit
set_option linter.unusedVariables false

/-- the error of terms -/
def termE (e b d r : Int) : Int := if (btw 0 100 e && btw 0 100 b && btw 0 100 d) = true then (if btw 0 1000000 r = true then 0 else 3) else 3
theorem term_0 {e b d r : Int} (h : termE e b d r = 0) : (0 ≤ e ∧ e ≤ 100) ∧ (0 ≤ b ∧ b ≤ 100) ∧ (0 ≤ d ∧ d ≤ 100) ∧ 0 ≤ r ∧ r ≤ 1000000 := by
  unfold termE at h
  split at h
  · next h1 =>
    simp only [Bool.and_eq_true] at h1
    split at h
    · next h2 => exact ⟨btw_t h1.1.1, btw_t h1.1.2, btw_t h1.2, btw_t h2⟩
    · omega
  · omega
theorem term_mk {e b d r : Int} (h1 : 0 ≤ e ∧ e ≤ 100) (h2 : 0 ≤ b ∧ b ≤ 100) (h3 : 0 ≤ d ∧ d ≤ 100) (h4 : 0 ≤ r ∧ r ≤ 1000000) : termE e b d r = 0 := by
  unfold termE btw
  rw [decide_eq_true h1, decide_eq_true h2, decide_eq_true h3, decide_eq_true h4]; rfl
theorem term_bd (e b d r : Int) : termE e b d r = 0 ∨ termE e b d r = 3 := by
  unfold termE; split
  · split
    · exact .inl rfl
    · exact .inr rfl
  · exact .inr rfl
def three (e b d : Int) (k : Nat) : Int := [e, b, d].getD k 0
theorem three_no {e b d r : Int} {k : Nat} (hk : k < 3) (h : btw 0 100 (three e b d k) = false) : termE e b d r = 3 := by
  unfold termE
  rcases (show k = 0 ∨ k = 1 ∨ k = 2 by omega) with rfl | rfl | rfl
  · rw [if_neg (by have h : btw 0 100 e = false := h; rw [h]; simp)]
  · rw [if_neg (by have h : btw 0 100 b = false := h; rw [h]; simp)]
  · rw [if_neg (by have h : btw 0 100 d = false := h; rw [h]; simp)]
theorem three_yes {e b d r : Int} (h : ∀ k, k < 3 → btw 0 100 (three e b d k) = true) : termE e b d r = if btw 0 1000000 r = true then 0 else 3 := by
  unfold termE
  have h0 : btw 0 100 e = true := h 0 (by omega)
  have h1 : btw 0 100 b = true := h 1 (by omega)
  have h2 : btw 0 100 d = true := h 2 (by omega)
  rw [h0, h1, h2]; rfl
set_option maxHeartbeats 2000000 in
theorem term_run (e b d r : Int) (w : World) :
    Calls Try.prog 95 #[.agg #[.int .i64 e, .int .i64 b, .int .i64 d, .int .i64 r]] w fun x w' => x = .returned (.int .i64 (termE e b d r)) ∧ Kpt w w' := by
  have NO := Lib.hid (fun k hk h => three_no (e := e) (b := b) (d := d) (r := r) (k := k) hk h)
  have YES := Lib.hid (three_yes (e := e) (b := b) (d := d) (r := r))
  have B1 := Lib.hid (Blk.made w #[.int .i64 e, .int .i64 b, .int .i64 d, .int .i64 r] 41)
  have B2 := Lib.hid (Blk.made (w.alloc (.cells #[.int .i64 e, .int .i64 b, .int .i64 d, .int .i64 r] 41)) #[.int .i64 e, .int .i64 b, .int .i64 d] 3)
  have B3 : Hid (Blk ((w.alloc (.cells #[.int .i64 e, .int .i64 b, .int .i64 d, .int .i64 r] 41)).alloc (.cells #[.int .i64 e, .int .i64 b, .int .i64 d] 3)) w.heap.size #[.int .i64 e, .int .i64 b, .int .i64 d, .int .i64 r] 41) := B1.out.alloc _
  have HC : Hid (∀ k, k < 3 → World.cell? ((w.alloc (.cells #[.int .i64 e, .int .i64 b, .int .i64 d, .int .i64 r] 41)).alloc (.cells #[.int .i64 e, .int .i64 b, .int .i64 d] 3)) ⟨w.heap.size + 1, k, none⟩ = some (.int .i64 (three e b d k))) := fun k hk => by
    have hb : Blk ((w.alloc (.cells #[.int .i64 e, .int .i64 b, .int .i64 d, .int .i64 r] 41)).alloc (.cells #[.int .i64 e, .int .i64 b, .int .i64 d] 3)) (w.heap.size + 1) #[.int .i64 e, .int .i64 b, .int .i64 d] 3 := by have := B2.out; simpa using this
    rw [hb.cell k]
    rcases (show k = 0 ∨ k = 1 ∨ k = 2 by omega) with rfl | rfl | rfl <;> rfl
  go_enter Try.func95, Try.ntmps95
  go_wp2
  have K1 : Hid (Kpt w ((w.alloc (.cells #[.int .i64 e, .int .i64 b, .int .i64 d, .int .i64 r] 41)).alloc (.cells #[.int .i64 e, .int .i64 b, .int .i64 d] 3))) := ((Kpt.refl w).alloc _).alloc _
  generalize (w.alloc (.cells #[.int .i64 e, .int .i64 b, .int .i64 d, .int .i64 r] 41)).alloc (.cells #[.int .i64 e, .int .i64 b, .int .i64 d] 3) = W at *
  go_loop [13] (fun i => ∃ k : Nat, k ≤ 3 ∧ i = .int .i64 (k : Int) ∧ Hid (∀ j, j < k → btw 0 100 (three e b d j) = true)) (fun i => 3 - (intOf i).toNat)
  case atStart => exact ⟨0, Nat.zero_le _, rfl, fun j hj => absurd hj (Nat.not_lt_zero j)⟩
  case round =>
    obtain ⟨k, hk, rfl, HA⟩ := hrel
    by_cases hlt : k < 3
    · have c1 := HC.out k hlt
      have no := NO.out k hlt
      have HA' : Hid (btw 0 100 (three e b d k) = true → ∀ j, j < k + 1 → btw 0 100 (three e b d j) = true) := fun h j hj => by
        rcases Nat.lt_or_ge j k with h1 | h1
        · exact HA.out j h1
        · obtain rfl : j = k := by omega
          exact h
      generalize three e b d k = z at c1 no HA'
      by_cases h1 : z < 0
      · have y1 : decide (z < 0) = true := decide_eq_true h1
        have EX := Lib.hid (no (decide_eq_false (by omega)))
        clear no
        go_wp2
        go_ret
        exact ⟨ret_int EX.out.symm, K1.out⟩
      · have y1 : decide (z < 0) = false := decide_eq_false h1
        by_cases h2 : 100 < z
        · have y2 : decide (100 < z) = true := decide_eq_true h2
          have EX := Lib.hid (no (decide_eq_false (by omega)))
          clear no
          go_wp2
          go_ret
          exact ⟨ret_int EX.out.symm, K1.out⟩
        · have y2 : decide (100 < z) = false := decide_eq_false h2
          have HB := Lib.hid (HA'.out (decide_eq_true (by omega)))
          clear no
          go_wp2
          go_round
          case rel => exact ⟨k + 1, by omega, by go_num, HB.out⟩
          case measure => simp [intOf]; omega
    · obtain rfl : k = 3 := by omega
      have EX := Lib.hid (YES.out HA.out)
      have c3 : W.cell? ⟨w.heap.size, 3, none⟩ = some (.int .i64 r) := B3.out.cell 3
      by_cases h1 : r < 0
      · have y1 : decide (r < 0) = true := decide_eq_true h1
        have EY : Hid (termE e b d r = 3) := EX.out.trans (by rw [if_neg]; unfold btw; simp; omega)
        go_wp2
        go_ret
        exact ⟨ret_int EY.out.symm, K1.out⟩
      · have y1 : decide (r < 0) = false := decide_eq_false h1
        by_cases h2 : 1000000 < r
        · have y2 : decide (1000000 < r) = true := decide_eq_true h2
          have EY : Hid (termE e b d r = 3) := EX.out.trans (by rw [if_neg]; unfold btw; simp; omega)
          go_wp2
          go_ret
          exact ⟨ret_int EY.out.symm, K1.out⟩
        · have y2 : decide (1000000 < r) = false := decide_eq_false h2
          have EY : Hid (termE e b d r = 0) := EX.out.trans (by rw [if_pos (show btw 0 1000000 r = true from decide_eq_true (by omega))])
          go_wp2
          go_ret
          exact ⟨ret_int EY.out.symm, K1.out⟩
/-- the error of a calendar, and then of terms -/
def ctE (W : Int) (hs : List Int) (e b d r : Int) : Int := if calE W hs = 0 then termE e b d r else calE W hs
set_option maxHeartbeats 2000000 in
theorem ct_run (W e b d r : Int) (v : Value) (hs : List Int) (w : World) (hr : Reads w v hs) (hf : Fits hs) :
    Calls Try.prog 106 #[calV W v, .agg #[.int .i64 e, .int .i64 b, .int .i64 d, .int .i64 r]] w fun x w' => x = .returned (.int .i64 (ctE W hs e b d r)) ∧ Kpt w w' := by
  have CC := Lib.hid (fun w' (k : Kpt w w') => calCheck_any W v hs w' (hr.kpt k) hf)
  have TR := Lib.hid (fun w' => term_run e b d r w')
  have K1 : Hid (Kpt w ((w.alloc (.cells #[.int .i64 W, v] 24)).alloc (.cells #[.int .i64 e, .int .i64 b, .int .i64 d, .int .i64 r] 41))) := ((Kpt.refl w).alloc _).alloc _
  have B1 : Hid (Blk ((w.alloc (.cells #[.int .i64 W, v] 24)).alloc (.cells #[.int .i64 e, .int .i64 b, .int .i64 d, .int .i64 r] 41)) (w.heap.size + 1) #[.int .i64 e, .int .i64 b, .int .i64 d, .int .i64 r] 41) := by
    have := Blk.made (w.alloc (.cells #[.int .i64 W, v] 24)) #[.int .i64 e, .int .i64 b, .int .i64 d, .int .i64 r] 41
    unfold Hid; simpa using this
  obtain ⟨a, cap, rfl, -⟩ := hr
  unfold calV at *
  unfold ctE
  by_cases h : calE W hs = 0
  · rw [if_pos h]
    rw [h] at CC
    generalize termE e b d r = E at *
    go_enter Try.func106, Try.ntmps106
    go_wp2_with (first
      | (go_at_call 44; (with_reducible refine (CC.out _ K1.out).mono ?_); rintro x w1 ⟨rfl, k1⟩; have k1 := k1.kpt; have K2 := Lib.hid (ktr K1.out k1); have B2 := Lib.hid (B1.out.kpt k1); have c0 : World.cell? w1 ⟨w.heap.size + 1, 0, none⟩ = some (.int .i64 e) := B2.out.cell 0; have c1 : World.cell? w1 ⟨w.heap.size + 1, 1, none⟩ = some (.int .i64 b) := B2.out.cell 1; have c2 : World.cell? w1 ⟨w.heap.size + 1, 2, none⟩ = some (.int .i64 d) := B2.out.cell 2; have c3 : World.cell? w1 ⟨w.heap.size + 1, 3, none⟩ = some (.int .i64 r) := B2.out.cell 3; clear k1)
      | (go_at_call 95; (with_reducible refine (TR.out _).mono ?_); rintro x w2 ⟨rfl, k2⟩; have K3 := Lib.hid (ktr K2.out k2); clear k2))
    go_ret
    exact ⟨rfl, K3.out⟩
  · rw [if_neg h]
    have z0 : (calE W hs != 0) = true := bne_iff_ne.2 h
    clear h
    generalize calE W hs = E at *
    go_enter Try.func106, Try.ntmps106
    go_wp2_with (go_at_call 44; (with_reducible refine (CC.out _ K1.out).mono ?_); rintro x w1 ⟨rfl, k1⟩; have k1 := k1.kpt; have K2 := Lib.hid (ktr K1.out k1); clear k1)
    go_ret
    exact ⟨rfl, K2.out⟩

end Go.Proofs.Ytbidafbllnhmnaa
