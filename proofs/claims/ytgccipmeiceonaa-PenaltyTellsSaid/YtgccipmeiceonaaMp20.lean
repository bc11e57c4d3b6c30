/-
  Merged: AgeA, AgeB, AgeC.
-/
import Derived.Test.YtgccipmeiceonaaMp5
import Derived.Test.YtgccipmeiceonaaMp17
import Derived.BigQuiet
-- AgeA
namespace Go.Proofs.Ytgccipmeiceonaa
open Go.RowKit
set_option linter.unusedVariables false

/-- the error of terms -/
def termE (e b d r : Int) : Int := if (btw 0 100 e && btw 0 100 b && btw 0 100 d) = true then (if btw 0 1000000 r = true then 0 else 3) else 3
theorem term_0 {e b d r : Int} (h : termE e b d r = 0) : (0 ≤ e ∧ e ≤ 100) ∧ (0 ≤ b ∧ b ≤ 100) ∧ (0 ≤ d ∧ d ≤ 100) ∧ 0 ≤ r ∧ r ≤ 1000000 := by
  unfold termE at h
  split at h
  · next h1 =>
    simp only [Bool.and_eq_true] at h1
    split at h
    · next h2 => exact ⟨btw_t h1.1.1, btw_t h1.1.2, btw_t h1.2, btw_t h2⟩
    · omega
  · omega
theorem term_mk {e b d r : Int} (h1 : 0 ≤ e ∧ e ≤ 100) (h2 : 0 ≤ b ∧ b ≤ 100) (h3 : 0 ≤ d ∧ d ≤ 100) (h4 : 0 ≤ r ∧ r ≤ 1000000) : termE e b d r = 0 := by
  unfold termE btw
  rw [decide_eq_true h1, decide_eq_true h2, decide_eq_true h3, decide_eq_true h4]; rfl
theorem term_bd (e b d r : Int) : termE e b d r = 0 ∨ termE e b d r = 3 := by
  unfold termE; split
  · split
    · exact .inl rfl
    · exact .inr rfl
  · exact .inr rfl
def three (e b d : Int) (k : Nat) : Int := [e, b, d].getD k 0
theorem three_no {e b d r : Int} {k : Nat} (hk : k < 3) (h : btw 0 100 (three e b d k) = false) : termE e b d r = 3 := by
  unfold termE
  rcases (show k = 0 ∨ k = 1 ∨ k = 2 by omega) with rfl | rfl | rfl
  · rw [if_neg (by have h : btw 0 100 e = false := h; rw [h]; simp)]
  · rw [if_neg (by have h : btw 0 100 b = false := h; rw [h]; simp)]
  · rw [if_neg (by have h : btw 0 100 d = false := h; rw [h]; simp)]
theorem three_yes {e b d r : Int} (h : ∀ k, k < 3 → btw 0 100 (three e b d k) = true) : termE e b d r = if btw 0 1000000 r = true then 0 else 3 := by
  unfold termE
  have h0 : btw 0 100 e = true := h 0 (by omega)
  have h1 : btw 0 100 b = true := h 1 (by omega)
  have h2 : btw 0 100 d = true := h 2 (by omega)
  rw [h0, h1, h2]; rfl
set_option maxHeartbeats 2000000 in
theorem term_run (e b d r : Int) (w : World) :
    Calls Try.prog 103 #[.agg #[.int .i64 e, .int .i64 b, .int .i64 d, .int .i64 r]] w fun x w' => x = .returned (.int .i64 (termE e b d r)) ∧ Kpt w w' := by
  have NO := Lib.hid (fun k hk h => three_no (e := e) (b := b) (d := d) (r := r) (k := k) hk h)
  have YES := Lib.hid (three_yes (e := e) (b := b) (d := d) (r := r))
  have B1 := Lib.hid (Blk.made w #[.int .i64 e, .int .i64 b, .int .i64 d, .int .i64 r] 78)
  have B2 := Lib.hid (Blk.made (w.alloc (.cells #[.int .i64 e, .int .i64 b, .int .i64 d, .int .i64 r] 78)) #[.int .i64 e, .int .i64 b, .int .i64 d] 3)
  have B3 : Hid (Blk ((w.alloc (.cells #[.int .i64 e, .int .i64 b, .int .i64 d, .int .i64 r] 78)).alloc (.cells #[.int .i64 e, .int .i64 b, .int .i64 d] 3)) w.heap.size #[.int .i64 e, .int .i64 b, .int .i64 d, .int .i64 r] 78) := B1.out.alloc _
  have HC : Hid (∀ k, k < 3 → World.cell? ((w.alloc (.cells #[.int .i64 e, .int .i64 b, .int .i64 d, .int .i64 r] 78)).alloc (.cells #[.int .i64 e, .int .i64 b, .int .i64 d] 3)) ⟨w.heap.size + 1, k, none⟩ = some (.int .i64 (three e b d k))) := fun k hk => by
    have hb : Blk ((w.alloc (.cells #[.int .i64 e, .int .i64 b, .int .i64 d, .int .i64 r] 78)).alloc (.cells #[.int .i64 e, .int .i64 b, .int .i64 d] 3)) (w.heap.size + 1) #[.int .i64 e, .int .i64 b, .int .i64 d] 3 := by have := B2.out; simpa using this
    rw [hb.cell k]
    rcases (show k = 0 ∨ k = 1 ∨ k = 2 by omega) with rfl | rfl | rfl <;> rfl
  go_enter Try.func103, Try.ntmps103
  go_wp2
  have K1 : Hid (Kpt w ((w.alloc (.cells #[.int .i64 e, .int .i64 b, .int .i64 d, .int .i64 r] 78)).alloc (.cells #[.int .i64 e, .int .i64 b, .int .i64 d] 3))) := ((Kpt.refl w).alloc _).alloc _
  generalize (w.alloc (.cells #[.int .i64 e, .int .i64 b, .int .i64 d, .int .i64 r] 78)).alloc (.cells #[.int .i64 e, .int .i64 b, .int .i64 d] 3) = W at *
  go_loop [13] (fun i => ∃ k : Nat, k ≤ 3 ∧ i = .int .i64 (k : Int) ∧ Hid (∀ j, j < k → btw 0 100 (three e b d j) = true)) (fun i => 3 - (intOf i).toNat)
  case atStart => exact ⟨0, Nat.zero_le _, rfl, fun j hj => absurd hj (Nat.not_lt_zero j)⟩
  case round =>
    obtain ⟨k, hk, rfl, HA⟩ := hrel
    by_cases hlt : k < 3
    · have c1 := HC.out k hlt
      have no := NO.out k hlt
      have HA' : Hid (btw 0 100 (three e b d k) = true → ∀ j, j < k + 1 → btw 0 100 (three e b d j) = true) := fun h j hj => by
        rcases Nat.lt_or_ge j k with h1 | h1
        · exact HA.out j h1
        · obtain rfl : j = k := by omega
          exact h
      generalize three e b d k = z at c1 no HA'
      by_cases h1 : z < 0
      · have y1 : decide (z < 0) = true := decide_eq_true h1
        have EX := Lib.hid (no (decide_eq_false (by omega)))
        clear no
        go_wp2
        go_ret
        exact ⟨ret_int EX.out.symm, K1.out⟩
      · have y1 : decide (z < 0) = false := decide_eq_false h1
        by_cases h2 : 100 < z
        · have y2 : decide (100 < z) = true := decide_eq_true h2
          have EX := Lib.hid (no (decide_eq_false (by omega)))
          clear no
          go_wp2
          go_ret
          exact ⟨ret_int EX.out.symm, K1.out⟩
        · have y2 : decide (100 < z) = false := decide_eq_false h2
          have HB := Lib.hid (HA'.out (decide_eq_true (by omega)))
          clear no
          go_wp2
          go_round
          case rel => exact ⟨k + 1, by omega, by go_num, HB.out⟩
          case measure => simp [intOf]; omega
    · obtain rfl : k = 3 := by omega
      have EX := Lib.hid (YES.out HA.out)
      have c3 : W.cell? ⟨w.heap.size, 3, none⟩ = some (.int .i64 r) := B3.out.cell 3
      by_cases h1 : r < 0
      · have y1 : decide (r < 0) = true := decide_eq_true h1
        have EY : Hid (termE e b d r = 3) := EX.out.trans (by rw [if_neg]; unfold btw; simp; omega)
        go_wp2
        go_ret
        exact ⟨ret_int EY.out.symm, K1.out⟩
      · have y1 : decide (r < 0) = false := decide_eq_false h1
        by_cases h2 : 1000000 < r
        · have y2 : decide (1000000 < r) = true := decide_eq_true h2
          have EY : Hid (termE e b d r = 3) := EX.out.trans (by rw [if_neg]; unfold btw; simp; omega)
          go_wp2
          go_ret
          exact ⟨ret_int EY.out.symm, K1.out⟩
        · have y2 : decide (1000000 < r) = false := decide_eq_false h2
          have EY : Hid (termE e b d r = 0) := EX.out.trans (by rw [if_pos (show btw 0 1000000 r = true from decide_eq_true (by omega))])
          go_wp2
          go_ret
          exact ⟨ret_int EY.out.symm, K1.out⟩
/-- the error of a calendar, and then of terms -/
def ctE (W : Int) (hs : List Int) (e b d r : Int) : Int := if calE W hs = 0 then termE e b d r else calE W hs
set_option maxHeartbeats 2000000 in
theorem ct_run (W e b d r : Int) (v : Value) (hs : List Int) (w : World) (hr : Reads w v hs) (hf : Fits hs) :
    Calls Try.prog 146 #[calV W v, .agg #[.int .i64 e, .int .i64 b, .int .i64 d, .int .i64 r]] w fun x w' => x = .returned (.int .i64 (ctE W hs e b d r)) ∧ Kpt w w' := by
  have CC := Lib.hid (fun w' (k : Kpt w w') => calCheck_any W v hs w' (hr.kpt k) hf)
  have TR := Lib.hid (fun w' => term_run e b d r w')
  have K1 : Hid (Kpt w ((w.alloc (.cells #[.int .i64 W, v] 24)).alloc (.cells #[.int .i64 e, .int .i64 b, .int .i64 d, .int .i64 r] 78))) := ((Kpt.refl w).alloc _).alloc _
  have B1 : Hid (Blk ((w.alloc (.cells #[.int .i64 W, v] 24)).alloc (.cells #[.int .i64 e, .int .i64 b, .int .i64 d, .int .i64 r] 78)) (w.heap.size + 1) #[.int .i64 e, .int .i64 b, .int .i64 d, .int .i64 r] 78) := by
    have := Blk.made (w.alloc (.cells #[.int .i64 W, v] 24)) #[.int .i64 e, .int .i64 b, .int .i64 d, .int .i64 r] 78
    unfold Hid; simpa using this
  obtain ⟨a, cap, rfl, -⟩ := hr
  unfold calV at *
  unfold ctE
  by_cases h : calE W hs = 0
  · rw [if_pos h]
    rw [h] at CC
    generalize termE e b d r = E at *
    go_enter Try.func146, Try.ntmps146
    go_wp2_with (first
      | (go_at_call 52; (with_reducible refine (CC.out _ K1.out).mono ?_); rintro x w1 ⟨rfl, k1⟩; have k1 := k1.kpt; have K2 := Lib.hid (ktr K1.out k1); have B2 := Lib.hid (B1.out.kpt k1); have c0 : World.cell? w1 ⟨w.heap.size + 1, 0, none⟩ = some (.int .i64 e) := B2.out.cell 0; have c1 : World.cell? w1 ⟨w.heap.size + 1, 1, none⟩ = some (.int .i64 b) := B2.out.cell 1; have c2 : World.cell? w1 ⟨w.heap.size + 1, 2, none⟩ = some (.int .i64 d) := B2.out.cell 2; have c3 : World.cell? w1 ⟨w.heap.size + 1, 3, none⟩ = some (.int .i64 r) := B2.out.cell 3; clear k1)
      | (go_at_call 103; (with_reducible refine (TR.out _).mono ?_); rintro x w2 ⟨rfl, k2⟩; have K3 := Lib.hid (ktr K2.out k2); clear k2))
    go_ret
    exact ⟨rfl, K3.out⟩
  · rw [if_neg h]
    have z0 : (calE W hs != 0) = true := bne_iff_ne.2 h
    clear h
    generalize calE W hs = E at *
    go_enter Try.func146, Try.ntmps146
    go_wp2_with (go_at_call 52; (with_reducible refine (CC.out _ K1.out).mono ?_); rintro x w1 ⟨rfl, k1⟩; have k1 := k1.kpt; have K2 := Lib.hid (ktr K1.out k1); clear k1)
    go_ret
    exact ⟨rfl, K2.out⟩

end Go.Proofs.Ytgccipmeiceonaa

-- AgeB
namespace Go.Proofs.Ytgccipmeiceonaa
open Go.RowKit
set_option linter.unusedVariables false

theorem Row.kp {w w' : World} {g : Nat} {zs : List Int} (h : Row w g zs) (k : Kpt w w') : Row w' g zs := h.block (k.block g h.lt)
/-- the day behind so many of three steps, and the error of a step -/
def dayAt (W : Int) (hs : List Int) (n e b d : Int) : Nat → Int
  | 0 => n
  | k + 1 => steR W hs (dayAt W hs n e b d k) (three e b d k)
def errAt (W : Int) (hs : List Int) (n e b d : Int) (k : Nat) : Int := steE W hs (dayAt W hs n e b d k) (three e b d k)
def wlkE (W : Int) (hs : List Int) (n e b d : Int) : Int := if errAt W hs n e b d 0 ≠ 0 then errAt W hs n e b d 0 else if errAt W hs n e b d 1 ≠ 0 then errAt W hs n e b d 1 else errAt W hs n e b d 2
def rowAt (W : Int) (hs : List Int) (n e b d : Int) (k : Nat) : List Int := (List.range 3).map fun j => if j < k then dayAt W hs n e b d (j + 1) else 0
theorem row_len (W : Int) (hs : List Int) (n e b d : Int) (k : Nat) : (rowAt W hs n e b d k).length = 3 := by simp [rowAt]
theorem row_0 (W : Int) (hs : List Int) (n e b d : Int) : rowAt W hs n e b d 0 = List.replicate 3 0 := rfl
theorem row_s (W : Int) (hs : List Int) (n e b d : Int) (k : Nat) (hk : k < 3) : (rowAt W hs n e b d k).set k (dayAt W hs n e b d (k + 1)) = rowAt W hs n e b d (k + 1) := by
  rcases (show k = 0 ∨ k = 1 ∨ k = 2 by omega) with rfl | rfl | rfl <;> rfl
theorem wlk_at {W : Int} {hs : List Int} {n e b d : Int} {k : Nat} (hk : k < 3) (h : ∀ j, j < k → errAt W hs n e b d j = 0) (h2 : errAt W hs n e b d k ≠ 0) : wlkE W hs n e b d = errAt W hs n e b d k := by
  unfold wlkE
  rcases (show k = 0 ∨ k = 1 ∨ k = 2 by omega) with rfl | rfl | rfl
  · rw [if_pos h2]
  · rw [if_neg (by rw [h 0 (by omega)]; simp), if_pos h2]
  · rw [if_neg (by rw [h 0 (by omega)]; simp), if_neg (by rw [h 1 (by omega)]; simp)]
theorem wlk_no {W : Int} {hs : List Int} {n e b d : Int} (h : ∀ j, j < 3 → errAt W hs n e b d j = 0) : wlkE W hs n e b d = 0 := by
  unfold wlkE
  rw [if_neg (by rw [h 0 (by omega)]; simp), if_neg (by rw [h 1 (by omega)]; simp), h 2 (by omega)]
theorem wlk_0 {W : Int} {hs : List Int} {n e b d : Int} (h : wlkE W hs n e b d = 0) : ∀ j, j < 3 → errAt W hs n e b d j = 0 := by
  unfold wlkE at h
  split at h
  · next h1 => exact absurd h h1
  · next h1 =>
    split at h
    · next h2 => exact absurd h h2
    · next h2 =>
      intro j hj
      rcases (show j = 0 ∨ j = 1 ∨ j = 2 by omega) with rfl | rfl | rfl
      · exact Classical.not_not.1 h1
      · exact Classical.not_not.1 h2
      · exact h

set_option maxHeartbeats 4000000 in
theorem walk_run (W n e b d : Int) (v : Value) (hs : List Int) (g : Nat) (w : World) (hr : Reads w v hs) (hf : Fits hs) (hc : ∀ k, k < 3 → w.cell? ⟨g, k, none⟩ = some (.int .i64 (three e b d k))) :
    (wlkE W hs n e b d ≠ 0 → Calls Try.prog 162 #[calV W v, .int .i64 n, .slice (some ⟨g, 0, none⟩) 3 3] w fun x w' => x = .returned (.tuple #[.slice none 0 0, .int .i64 (wlkE W hs n e b d)]) ∧ Kpt w w') ∧
    (wlkE W hs n e b d = 0 → Calls Try.prog 162 #[calV W v, .int .i64 n, .slice (some ⟨g, 0, none⟩) 3 3] w fun x w' => ∃ G, x = .returned (.tuple #[.slice (some ⟨G, 0, none⟩) 3 3, .int .i64 0]) ∧ Hid (Row w' G (rowAt W hs n e b d 3)) ∧ Kpt w w') := by
  have main : Calls Try.prog 162 #[calV W v, .int .i64 n, .slice (some ⟨g, 0, none⟩) 3 3] w fun x w' => ((wlkE W hs n e b d ≠ 0 ∧ x = .returned (.tuple #[.slice none 0 0, .int .i64 (wlkE W hs n e b d)])) ∨ (wlkE W hs n e b d = 0 ∧ ∃ G, x = .returned (.tuple #[.slice (some ⟨G, 0, none⟩) 3 3, .int .i64 0]) ∧ Hid (Row w' G (rowAt W hs n e b d 3)))) ∧ Kpt w w' := by
    have ST := Lib.hid (fun w' n' m (k : Kpt w w') => step_any W n' m v hs w' (hr.kpt k) hf)
    have HC := Lib.hid hc
    have AT := Lib.hid (fun k hk h h2 => wlk_at (W := W) (hs := hs) (n := n) (e := e) (b := b) (d := d) (k := k) hk h h2)
    have NO := Lib.hid (wlk_no (W := W) (hs := hs) (n := n) (e := e) (b := b) (d := d))
    have RS := Lib.hid (fun k hk => row_s W hs n e b d k hk)
    have DS : Hid (∀ k, dayAt W hs n e b d (k + 1) = steR W hs (dayAt W hs n e b d k) (three e b d k)) := fun k => rfl
    have ES : Hid (∀ k, errAt W hs n e b d k = steE W hs (dayAt W hs n e b d k) (three e b d k)) := fun k => rfl
    obtain ⟨a, cap, rfl, -⟩ := hr
    generalize hs.length = hl at *
    unfold calV at *
    have B0 := Lib.hid (Blk.made w #[.int .i64 W, .slice a hl cap] 24)
    have MK := run_zeros (w.alloc (.cells #[.int .i64 W, .slice a hl cap] 24)) 3 (by omega)
    rw [show ((3 : Nat) : Int) = 3 from rfl, show (w.alloc (.cells #[.int .i64 W, .slice a hl cap] 24)).heap.size = w.heap.size + 1 by simp] at MK
    have RW : Hid (Row ((w.alloc (.cells #[.int .i64 W, .slice a hl cap] 24)).alloc (.cells (Array.replicate 3 (Value.int .i64 0)) 3)) (w.heap.size + 1) (List.replicate 3 0)) := by
      have := Row.made (w.alloc (.cells #[.int .i64 W, .slice a hl cap] 24)) 3
      unfold Hid; simpa using this
    clear hc hf
    go_enter Try.func162, Try.ntmps162
    go_wp2
    have HO : Hid (Row ((w.alloc (.cells #[.int .i64 W, .slice a hl cap] 24)).alloc (.cells (Array.replicate 3 (Value.int .i64 0)) 3)) (w.heap.size + 1) (rowAt W hs n e b d 0)) := RW.out
    have BB : Hid (Blk ((w.alloc (.cells #[.int .i64 W, .slice a hl cap] 24)).alloc (.cells (Array.replicate 3 (Value.int .i64 0)) 3)) w.heap.size #[.int .i64 W, .slice a hl cap] 24) := B0.out.alloc _
    have KK : Hid (Kpt w ((w.alloc (.cells #[.int .i64 W, .slice a hl cap] 24)).alloc (.cells (Array.replicate 3 (Value.int .i64 0)) 3))) := ((Kpt.refl w).alloc _).alloc _
    clear MK RW B0
    go_loopw [1, 18] (fun nn ii wr => ∃ k : Nat, k ≤ 3 ∧ ii = .int .i64 (k : Int) ∧ nn = .int .i64 (dayAt W hs n e b d k) ∧ Hid (∀ j, j < k → errAt W hs n e b d j = 0) ∧ Hid (Row wr (w.heap.size + 1) (rowAt W hs n e b d k)) ∧ Hid (Blk wr w.heap.size #[.int .i64 W, .slice a hl cap] 24) ∧ Hid (Kpt w wr)) (fun _ ii _ => 3 - (intOf ii).toNat)
    case atStart => exact ⟨0, Nat.zero_le _, rfl, rfl, fun j hj => absurd hj (Nat.not_lt_zero j), HO.out, BB.out, KK.out⟩
    case round =>
      obtain ⟨k, hk, rfl, rfl, HE, HR, HB, HK⟩ := hrel
      by_cases hlt : k < 3
      · have c1 := HK.out.cell (HC.out k hlt)
        have b0 : wr.cell? ⟨w.heap.size, 0, none⟩ = some (.int .i64 W) := HB.out.cell 0
        have b1 : wr.cell? ⟨w.heap.size, 1, none⟩ = some (.slice a hl cap) := HB.out.cell 1
        have rs := RS.out k hlt
        rw [DS.out k] at rs
        have ds := DS.out k
        have es := ES.out k
        have at' := AT.out k hlt HE.out
        rw [es] at at'
        have nx : steE W hs (dayAt W hs n e b d k) (three e b d k) = 0 → ∀ j, j < k + 1 → errAt W hs n e b d j = 0 := fun h j hj => by
          rcases Nat.lt_or_ge j k with h1 | h1
          · exact HE.out j h1
          · obtain rfl : j = k := by omega
            rw [es]; exact h
        have S1 := Lib.hid (ST.out wr (dayAt W hs n e b d k) (three e b d k) HK.out)
        generalize dayAt W hs n e b d k = N at *
        generalize three e b d k = M at *
        generalize steR W hs N M = N' at *
        have RSH := Lib.hid rs
        have DSH := Lib.hid ds
        by_cases hz : steE W hs N M = 0
        · have NX := Lib.hid (nx hz)
          rw [hz] at S1
          clear at' nx hz rs es ds
          go_wp2_with (go_at_call 169; (with_reducible refine S1.out.mono ?_); rintro x w2 ⟨rfl, k2⟩; have K2 := Lib.hid (ktr HK.out k2); have R2 := Lib.hid (Row.kp HR.out k2); have B2 := Lib.hid (HB.out.kpt k2); have fr := Row.frozen R2.out k; have cr := Row.cell R2.out (j := k) (by rw [row_len]; omega); clear k2)
          go_roundw
          case rel => exact ⟨k + 1, by omega, by go_num, by rw [DSH.out], NX.out, by unfold Hid; rw [← RSH.out]; exact Row.put R2.out k N', B2.out.away (by simp) _, Kpt.setCell K2.out (by simp) _⟩
          case measure => simp [intOf]; omega
        · have z0 : (steE W hs N M != 0) = true := bne_iff_ne.2 hz
          have EW := Lib.hid (at' hz)
          have EN := Lib.hid hz
          clear at' nx hz rs es ds
          generalize steE W hs N M = E at *
          go_wp2_with (go_at_call 169; (with_reducible refine S1.out.mono ?_); rintro x w2 ⟨rfl, k2⟩; have K2 := Lib.hid (ktr HK.out k2); clear k2)
          exact bodyPost_ret (v := .tuple #[.slice none 0 0, .int .i64 E]) (by simp [results, Try.results162, go_sem]) rfl ⟨.inl ⟨by rw [EW.out]; exact EN.out, by rw [EW.out]⟩, K2.out⟩
      · obtain rfl : k = 3 := by omega
        have E0 := Lib.hid (NO.out HE.out)
        go_wp2
        exact bodyPost_ret (v := .tuple #[.slice (some ⟨w.heap.size + 1, 0, none⟩) 3 3, .int .i64 0]) (by simp [results, Try.results162, go_sem]) rfl ⟨.inr ⟨E0.out, w.heap.size + 1, rfl, HR.out⟩, HK.out⟩
  refine ⟨fun h => main.mono ?_, fun h => main.mono ?_⟩
  · rintro x w' ⟨⟨_, rfl⟩ | ⟨h2, _⟩, hk⟩
    · exact ⟨rfl, hk⟩
    · exact absurd h2 h
  · rintro x w' ⟨⟨h2, _⟩ | ⟨_, G, rfl, ho⟩, hk⟩
    · exact absurd h h2
    · exact ⟨G, rfl, ho, hk⟩

end Go.Proofs.Ytgccipmeiceonaa

-- AgeC
namespace Go.Proofs.Ytgccipmeiceonaa
open Go.RowKit
set_option linter.unusedVariables false

/-- the error of Days -/
def agE (W : Int) (hs : List Int) (e b d r n : Int) : Int := if ctE W hs e b d r = 0 then wlkE W hs n e b d else ctE W hs e b d r
/-- what Days gives: the k-th of the days, nothing where there is an error -/
def agD (W : Int) (hs : List Int) (e b d r n : Int) (k : Nat) : Int := if agE W hs e b d r n = 0 then dayAt W hs n e b d k else 0
theorem ag_0 {W : Int} {hs : List Int} {e b d r n : Int} (h : agE W hs e b d r n = 0) : ctE W hs e b d r = 0 ∧ wlkE W hs n e b d = 0 := by
  unfold agE at h
  split at h
  · next h1 => exact ⟨h1, h⟩
  · next h1 => exact absurd h h1
set_option maxHeartbeats 4000000 in
theorem days_run (W n e b d r : Int) (v : Value) (hs : List Int) (w : World) (hr : Reads w v hs) (hf : Fits hs) :
    Calls Try.prog 147 #[calV W v, .agg #[.int .i64 e, .int .i64 b, .int .i64 d, .int .i64 r], .int .i64 n] w fun x w' => x = .returned (.tuple #[.int .i64 (agD W hs e b d r n 1), .int .i64 (agD W hs e b d r n 2), .int .i64 (agD W hs e b d r n 3), .int .i64 (agE W hs e b d r n)]) ∧ Kpt w w' := by
  have CT := Lib.hid (fun w' (k : Kpt w w') => ct_run W e b d r v hs w' (hr.kpt k) hf)
  have WK := Lib.hid (fun w' g (k : Kpt w w') hc => walk_run W n e b d v hs g w' (hr.kpt k) hf hc)
  have K1 : Hid (Kpt w ((w.alloc (.cells #[.int .i64 W, v] 24)).alloc (.cells #[.int .i64 e, .int .i64 b, .int .i64 d, .int .i64 r] 78))) := ((Kpt.refl w).alloc _).alloc _
  have B1 : Hid (Blk ((w.alloc (.cells #[.int .i64 W, v] 24)).alloc (.cells #[.int .i64 e, .int .i64 b, .int .i64 d, .int .i64 r] 78)) (w.heap.size + 1) #[.int .i64 e, .int .i64 b, .int .i64 d, .int .i64 r] 78) := by
    have := Blk.made (w.alloc (.cells #[.int .i64 W, v] 24)) #[.int .i64 e, .int .i64 b, .int .i64 d, .int .i64 r] 78
    unfold Hid; simpa using this
  have A1 : Hid (Blk ((w.alloc (.cells #[.int .i64 W, v] 24)).alloc (.cells #[.int .i64 e, .int .i64 b, .int .i64 d, .int .i64 r] 78)) w.heap.size #[.int .i64 W, v] 24) := (Blk.made w _ _).alloc _
  have HC3 : Hid (∀ w1 : World, ∀ k, k < 3 → World.cell? (w1.alloc (.cells #[.int .i64 e, .int .i64 b, .int .i64 d] 3)) ⟨w1.heap.size, k, none⟩ = some (.int .i64 (three e b d k))) := fun w1 k hk => by
    rw [(Blk.made w1 #[.int .i64 e, .int .i64 b, .int .i64 d] 3).cell k]
    rcases (show k = 0 ∨ k = 1 ∨ k = 2 by omega) with rfl | rfl | rfl <;> rfl
  obtain ⟨a, cap, rfl, -⟩ := hr
  unfold calV at *
  by_cases h : ctE W hs e b d r = 0
  · have hE : agE W hs e b d r n = wlkE W hs n e b d := by unfold agE; rw [if_pos h]
    rw [h] at CT
    by_cases h2 : wlkE W hs n e b d = 0
    · have WK := Lib.hid (fun w' g k hc => (WK.out w' g k hc).2 h2)
      rw [show agD W hs e b d r n 1 = dayAt W hs n e b d 1 by unfold agD; rw [hE, if_pos h2], show agD W hs e b d r n 2 = dayAt W hs n e b d 2 by unfold agD; rw [hE, if_pos h2], show agD W hs e b d r n 3 = dayAt W hs n e b d 3 by unfold agD; rw [hE, if_pos h2], hE, h2]
      clear h h2 hE
      go_enter Try.func147, Try.ntmps147
      go_wp2_with (first
        | (go_at_call 146; (with_reducible refine (CT.out _ K1.out).mono ?_); rintro x w1 ⟨rfl, k1⟩; have K2 := Lib.hid (ktr K1.out k1); have B2 := Lib.hid (B1.out.kpt k1); have A2 := Lib.hid (A1.out.kpt k1); have c0 : World.cell? w1 ⟨w.heap.size + 1, 0, none⟩ = some (.int .i64 e) := B2.out.cell 0; have c1 : World.cell? w1 ⟨w.heap.size + 1, 1, none⟩ = some (.int .i64 b) := B2.out.cell 1; have c2 : World.cell? w1 ⟨w.heap.size + 1, 2, none⟩ = some (.int .i64 d) := B2.out.cell 2; have a0 : World.cell? w1 ⟨w.heap.size, 0, none⟩ = some (.int .i64 W) := A2.out.cell 0; have a1 : World.cell? w1 ⟨w.heap.size, 1, none⟩ = some (.slice a hs.length cap) := A2.out.cell 1; clear k1)
        | (go_at_call 162; (with_reducible refine (WK.out _ _ (K2.out.alloc _) (HC3.out w1)).mono ?_); rintro x w2 ⟨G, rfl, HG, k2⟩; have K3 := Lib.hid (ktr (K2.out.alloc _) k2); have g0 : World.cell? w2 ⟨G, 0, none⟩ = some (.int .i64 (dayAt W hs n e b d 1)) := Row.cell HG.out (j := 0) (by rw [row_len]; omega); have g1 : World.cell? w2 ⟨G, 1, none⟩ = some (.int .i64 (dayAt W hs n e b d 2)) := Row.cell HG.out (j := 1) (by rw [row_len]; omega); have g2 : World.cell? w2 ⟨G, 2, none⟩ = some (.int .i64 (dayAt W hs n e b d 3)) := Row.cell HG.out (j := 2) (by rw [row_len]; omega); clear k2))
      have i0 : (0 : Int) < 3 := by omega
      have i1 : (1 : Int) < 3 := by omega
      have i2 : (2 : Int) < 3 := by omega
      go_quiet (fail)
      go_wp2
      exact bodyPost_ret (v := .tuple #[.int .i64 (dayAt W hs n e b d 1), .int .i64 (dayAt W hs n e b d 2), .int .i64 (dayAt W hs n e b d 3), .int .i64 0]) (by simp [results, Try.results147, go_sem]) rfl ⟨rfl, K3.out.drewN _⟩
    · have WK := Lib.hid (fun w' g k hc => (WK.out w' g k hc).1 h2)
      rw [show agD W hs e b d r n 1 = 0 by unfold agD; rw [hE, if_neg h2], show agD W hs e b d r n 2 = 0 by unfold agD; rw [hE, if_neg h2], show agD W hs e b d r n 3 = 0 by unfold agD; rw [hE, if_neg h2], hE]
      have z0 : (wlkE W hs n e b d != 0) = true := bne_iff_ne.2 h2
      clear h h2 hE
      generalize wlkE W hs n e b d = E at *
      go_enter Try.func147, Try.ntmps147
      go_wp2_with (first
        | (go_at_call 146; (with_reducible refine (CT.out _ K1.out).mono ?_); rintro x w1 ⟨rfl, k1⟩; have K2 := Lib.hid (ktr K1.out k1); have B2 := Lib.hid (B1.out.kpt k1); have A2 := Lib.hid (A1.out.kpt k1); have c0 : World.cell? w1 ⟨w.heap.size + 1, 0, none⟩ = some (.int .i64 e) := B2.out.cell 0; have c1 : World.cell? w1 ⟨w.heap.size + 1, 1, none⟩ = some (.int .i64 b) := B2.out.cell 1; have c2 : World.cell? w1 ⟨w.heap.size + 1, 2, none⟩ = some (.int .i64 d) := B2.out.cell 2; have a0 : World.cell? w1 ⟨w.heap.size, 0, none⟩ = some (.int .i64 W) := A2.out.cell 0; have a1 : World.cell? w1 ⟨w.heap.size, 1, none⟩ = some (.slice a hs.length cap) := A2.out.cell 1; clear k1)
        | (go_at_call 162; (with_reducible refine (WK.out _ _ (K2.out.alloc _) (HC3.out w1)).mono ?_); rintro x w2 ⟨rfl, k2⟩; have K3 := Lib.hid (ktr (K2.out.alloc _) k2); clear k2))
      exact bodyPost_ret (v := .tuple #[.int .i64 0, .int .i64 0, .int .i64 0, .int .i64 E]) (by simp [results, Try.results147, go_sem]) rfl ⟨rfl, K3.out⟩
  · have hE : agE W hs e b d r n = ctE W hs e b d r := by unfold agE; rw [if_neg h]
    rw [show agD W hs e b d r n 1 = 0 by unfold agD; rw [hE, if_neg h], show agD W hs e b d r n 2 = 0 by unfold agD; rw [hE, if_neg h], show agD W hs e b d r n 3 = 0 by unfold agD; rw [hE, if_neg h], hE]
    have z0 : (ctE W hs e b d r != 0) = true := bne_iff_ne.2 h
    clear h hE
    generalize ctE W hs e b d r = E at *
    go_enter Try.func147, Try.ntmps147
    go_wp2_with (go_at_call 146; (with_reducible refine (CT.out _ K1.out).mono ?_); rintro x w1 ⟨rfl, k1⟩; have K2 := Lib.hid (ktr K1.out k1); clear k1)
    exact bodyPost_ret (v := .tuple #[.int .i64 0, .int .i64 0, .int .i64 0, .int .i64 E]) (by simp [results, Try.results147, go_sem]) rfl ⟨rfl, K2.out⟩

end Go.Proofs.Ytgccipmeiceonaa
