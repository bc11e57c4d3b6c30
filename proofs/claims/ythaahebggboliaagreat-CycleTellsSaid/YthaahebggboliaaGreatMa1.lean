/-
  Merged: AgeA, AgeB, AgeC, AgeD, AgeE, AgeF, AgeG.
-/
import Derived.Test.YthaahebggboliaaGreatMc3
import Derived.Test.YthaahebggboliaaGreatMf1
import Derived.BigQuiet
import Derived.Test.YthaahebggboliaaGreatWeek
-- AgeA
namespace Go.Proofs.YthaahebggboliaaGreat
open Go.RowKit
set_option linter.unusedVariables false

/-- the error of terms -/
def termE (e b d r : Int) : Int := if (btw 0 100 e && btw 0 100 b && btw 0 100 d) = true then (if btw 0 1000000 r = true then 0 else 3) else 3
theorem term_0 {e b d r : Int} (h : termE e b d r = 0) : (0 ≤ e ∧ e ≤ 100) ∧ (0 ≤ b ∧ b ≤ 100) ∧ (0 ≤ d ∧ d ≤ 100) ∧ 0 ≤ r ∧ r ≤ 1000000 := by
  unfold termE at h
  split at h
  · next h1 =>
    simp only [Bool.and_eq_true] at h1
    split at h
    · next h2 => exact ⟨btw_t h1.1.1, btw_t h1.1.2, btw_t h1.2, btw_t h2⟩
    · omega
  · omega
theorem term_mk {e b d r : Int} (h1 : 0 ≤ e ∧ e ≤ 100) (h2 : 0 ≤ b ∧ b ≤ 100) (h3 : 0 ≤ d ∧ d ≤ 100) (h4 : 0 ≤ r ∧ r ≤ 1000000) : termE e b d r = 0 := by
  unfold termE btw
  rw [decide_eq_true h1, decide_eq_true h2, decide_eq_true h3, decide_eq_true h4]; rfl
theorem term_bd (e b d r : Int) : termE e b d r = 0 ∨ termE e b d r = 3 := by
  unfold termE; split
  · split
    · exact .inl rfl
    · exact .inr rfl
  · exact .inr rfl
def three (e b d : Int) (k : Nat) : Int := [e, b, d].getD k 0
theorem three_no {e b d r : Int} {k : Nat} (hk : k < 3) (h : btw 0 100 (three e b d k) = false) : termE e b d r = 3 := by
  unfold termE
  rcases (show k = 0 ∨ k = 1 ∨ k = 2 by omega) with rfl | rfl | rfl
  · rw [if_neg (by have h : btw 0 100 e = false := h; rw [h]; simp)]
  · rw [if_neg (by have h : btw 0 100 b = false := h; rw [h]; simp)]
  · rw [if_neg (by have h : btw 0 100 d = false := h; rw [h]; simp)]
theorem three_yes {e b d r : Int} (h : ∀ k, k < 3 → btw 0 100 (three e b d k) = true) : termE e b d r = if btw 0 1000000 r = true then 0 else 3 := by
  unfold termE
  have h0 : btw 0 100 e = true := h 0 (by omega)
  have h1 : btw 0 100 b = true := h 1 (by omega)
  have h2 : btw 0 100 d = true := h 2 (by omega)
  rw [h0, h1, h2]; rfl
set_option maxHeartbeats 2000000 in
theorem term_run (e b d r : Int) (w : World) :
    Calls Tryz.prog 51 #[.agg #[.int .i64 e, .int .i64 b, .int .i64 d, .int .i64 r]] w fun x w' => x = .returned (.int .i64 (termE e b d r)) ∧ Kpt w w' := by
  have NO := Lib.hid (fun k hk h => three_no (e := e) (b := b) (d := d) (r := r) (k := k) hk h)
  have YES := Lib.hid (three_yes (e := e) (b := b) (d := d) (r := r))
  have B1 := Lib.hid (Blk.made w #[.int .i64 e, .int .i64 b, .int .i64 d, .int .i64 r] 60)
  have B2 := Lib.hid (Blk.made (w.alloc (.cells #[.int .i64 e, .int .i64 b, .int .i64 d, .int .i64 r] 60)) #[.int .i64 e, .int .i64 b, .int .i64 d] 3)
  have B3 : Hid (Blk ((w.alloc (.cells #[.int .i64 e, .int .i64 b, .int .i64 d, .int .i64 r] 60)).alloc (.cells #[.int .i64 e, .int .i64 b, .int .i64 d] 3)) w.heap.size #[.int .i64 e, .int .i64 b, .int .i64 d, .int .i64 r] 60) := B1.out.alloc _
  have HC : Hid (∀ k, k < 3 → World.cell? ((w.alloc (.cells #[.int .i64 e, .int .i64 b, .int .i64 d, .int .i64 r] 60)).alloc (.cells #[.int .i64 e, .int .i64 b, .int .i64 d] 3)) ⟨w.heap.size + 1, k, none⟩ = some (.int .i64 (three e b d k))) := fun k hk => by
    have hb : Blk ((w.alloc (.cells #[.int .i64 e, .int .i64 b, .int .i64 d, .int .i64 r] 60)).alloc (.cells #[.int .i64 e, .int .i64 b, .int .i64 d] 3)) (w.heap.size + 1) #[.int .i64 e, .int .i64 b, .int .i64 d] 3 := by have := B2.out; simpa using this
    rw [hb.cell k]
    rcases (show k = 0 ∨ k = 1 ∨ k = 2 by omega) with rfl | rfl | rfl <;> rfl
  go_enter Tryz.func51, Tryz.ntmps51
  go_wp2
  have K1 : Hid (Kpt w ((w.alloc (.cells #[.int .i64 e, .int .i64 b, .int .i64 d, .int .i64 r] 60)).alloc (.cells #[.int .i64 e, .int .i64 b, .int .i64 d] 3))) := ((Kpt.refl w).alloc _).alloc _
  generalize (w.alloc (.cells #[.int .i64 e, .int .i64 b, .int .i64 d, .int .i64 r] 60)).alloc (.cells #[.int .i64 e, .int .i64 b, .int .i64 d] 3) = W at *
  go_loop [13] (fun i => ∃ k : Nat, k ≤ 3 ∧ i = .int .i64 (k : Int) ∧ Hid (∀ j, j < k → btw 0 100 (three e b d j) = true)) (fun i => 3 - (intOf i).toNat)
  case atStart => exact ⟨0, Nat.zero_le _, rfl, fun j hj => absurd hj (Nat.not_lt_zero j)⟩
  case round =>
    obtain ⟨k, hk, rfl, HA⟩ := hrel
    by_cases hlt : k < 3
    · have c1 := HC.out k hlt
      have no := NO.out k hlt
      have HA' : Hid (btw 0 100 (three e b d k) = true → ∀ j, j < k + 1 → btw 0 100 (three e b d j) = true) := fun h j hj => by
        rcases Nat.lt_or_ge j k with h1 | h1
        · exact HA.out j h1
        · obtain rfl : j = k := by omega
          exact h
      generalize three e b d k = z at c1 no HA'
      by_cases h1 : z < 0
      · have y1 : decide (z < 0) = true := decide_eq_true h1
        have EX := Lib.hid (no (decide_eq_false (by omega)))
        clear no
        go_wp2
        go_ret
        exact ⟨ret_int EX.out.symm, K1.out⟩
      · have y1 : decide (z < 0) = false := decide_eq_false h1
        by_cases h2 : 100 < z
        · have y2 : decide (100 < z) = true := decide_eq_true h2
          have EX := Lib.hid (no (decide_eq_false (by omega)))
          clear no
          go_wp2
          go_ret
          exact ⟨ret_int EX.out.symm, K1.out⟩
        · have y2 : decide (100 < z) = false := decide_eq_false h2
          have HB := Lib.hid (HA'.out (decide_eq_true (by omega)))
          clear no
          go_wp2
          go_round
          case rel => exact ⟨k + 1, by omega, by go_num, HB.out⟩
          case measure => simp [intOf]; omega
    · obtain rfl : k = 3 := by omega
      have EX := Lib.hid (YES.out HA.out)
      have c3 : W.cell? ⟨w.heap.size, 3, none⟩ = some (.int .i64 r) := B3.out.cell 3
      by_cases h1 : r < 0
      · have y1 : decide (r < 0) = true := decide_eq_true h1
        have EY : Hid (termE e b d r = 3) := EX.out.trans (by rw [if_neg]; unfold btw; simp; omega)
        go_wp2
        go_ret
        exact ⟨ret_int EY.out.symm, K1.out⟩
      · have y1 : decide (r < 0) = false := decide_eq_false h1
        by_cases h2 : 1000000 < r
        · have y2 : decide (1000000 < r) = true := decide_eq_true h2
          have EY : Hid (termE e b d r = 3) := EX.out.trans (by rw [if_neg]; unfold btw; simp; omega)
          go_wp2
          go_ret
          exact ⟨ret_int EY.out.symm, K1.out⟩
        · have y2 : decide (1000000 < r) = false := decide_eq_false h2
          have EY : Hid (termE e b d r = 0) := EX.out.trans (by rw [if_pos (show btw 0 1000000 r = true from decide_eq_true (by omega))])
          go_wp2
          go_ret
          exact ⟨ret_int EY.out.symm, K1.out⟩
/-- the error of a calendar, and then of terms -/
def ctE (W : Int) (hs : List Int) (e b d r : Int) : Int := if calE W hs = 0 then termE e b d r else calE W hs
set_option maxHeartbeats 2000000 in
theorem ct_run (W e b d r : Int) (v : Value) (hs : List Int) (w : World) (hr : Reads w v hs) (hf : Fits hs) :
    Calls Tryz.prog 80 #[calV W v, .agg #[.int .i64 e, .int .i64 b, .int .i64 d, .int .i64 r]] w fun x w' => x = .returned (.int .i64 (ctE W hs e b d r)) ∧ Kpt w w' := by
  have CC := Lib.hid (fun w' (k : Kpt w w') => calCheck_any W v hs w' (hr.kpt k) hf)
  have TR := Lib.hid (fun w' => term_run e b d r w')
  have K1 : Hid (Kpt w ((w.alloc (.cells #[.int .i64 W, v] 24)).alloc (.cells #[.int .i64 e, .int .i64 b, .int .i64 d, .int .i64 r] 60))) := ((Kpt.refl w).alloc _).alloc _
  have B1 : Hid (Blk ((w.alloc (.cells #[.int .i64 W, v] 24)).alloc (.cells #[.int .i64 e, .int .i64 b, .int .i64 d, .int .i64 r] 60)) (w.heap.size + 1) #[.int .i64 e, .int .i64 b, .int .i64 d, .int .i64 r] 60) := by
    have := Blk.made (w.alloc (.cells #[.int .i64 W, v] 24)) #[.int .i64 e, .int .i64 b, .int .i64 d, .int .i64 r] 60
    unfold Hid; simpa using this
  obtain ⟨a, cap, rfl, -⟩ := hr
  unfold calV at *
  unfold ctE
  by_cases h : calE W hs = 0
  · rw [if_pos h]
    rw [h] at CC
    generalize termE e b d r = E at *
    go_enter Tryz.func80, Tryz.ntmps80
    go_wp2_with (first
      | (go_at_call 50; (with_reducible refine (CC.out _ K1.out).mono ?_); rintro x w1 ⟨rfl, k1⟩; have k1 := k1.kpt; have K2 := Lib.hid (ktr K1.out k1); have B2 := Lib.hid (B1.out.kpt k1); have c0 : World.cell? w1 ⟨w.heap.size + 1, 0, none⟩ = some (.int .i64 e) := B2.out.cell 0; have c1 : World.cell? w1 ⟨w.heap.size + 1, 1, none⟩ = some (.int .i64 b) := B2.out.cell 1; have c2 : World.cell? w1 ⟨w.heap.size + 1, 2, none⟩ = some (.int .i64 d) := B2.out.cell 2; have c3 : World.cell? w1 ⟨w.heap.size + 1, 3, none⟩ = some (.int .i64 r) := B2.out.cell 3; clear k1)
      | (go_at_call 51; (with_reducible refine (TR.out _).mono ?_); rintro x w2 ⟨rfl, k2⟩; have K3 := Lib.hid (ktr K2.out k2); clear k2))
    go_ret
    exact ⟨rfl, K3.out⟩
  · rw [if_neg h]
    have z0 : (calE W hs != 0) = true := bne_iff_ne.2 h
    clear h
    generalize calE W hs = E at *
    go_enter Tryz.func80, Tryz.ntmps80
    go_wp2_with (go_at_call 50; (with_reducible refine (CC.out _ K1.out).mono ?_); rintro x w1 ⟨rfl, k1⟩; have k1 := k1.kpt; have K2 := Lib.hid (ktr K1.out k1); clear k1)
    go_ret
    exact ⟨rfl, K2.out⟩

end Go.Proofs.YthaahebggboliaaGreat

-- AgeB
namespace Go.Proofs.YthaahebggboliaaGreat
open Go.RowKit
set_option linter.unusedVariables false

theorem Row.kp {w w' : World} {g : Nat} {zs : List Int} (h : Row w g zs) (k : Kpt w w') : Row w' g zs := h.block (k.block g h.lt)
/-- the day behind so many of three steps, and the error of a step -/
def dayAt (W : Int) (hs : List Int) (n e b d : Int) : Nat → Int
  | 0 => n
  | k + 1 => steR W hs (dayAt W hs n e b d k) (three e b d k)
def errAt (W : Int) (hs : List Int) (n e b d : Int) (k : Nat) : Int := steE W hs (dayAt W hs n e b d k) (three e b d k)
def wlkE (W : Int) (hs : List Int) (n e b d : Int) : Int := if errAt W hs n e b d 0 ≠ 0 then errAt W hs n e b d 0 else if errAt W hs n e b d 1 ≠ 0 then errAt W hs n e b d 1 else errAt W hs n e b d 2
def rowAt (W : Int) (hs : List Int) (n e b d : Int) (k : Nat) : List Int := (List.range 3).map fun j => if j < k then dayAt W hs n e b d (j + 1) else 0
theorem row_len (W : Int) (hs : List Int) (n e b d : Int) (k : Nat) : (rowAt W hs n e b d k).length = 3 := by simp [rowAt]
theorem row_0 (W : Int) (hs : List Int) (n e b d : Int) : rowAt W hs n e b d 0 = List.replicate 3 0 := rfl
theorem row_s (W : Int) (hs : List Int) (n e b d : Int) (k : Nat) (hk : k < 3) : (rowAt W hs n e b d k).set k (dayAt W hs n e b d (k + 1)) = rowAt W hs n e b d (k + 1) := by
  rcases (show k = 0 ∨ k = 1 ∨ k = 2 by omega) with rfl | rfl | rfl <;> rfl
theorem wlk_at {W : Int} {hs : List Int} {n e b d : Int} {k : Nat} (hk : k < 3) (h : ∀ j, j < k → errAt W hs n e b d j = 0) (h2 : errAt W hs n e b d k ≠ 0) : wlkE W hs n e b d = errAt W hs n e b d k := by
  unfold wlkE
  rcases (show k = 0 ∨ k = 1 ∨ k = 2 by omega) with rfl | rfl | rfl
  · rw [if_pos h2]
  · rw [if_neg (by rw [h 0 (by omega)]; simp), if_pos h2]
  · rw [if_neg (by rw [h 0 (by omega)]; simp), if_neg (by rw [h 1 (by omega)]; simp)]
theorem wlk_no {W : Int} {hs : List Int} {n e b d : Int} (h : ∀ j, j < 3 → errAt W hs n e b d j = 0) : wlkE W hs n e b d = 0 := by
  unfold wlkE
  rw [if_neg (by rw [h 0 (by omega)]; simp), if_neg (by rw [h 1 (by omega)]; simp), h 2 (by omega)]
theorem wlk_0 {W : Int} {hs : List Int} {n e b d : Int} (h : wlkE W hs n e b d = 0) : ∀ j, j < 3 → errAt W hs n e b d j = 0 := by
  unfold wlkE at h
  split at h
  · next h1 => exact absurd h h1
  · next h1 =>
    split at h
    · next h2 => exact absurd h h2
    · next h2 =>
      intro j hj
      rcases (show j = 0 ∨ j = 1 ∨ j = 2 by omega) with rfl | rfl | rfl
      · exact Classical.not_not.1 h1
      · exact Classical.not_not.1 h2
      · exact h

set_option maxHeartbeats 4000000 in
theorem walk_run (W n e b d : Int) (v : Value) (hs : List Int) (g : Nat) (w : World) (hr : Reads w v hs) (hf : Fits hs) (hc : ∀ k, k < 3 → w.cell? ⟨g, k, none⟩ = some (.int .i64 (three e b d k))) :
    (wlkE W hs n e b d ≠ 0 → Calls Tryz.prog 81 #[calV W v, .int .i64 n, .slice (some ⟨g, 0, none⟩) 3 3] w fun x w' => x = .returned (.tuple #[.slice none 0 0, .int .i64 (wlkE W hs n e b d)]) ∧ Kpt w w') ∧
    (wlkE W hs n e b d = 0 → Calls Tryz.prog 81 #[calV W v, .int .i64 n, .slice (some ⟨g, 0, none⟩) 3 3] w fun x w' => ∃ G, x = .returned (.tuple #[.slice (some ⟨G, 0, none⟩) 3 3, .int .i64 0]) ∧ Hid (Row w' G (rowAt W hs n e b d 3)) ∧ Kpt w w') := by
  have main : Calls Tryz.prog 81 #[calV W v, .int .i64 n, .slice (some ⟨g, 0, none⟩) 3 3] w fun x w' => ((wlkE W hs n e b d ≠ 0 ∧ x = .returned (.tuple #[.slice none 0 0, .int .i64 (wlkE W hs n e b d)])) ∨ (wlkE W hs n e b d = 0 ∧ ∃ G, x = .returned (.tuple #[.slice (some ⟨G, 0, none⟩) 3 3, .int .i64 0]) ∧ Hid (Row w' G (rowAt W hs n e b d 3)))) ∧ Kpt w w' := by
    have ST := Lib.hid (fun w' n' m (k : Kpt w w') => step_any W n' m v hs w' (hr.kpt k) hf)
    have HC := Lib.hid hc
    have AT := Lib.hid (fun k hk h h2 => wlk_at (W := W) (hs := hs) (n := n) (e := e) (b := b) (d := d) (k := k) hk h h2)
    have NO := Lib.hid (wlk_no (W := W) (hs := hs) (n := n) (e := e) (b := b) (d := d))
    have RS := Lib.hid (fun k hk => row_s W hs n e b d k hk)
    have DS : Hid (∀ k, dayAt W hs n e b d (k + 1) = steR W hs (dayAt W hs n e b d k) (three e b d k)) := fun k => rfl
    have ES : Hid (∀ k, errAt W hs n e b d k = steE W hs (dayAt W hs n e b d k) (three e b d k)) := fun k => rfl
    obtain ⟨a, cap, rfl, -⟩ := hr
    generalize hs.length = hl at *
    unfold calV at *
    have B0 := Lib.hid (Blk.made w #[.int .i64 W, .slice a hl cap] 24)
    have MK := run_zeros (w.alloc (.cells #[.int .i64 W, .slice a hl cap] 24)) 3 (by omega)
    rw [show ((3 : Nat) : Int) = 3 from rfl, show (w.alloc (.cells #[.int .i64 W, .slice a hl cap] 24)).heap.size = w.heap.size + 1 by simp] at MK
    have RW : Hid (Row ((w.alloc (.cells #[.int .i64 W, .slice a hl cap] 24)).alloc (.cells (Array.replicate 3 (Value.int .i64 0)) 3)) (w.heap.size + 1) (List.replicate 3 0)) := by
      have := Row.made (w.alloc (.cells #[.int .i64 W, .slice a hl cap] 24)) 3
      unfold Hid; simpa using this
    clear hc hf
    go_enter Tryz.func81, Tryz.ntmps81
    go_wp2
    have HO : Hid (Row ((w.alloc (.cells #[.int .i64 W, .slice a hl cap] 24)).alloc (.cells (Array.replicate 3 (Value.int .i64 0)) 3)) (w.heap.size + 1) (rowAt W hs n e b d 0)) := RW.out
    have BB : Hid (Blk ((w.alloc (.cells #[.int .i64 W, .slice a hl cap] 24)).alloc (.cells (Array.replicate 3 (Value.int .i64 0)) 3)) w.heap.size #[.int .i64 W, .slice a hl cap] 24) := B0.out.alloc _
    have KK : Hid (Kpt w ((w.alloc (.cells #[.int .i64 W, .slice a hl cap] 24)).alloc (.cells (Array.replicate 3 (Value.int .i64 0)) 3))) := ((Kpt.refl w).alloc _).alloc _
    clear MK RW B0
    go_loopw [1, 18] (fun nn ii wr => ∃ k : Nat, k ≤ 3 ∧ ii = .int .i64 (k : Int) ∧ nn = .int .i64 (dayAt W hs n e b d k) ∧ Hid (∀ j, j < k → errAt W hs n e b d j = 0) ∧ Hid (Row wr (w.heap.size + 1) (rowAt W hs n e b d k)) ∧ Hid (Blk wr w.heap.size #[.int .i64 W, .slice a hl cap] 24) ∧ Hid (Kpt w wr)) (fun _ ii _ => 3 - (intOf ii).toNat)
    case atStart => exact ⟨0, Nat.zero_le _, rfl, rfl, fun j hj => absurd hj (Nat.not_lt_zero j), HO.out, BB.out, KK.out⟩
    case round =>
      obtain ⟨k, hk, rfl, rfl, HE, HR, HB, HK⟩ := hrel
      by_cases hlt : k < 3
      · have c1 := HK.out.cell (HC.out k hlt)
        have b0 : wr.cell? ⟨w.heap.size, 0, none⟩ = some (.int .i64 W) := HB.out.cell 0
        have b1 : wr.cell? ⟨w.heap.size, 1, none⟩ = some (.slice a hl cap) := HB.out.cell 1
        have rs := RS.out k hlt
        rw [DS.out k] at rs
        have ds := DS.out k
        have es := ES.out k
        have at' := AT.out k hlt HE.out
        rw [es] at at'
        have nx : steE W hs (dayAt W hs n e b d k) (three e b d k) = 0 → ∀ j, j < k + 1 → errAt W hs n e b d j = 0 := fun h j hj => by
          rcases Nat.lt_or_ge j k with h1 | h1
          · exact HE.out j h1
          · obtain rfl : j = k := by omega
            rw [es]; exact h
        have S1 := Lib.hid (ST.out wr (dayAt W hs n e b d k) (three e b d k) HK.out)
        generalize dayAt W hs n e b d k = N at *
        generalize three e b d k = M at *
        generalize steR W hs N M = N' at *
        have RSH := Lib.hid rs
        have DSH := Lib.hid ds
        by_cases hz : steE W hs N M = 0
        · have NX := Lib.hid (nx hz)
          rw [hz] at S1
          clear at' nx hz rs es ds
          go_wp2_with (go_at_call 89; (with_reducible refine S1.out.mono ?_); rintro x w2 ⟨rfl, k2⟩; have K2 := Lib.hid (ktr HK.out k2); have R2 := Lib.hid (Row.kp HR.out k2); have B2 := Lib.hid (HB.out.kpt k2); have fr := Row.frozen R2.out k; have cr := Row.cell R2.out (j := k) (by rw [row_len]; omega); clear k2)
          go_roundw
          case rel => exact ⟨k + 1, by omega, by go_num, by rw [DSH.out], NX.out, by unfold Hid; rw [← RSH.out]; exact Row.put R2.out k N', B2.out.away (by simp) _, Kpt.setCell K2.out (by simp) _⟩
          case measure => simp [intOf]; omega
        · have z0 : (steE W hs N M != 0) = true := bne_iff_ne.2 hz
          have EW := Lib.hid (at' hz)
          have EN := Lib.hid hz
          clear at' nx hz rs es ds
          generalize steE W hs N M = E at *
          go_wp2_with (go_at_call 89; (with_reducible refine S1.out.mono ?_); rintro x w2 ⟨rfl, k2⟩; have K2 := Lib.hid (ktr HK.out k2); clear k2)
          exact bodyPost_ret (v := .tuple #[.slice none 0 0, .int .i64 E]) (by simp [results, Tryz.results81, go_sem]) rfl ⟨.inl ⟨by rw [EW.out]; exact EN.out, by rw [EW.out]⟩, K2.out⟩
      · obtain rfl : k = 3 := by omega
        have E0 := Lib.hid (NO.out HE.out)
        go_wp2
        exact bodyPost_ret (v := .tuple #[.slice (some ⟨w.heap.size + 1, 0, none⟩) 3 3, .int .i64 0]) (by simp [results, Tryz.results81, go_sem]) rfl ⟨.inr ⟨E0.out, w.heap.size + 1, rfl, HR.out⟩, HK.out⟩
  refine ⟨fun h => main.mono ?_, fun h => main.mono ?_⟩
  · rintro x w' ⟨⟨_, rfl⟩ | ⟨h2, _⟩, hk⟩
    · exact ⟨rfl, hk⟩
    · exact absurd h2 h
  · rintro x w' ⟨⟨h2, _⟩ | ⟨_, G, rfl, ho⟩, hk⟩
    · exact absurd h h2
    · exact ⟨G, rfl, ho, hk⟩

end Go.Proofs.YthaahebggboliaaGreat

-- AgeC
namespace Go.Proofs.YthaahebggboliaaGreat
open Go.RowKit
set_option linter.unusedVariables false

/-- the error of Days -/
def agE (W : Int) (hs : List Int) (e b d r n : Int) : Int := if ctE W hs e b d r = 0 then wlkE W hs n e b d else ctE W hs e b d r
/-- what Days gives: the k-th of the days, nothing where there is an error -/
def agD (W : Int) (hs : List Int) (e b d r n : Int) (k : Nat) : Int := if agE W hs e b d r n = 0 then dayAt W hs n e b d k else 0
theorem ag_0 {W : Int} {hs : List Int} {e b d r n : Int} (h : agE W hs e b d r n = 0) : ctE W hs e b d r = 0 ∧ wlkE W hs n e b d = 0 := by
  unfold agE at h
  split at h
  · next h1 => exact ⟨h1, h⟩
  · next h1 => exact absurd h h1
set_option maxHeartbeats 4000000 in
theorem days_run (W n e b d r : Int) (v : Value) (hs : List Int) (w : World) (hr : Reads w v hs) (hf : Fits hs) :
    Calls Tryz.prog 33 #[calV W v, .agg #[.int .i64 e, .int .i64 b, .int .i64 d, .int .i64 r], .int .i64 n] w fun x w' => x = .returned (.tuple #[.int .i64 (agD W hs e b d r n 1), .int .i64 (agD W hs e b d r n 2), .int .i64 (agD W hs e b d r n 3), .int .i64 (agE W hs e b d r n)]) ∧ Kpt w w' := by
  have CT := Lib.hid (fun w' (k : Kpt w w') => ct_run W e b d r v hs w' (hr.kpt k) hf)
  have WK := Lib.hid (fun w' g (k : Kpt w w') hc => walk_run W n e b d v hs g w' (hr.kpt k) hf hc)
  have K1 : Hid (Kpt w ((w.alloc (.cells #[.int .i64 W, v] 24)).alloc (.cells #[.int .i64 e, .int .i64 b, .int .i64 d, .int .i64 r] 60))) := ((Kpt.refl w).alloc _).alloc _
  have B1 : Hid (Blk ((w.alloc (.cells #[.int .i64 W, v] 24)).alloc (.cells #[.int .i64 e, .int .i64 b, .int .i64 d, .int .i64 r] 60)) (w.heap.size + 1) #[.int .i64 e, .int .i64 b, .int .i64 d, .int .i64 r] 60) := by
    have := Blk.made (w.alloc (.cells #[.int .i64 W, v] 24)) #[.int .i64 e, .int .i64 b, .int .i64 d, .int .i64 r] 60
    unfold Hid; simpa using this
  have A1 : Hid (Blk ((w.alloc (.cells #[.int .i64 W, v] 24)).alloc (.cells #[.int .i64 e, .int .i64 b, .int .i64 d, .int .i64 r] 60)) w.heap.size #[.int .i64 W, v] 24) := (Blk.made w _ _).alloc _
  have HC3 : Hid (∀ w1 : World, ∀ k, k < 3 → World.cell? (w1.alloc (.cells #[.int .i64 e, .int .i64 b, .int .i64 d] 3)) ⟨w1.heap.size, k, none⟩ = some (.int .i64 (three e b d k))) := fun w1 k hk => by
    rw [(Blk.made w1 #[.int .i64 e, .int .i64 b, .int .i64 d] 3).cell k]
    rcases (show k = 0 ∨ k = 1 ∨ k = 2 by omega) with rfl | rfl | rfl <;> rfl
  obtain ⟨a, cap, rfl, -⟩ := hr
  unfold calV at *
  by_cases h : ctE W hs e b d r = 0
  · have hE : agE W hs e b d r n = wlkE W hs n e b d := by unfold agE; rw [if_pos h]
    rw [h] at CT
    by_cases h2 : wlkE W hs n e b d = 0
    · have WK := Lib.hid (fun w' g k hc => (WK.out w' g k hc).2 h2)
      rw [show agD W hs e b d r n 1 = dayAt W hs n e b d 1 by unfold agD; rw [hE, if_pos h2], show agD W hs e b d r n 2 = dayAt W hs n e b d 2 by unfold agD; rw [hE, if_pos h2], show agD W hs e b d r n 3 = dayAt W hs n e b d 3 by unfold agD; rw [hE, if_pos h2], hE, h2]
      clear h h2 hE
      go_enter Tryz.func33, Tryz.ntmps33
      go_wp2_with (first
        | (go_at_call 80; (with_reducible refine (CT.out _ K1.out).mono ?_); rintro x w1 ⟨rfl, k1⟩; have K2 := Lib.hid (ktr K1.out k1); have B2 := Lib.hid (B1.out.kpt k1); have A2 := Lib.hid (A1.out.kpt k1); have c0 : World.cell? w1 ⟨w.heap.size + 1, 0, none⟩ = some (.int .i64 e) := B2.out.cell 0; have c1 : World.cell? w1 ⟨w.heap.size + 1, 1, none⟩ = some (.int .i64 b) := B2.out.cell 1; have c2 : World.cell? w1 ⟨w.heap.size + 1, 2, none⟩ = some (.int .i64 d) := B2.out.cell 2; have a0 : World.cell? w1 ⟨w.heap.size, 0, none⟩ = some (.int .i64 W) := A2.out.cell 0; have a1 : World.cell? w1 ⟨w.heap.size, 1, none⟩ = some (.slice a hs.length cap) := A2.out.cell 1; clear k1)
        | (go_at_call 81; (with_reducible refine (WK.out _ _ (K2.out.alloc _) (HC3.out w1)).mono ?_); rintro x w2 ⟨G, rfl, HG, k2⟩; have K3 := Lib.hid (ktr (K2.out.alloc _) k2); have g0 : World.cell? w2 ⟨G, 0, none⟩ = some (.int .i64 (dayAt W hs n e b d 1)) := Row.cell HG.out (j := 0) (by rw [row_len]; omega); have g1 : World.cell? w2 ⟨G, 1, none⟩ = some (.int .i64 (dayAt W hs n e b d 2)) := Row.cell HG.out (j := 1) (by rw [row_len]; omega); have g2 : World.cell? w2 ⟨G, 2, none⟩ = some (.int .i64 (dayAt W hs n e b d 3)) := Row.cell HG.out (j := 2) (by rw [row_len]; omega); clear k2))
      have i0 : (0 : Int) < 3 := by omega
      have i1 : (1 : Int) < 3 := by omega
      have i2 : (2 : Int) < 3 := by omega
      go_quiet (fail)
      go_wp2
      exact bodyPost_ret (v := .tuple #[.int .i64 (dayAt W hs n e b d 1), .int .i64 (dayAt W hs n e b d 2), .int .i64 (dayAt W hs n e b d 3), .int .i64 0]) (by simp [results, Tryz.results33, go_sem]) rfl ⟨rfl, K3.out.drewN _⟩
    · have WK := Lib.hid (fun w' g k hc => (WK.out w' g k hc).1 h2)
      rw [show agD W hs e b d r n 1 = 0 by unfold agD; rw [hE, if_neg h2], show agD W hs e b d r n 2 = 0 by unfold agD; rw [hE, if_neg h2], show agD W hs e b d r n 3 = 0 by unfold agD; rw [hE, if_neg h2], hE]
      have z0 : (wlkE W hs n e b d != 0) = true := bne_iff_ne.2 h2
      clear h h2 hE
      generalize wlkE W hs n e b d = E at *
      go_enter Tryz.func33, Tryz.ntmps33
      go_wp2_with (first
        | (go_at_call 80; (with_reducible refine (CT.out _ K1.out).mono ?_); rintro x w1 ⟨rfl, k1⟩; have K2 := Lib.hid (ktr K1.out k1); have B2 := Lib.hid (B1.out.kpt k1); have A2 := Lib.hid (A1.out.kpt k1); have c0 : World.cell? w1 ⟨w.heap.size + 1, 0, none⟩ = some (.int .i64 e) := B2.out.cell 0; have c1 : World.cell? w1 ⟨w.heap.size + 1, 1, none⟩ = some (.int .i64 b) := B2.out.cell 1; have c2 : World.cell? w1 ⟨w.heap.size + 1, 2, none⟩ = some (.int .i64 d) := B2.out.cell 2; have a0 : World.cell? w1 ⟨w.heap.size, 0, none⟩ = some (.int .i64 W) := A2.out.cell 0; have a1 : World.cell? w1 ⟨w.heap.size, 1, none⟩ = some (.slice a hs.length cap) := A2.out.cell 1; clear k1)
        | (go_at_call 81; (with_reducible refine (WK.out _ _ (K2.out.alloc _) (HC3.out w1)).mono ?_); rintro x w2 ⟨rfl, k2⟩; have K3 := Lib.hid (ktr (K2.out.alloc _) k2); clear k2))
      exact bodyPost_ret (v := .tuple #[.int .i64 0, .int .i64 0, .int .i64 0, .int .i64 E]) (by simp [results, Tryz.results33, go_sem]) rfl ⟨rfl, K3.out⟩
  · have hE : agE W hs e b d r n = ctE W hs e b d r := by unfold agE; rw [if_neg h]
    rw [show agD W hs e b d r n 1 = 0 by unfold agD; rw [hE, if_neg h], show agD W hs e b d r n 2 = 0 by unfold agD; rw [hE, if_neg h], show agD W hs e b d r n 3 = 0 by unfold agD; rw [hE, if_neg h], hE]
    have z0 : (ctE W hs e b d r != 0) = true := bne_iff_ne.2 h
    clear h hE
    generalize ctE W hs e b d r = E at *
    go_enter Tryz.func33, Tryz.ntmps33
    go_wp2_with (go_at_call 80; (with_reducible refine (CT.out _ K1.out).mono ?_); rintro x w1 ⟨rfl, k1⟩; have K2 := Lib.hid (ktr K1.out k1); clear k1)
    exact bodyPost_ret (v := .tuple #[.int .i64 0, .int .i64 0, .int .i64 0, .int .i64 E]) (by simp [results, Tryz.results33, go_sem]) rfl ⟨rfl, K2.out⟩

end Go.Proofs.YthaahebggboliaaGreat

-- AgeD
namespace Go.Proofs.YthaahebggboliaaGreat
open Go.RowKit
set_option linter.unusedVariables false

theorem Tryz.sizeView : (Tryz.prog.info? 112).map (·.size) = some 14 := by kernel_rfl
theorem wp_storeV {ops : Array Oper} {rest : List Oper} {o : Oper} {a : Act} {w : World} {Q : Exit → Act → World → Prop} (hgd : o.guard = none) (x y : Operand) (ho : o.op = .store 112 x y)
    (g : Nat) (cs old : Array Value) (hx : a.eval x = .pointer (some ⟨g, 0, none⟩)) (hy : a.eval y = .agg cs) (hg : Blk w g old 112) (hs : old.size = 14) (hc : cs.size = 14) (h1 : cs.all (·.oneCell') = true)
    (h : ∀ w', Blk w' g cs 112 → (∀ B w0, Below B w0 w → B ≤ g → Below B w0 w') → (∀ k, k ≠ g → w'.heap[k]? = w.heap[k]?) → wpList Tryz.prog ops Q rest (a.put o.dst undef) w') : wpList Tryz.prog ops Q (o :: rest) a w :=
  wpList_store_row hgd _ x y ho g cs hx hy _ old hg (by rw [hc]; exact Tryz.sizeView) (by omega) h1 (h _ (setRow_heap w g old cs _ _ hg) (fun B w0 hb hB => below_setRow hb hB cs) (fun k hk => setRow_other w g k cs hk))
theorem wp_loadV {ops : Array Oper} {rest : List Oper} {o : Oper} {a : Act} {w : World} {Q : Exit → Act → World → Prop} (hgd : o.guard = none) (x : Operand) (ho : o.op = .load 112 x)
    (g : Nat) (cs : Array Value) (hx : a.eval x = .pointer (some ⟨g, 0, none⟩)) (hg : Blk w g cs 112) (hc : cs.size = 14)
    (h : wpList Tryz.prog ops Q rest (a.put o.dst (.agg cs)) w) : wpList Tryz.prog ops Q (o :: rest) a w :=
  wpList_load_row hgd _ x ho g hx _ cs _ _ hg Tryz.underlying112 rfl (by rw [hc]; exact Tryz.sizeView) h
theorem results_V2 {fn : Func} {p q : Tmp} (h : fn.results = #[.cell p 112, .tmp q]) (tmps : Array Value) (w : World) (g : Nat) (cs : Array Value) (z : Value)
    (hp : tmps.getD p undef = .pointer (some ⟨g, 0, none⟩)) (hq : tmps.getD q undef = z) (hg : Blk w g cs 112) (hc : cs.size = 14) : (results fn tmps).run Tryz.prog w = .ok (.tuple #[.agg cs, z]) w := by
  have hp' : tmps[p]?.getD undef = .pointer (some ⟨g, 0, none⟩) := by simpa using hp
  have hq' : tmps[q]?.getD undef = z := by simpa using hq
  have hl := run_loadVar_row (P := Tryz.prog) w g 112 112 cs (0, 0) _ hg Tryz.underlying112 rfl (by rw [hc]; exact Tryz.sizeView)
  simp [results, h, hp', hq', asAddr, hl]

/-- the error of look -/
def lkE (W : Int) (hs : List Int) (te tb td tr i f t c p d u x b y q : Int) : Int := if ctE W hs te tb td tr = 0 then (if failE i f t c p d u x b y = 0 then (if dayB q = true then wlkE W hs d te tb td else 3) else failE i f t c p d u x b y) else ctE W hs te tb td tr
theorem lk_0 {W : Int} {hs : List Int} {te tb td tr i f t c p d u x b y q : Int} (h : lkE W hs te tb td tr i f t c p d u x b y q = 0) : ctE W hs te tb td tr = 0 ∧ failE i f t c p d u x b y = 0 ∧ dayB q = true ∧ wlkE W hs d te tb td = 0 := by
  unfold lkE at h
  split at h
  · next h1 =>
    split at h
    · next h2 =>
      split at h
      · next h3 => exact ⟨h1, h2, h3, h⟩
      · omega
    · next h2 => exact absurd h h2
  · next h1 => exact absurd h h1

set_option maxRecDepth 100000 in
set_option maxHeartbeats 4000000 in
theorem look_ct (W te tb td tr i f t c p d u x b y q : Int) (v : Value) (hs : List Int) (w : World) (hr : Reads w v hs) (hf : Fits hs) (E : Int) (h : ctE W hs te tb td tr = E) (h0 : E ≠ 0) :
    Calls Tryz.prog 74 #[calV W v, .agg #[.int .i64 te, .int .i64 tb, .int .i64 td, .int .i64 tr], .agg #[.int .i64 i, .int .i64 f, .int .i64 t, .int .i64 c, .int .i64 p, .int .i64 d, .int .i64 u, .int .i64 x, .int .i64 b, .int .i64 y], .int .i64 q] w fun z w' => z = .returned (.tuple #[.agg #[.int .i64 0, .int .i64 0, .int .i64 0, .int .i64 0, .int .i64 0, .int .i64 0, .int .i64 0, .int .i64 0, .int .i64 0, .int .i64 0, .int .i64 0, .int .i64 0, .int .i64 0, .int .i64 0], .int .i64 E]) ∧ Kpt w w' := by
  have CT := Lib.hid (fun w' (k : Kpt w w') => ct_run W te tb td tr v hs w' (hr.kpt k) hf)
  have OX := Lib.hid (fun w' => fopenX_run i f t c p d u x b y w')
  have DY := Lib.hid (fun w' (k : Kpt w w') => days_run W d te tb td tr v hs w' (hr.kpt k) hf)
  have K0 : Hid (Kpt w ((((w.alloc (.cells #[.int .i64 W, v] 24)).alloc (.cells #[.int .i64 te, .int .i64 tb, .int .i64 td, .int .i64 tr] 60)).alloc (.cells #[.int .i64 i, .int .i64 f, .int .i64 t, .int .i64 c, .int .i64 p, .int .i64 d, .int .i64 u, .int .i64 x, .int .i64 b, .int .i64 y] 42)).alloc (.cells #[.int .i64 0, .int .i64 0, .int .i64 0, .int .i64 0, .int .i64 0, .int .i64 0, .int .i64 0, .int .i64 0, .int .i64 0, .int .i64 0, .int .i64 0, .int .i64 0, .int .i64 0, .int .i64 0] 112))) := ((((Kpt.refl w).alloc _).alloc _).alloc _).alloc _
  have BC : Hid (Blk ((((w.alloc (.cells #[.int .i64 W, v] 24)).alloc (.cells #[.int .i64 te, .int .i64 tb, .int .i64 td, .int .i64 tr] 60)).alloc (.cells #[.int .i64 i, .int .i64 f, .int .i64 t, .int .i64 c, .int .i64 p, .int .i64 d, .int .i64 u, .int .i64 x, .int .i64 b, .int .i64 y] 42)).alloc (.cells #[.int .i64 0, .int .i64 0, .int .i64 0, .int .i64 0, .int .i64 0, .int .i64 0, .int .i64 0, .int .i64 0, .int .i64 0, .int .i64 0, .int .i64 0, .int .i64 0, .int .i64 0, .int .i64 0] 112)) w.heap.size #[.int .i64 W, v] 24) := (((Blk.made w _ _).alloc _).alloc _).alloc _
  have BT : Hid (Blk ((((w.alloc (.cells #[.int .i64 W, v] 24)).alloc (.cells #[.int .i64 te, .int .i64 tb, .int .i64 td, .int .i64 tr] 60)).alloc (.cells #[.int .i64 i, .int .i64 f, .int .i64 t, .int .i64 c, .int .i64 p, .int .i64 d, .int .i64 u, .int .i64 x, .int .i64 b, .int .i64 y] 42)).alloc (.cells #[.int .i64 0, .int .i64 0, .int .i64 0, .int .i64 0, .int .i64 0, .int .i64 0, .int .i64 0, .int .i64 0, .int .i64 0, .int .i64 0, .int .i64 0, .int .i64 0, .int .i64 0, .int .i64 0] 112)) (w.heap.size + 1) #[.int .i64 te, .int .i64 tb, .int .i64 td, .int .i64 tr] 60) := by
    have := ((Blk.made (w.alloc (.cells #[.int .i64 W, v] 24)) #[.int .i64 te, .int .i64 tb, .int .i64 td, .int .i64 tr] 60).alloc (.cells #[.int .i64 i, .int .i64 f, .int .i64 t, .int .i64 c, .int .i64 p, .int .i64 d, .int .i64 u, .int .i64 x, .int .i64 b, .int .i64 y] 42)).alloc (.cells #[.int .i64 0, .int .i64 0, .int .i64 0, .int .i64 0, .int .i64 0, .int .i64 0, .int .i64 0, .int .i64 0, .int .i64 0, .int .i64 0, .int .i64 0, .int .i64 0, .int .i64 0, .int .i64 0] 112)
    unfold Hid; simpa using this
  have BF : Hid (Blk ((((w.alloc (.cells #[.int .i64 W, v] 24)).alloc (.cells #[.int .i64 te, .int .i64 tb, .int .i64 td, .int .i64 tr] 60)).alloc (.cells #[.int .i64 i, .int .i64 f, .int .i64 t, .int .i64 c, .int .i64 p, .int .i64 d, .int .i64 u, .int .i64 x, .int .i64 b, .int .i64 y] 42)).alloc (.cells #[.int .i64 0, .int .i64 0, .int .i64 0, .int .i64 0, .int .i64 0, .int .i64 0, .int .i64 0, .int .i64 0, .int .i64 0, .int .i64 0, .int .i64 0, .int .i64 0, .int .i64 0, .int .i64 0] 112)) (w.heap.size + 2) #[.int .i64 i, .int .i64 f, .int .i64 t, .int .i64 c, .int .i64 p, .int .i64 d, .int .i64 u, .int .i64 x, .int .i64 b, .int .i64 y] 42) := by
    have := (Blk.made ((w.alloc (.cells #[.int .i64 W, v] 24)).alloc (.cells #[.int .i64 te, .int .i64 tb, .int .i64 td, .int .i64 tr] 60)) #[.int .i64 i, .int .i64 f, .int .i64 t, .int .i64 c, .int .i64 p, .int .i64 d, .int .i64 u, .int .i64 x, .int .i64 b, .int .i64 y] 42).alloc (.cells #[.int .i64 0, .int .i64 0, .int .i64 0, .int .i64 0, .int .i64 0, .int .i64 0, .int .i64 0, .int .i64 0, .int .i64 0, .int .i64 0, .int .i64 0, .int .i64 0, .int .i64 0, .int .i64 0] 112)
    unfold Hid; simpa using this
  have BR : Hid (Blk ((((w.alloc (.cells #[.int .i64 W, v] 24)).alloc (.cells #[.int .i64 te, .int .i64 tb, .int .i64 td, .int .i64 tr] 60)).alloc (.cells #[.int .i64 i, .int .i64 f, .int .i64 t, .int .i64 c, .int .i64 p, .int .i64 d, .int .i64 u, .int .i64 x, .int .i64 b, .int .i64 y] 42)).alloc (.cells #[.int .i64 0, .int .i64 0, .int .i64 0, .int .i64 0, .int .i64 0, .int .i64 0, .int .i64 0, .int .i64 0, .int .i64 0, .int .i64 0, .int .i64 0, .int .i64 0, .int .i64 0, .int .i64 0] 112)) (w.heap.size + 3) #[.int .i64 0, .int .i64 0, .int .i64 0, .int .i64 0, .int .i64 0, .int .i64 0, .int .i64 0, .int .i64 0, .int .i64 0, .int .i64 0, .int .i64 0, .int .i64 0, .int .i64 0, .int .i64 0] 112) := by
    have := Blk.made (((w.alloc (.cells #[.int .i64 W, v] 24)).alloc (.cells #[.int .i64 te, .int .i64 tb, .int .i64 td, .int .i64 tr] 60)).alloc (.cells #[.int .i64 i, .int .i64 f, .int .i64 t, .int .i64 c, .int .i64 p, .int .i64 d, .int .i64 u, .int .i64 x, .int .i64 b, .int .i64 y] 42)) #[.int .i64 0, .int .i64 0, .int .i64 0, .int .i64 0, .int .i64 0, .int .i64 0, .int .i64 0, .int .i64 0, .int .i64 0, .int .i64 0, .int .i64 0, .int .i64 0, .int .i64 0, .int .i64 0] 112
    unfold Hid; simpa using this
  obtain ⟨a, cap, rfl, -⟩ := hr
  unfold calV at *
  rw [h] at CT
  have z0 : (E != 0) = true := bne_iff_ne.2 h0
  clear h h0
  go_enter Tryz.func74, Tryz.ntmps74
  go_wp2_with (first
    | (go_at_call 80; (with_reducible refine (CT.out _ K0.out).mono ?_); rintro z w1 ⟨rfl, k1⟩; have K1 := Lib.hid (ktr K0.out k1); have BC := Lib.hid (BC.out.kpt k1); have BT := Lib.hid (BT.out.kpt k1); have BF := Lib.hid (BF.out.kpt k1); have BR := Lib.hid (BR.out.kpt k1); clear k1)
    | (refine wp_storeV rfl (.tmp 8) (.tmp 23) rfl (w.heap.size + 3) _ _ rfl rfl BR.out rfl rfl (by simp [Value.oneCell']) ?_; intro w9 r9 k9 _; have R9 := Lib.hid r9; have K9 := Lib.hid (k9 _ _ K1.out (by omega)); clear r9 k9))
  exact bodyPost_ret (v := .tuple #[.agg #[.int .i64 0, .int .i64 0, .int .i64 0, .int .i64 0, .int .i64 0, .int .i64 0, .int .i64 0, .int .i64 0, .int .i64 0, .int .i64 0, .int .i64 0, .int .i64 0, .int .i64 0, .int .i64 0], .int .i64 E]) (results_V2 Tryz.results74 _ _ _ _ _ rfl rfl R9.out rfl) rfl ⟨rfl, K9.out⟩

set_option maxRecDepth 100000 in
set_option maxHeartbeats 4000000 in
theorem look_fl (W te tb td tr i f t c p d u x b y q : Int) (v : Value) (hs : List Int) (w : World) (hr : Reads w v hs) (hf : Fits hs) (E : Int) (h : ctE W hs te tb td tr = 0) (h1 : failE i f t c p d u x b y = E) (h0 : E ≠ 0) :
    Calls Tryz.prog 74 #[calV W v, .agg #[.int .i64 te, .int .i64 tb, .int .i64 td, .int .i64 tr], .agg #[.int .i64 i, .int .i64 f, .int .i64 t, .int .i64 c, .int .i64 p, .int .i64 d, .int .i64 u, .int .i64 x, .int .i64 b, .int .i64 y], .int .i64 q] w fun z w' => z = .returned (.tuple #[.agg #[.int .i64 0, .int .i64 0, .int .i64 0, .int .i64 0, .int .i64 0, .int .i64 0, .int .i64 0, .int .i64 0, .int .i64 0, .int .i64 0, .int .i64 0, .int .i64 0, .int .i64 0, .int .i64 0], .int .i64 E]) ∧ Kpt w w' := by
  have CT := Lib.hid (fun w' (k : Kpt w w') => ct_run W te tb td tr v hs w' (hr.kpt k) hf)
  have OX := Lib.hid (fun w' => fopenX_run i f t c p d u x b y w')
  have DY := Lib.hid (fun w' (k : Kpt w w') => days_run W d te tb td tr v hs w' (hr.kpt k) hf)
  have K0 : Hid (Kpt w ((((w.alloc (.cells #[.int .i64 W, v] 24)).alloc (.cells #[.int .i64 te, .int .i64 tb, .int .i64 td, .int .i64 tr] 60)).alloc (.cells #[.int .i64 i, .int .i64 f, .int .i64 t, .int .i64 c, .int .i64 p, .int .i64 d, .int .i64 u, .int .i64 x, .int .i64 b, .int .i64 y] 42)).alloc (.cells #[.int .i64 0, .int .i64 0, .int .i64 0, .int .i64 0, .int .i64 0, .int .i64 0, .int .i64 0, .int .i64 0, .int .i64 0, .int .i64 0, .int .i64 0, .int .i64 0, .int .i64 0, .int .i64 0] 112))) := ((((Kpt.refl w).alloc _).alloc _).alloc _).alloc _
  have BC : Hid (Blk ((((w.alloc (.cells #[.int .i64 W, v] 24)).alloc (.cells #[.int .i64 te, .int .i64 tb, .int .i64 td, .int .i64 tr] 60)).alloc (.cells #[.int .i64 i, .int .i64 f, .int .i64 t, .int .i64 c, .int .i64 p, .int .i64 d, .int .i64 u, .int .i64 x, .int .i64 b, .int .i64 y] 42)).alloc (.cells #[.int .i64 0, .int .i64 0, .int .i64 0, .int .i64 0, .int .i64 0, .int .i64 0, .int .i64 0, .int .i64 0, .int .i64 0, .int .i64 0, .int .i64 0, .int .i64 0, .int .i64 0, .int .i64 0] 112)) w.heap.size #[.int .i64 W, v] 24) := (((Blk.made w _ _).alloc _).alloc _).alloc _
  have BT : Hid (Blk ((((w.alloc (.cells #[.int .i64 W, v] 24)).alloc (.cells #[.int .i64 te, .int .i64 tb, .int .i64 td, .int .i64 tr] 60)).alloc (.cells #[.int .i64 i, .int .i64 f, .int .i64 t, .int .i64 c, .int .i64 p, .int .i64 d, .int .i64 u, .int .i64 x, .int .i64 b, .int .i64 y] 42)).alloc (.cells #[.int .i64 0, .int .i64 0, .int .i64 0, .int .i64 0, .int .i64 0, .int .i64 0, .int .i64 0, .int .i64 0, .int .i64 0, .int .i64 0, .int .i64 0, .int .i64 0, .int .i64 0, .int .i64 0] 112)) (w.heap.size + 1) #[.int .i64 te, .int .i64 tb, .int .i64 td, .int .i64 tr] 60) := by
    have := ((Blk.made (w.alloc (.cells #[.int .i64 W, v] 24)) #[.int .i64 te, .int .i64 tb, .int .i64 td, .int .i64 tr] 60).alloc (.cells #[.int .i64 i, .int .i64 f, .int .i64 t, .int .i64 c, .int .i64 p, .int .i64 d, .int .i64 u, .int .i64 x, .int .i64 b, .int .i64 y] 42)).alloc (.cells #[.int .i64 0, .int .i64 0, .int .i64 0, .int .i64 0, .int .i64 0, .int .i64 0, .int .i64 0, .int .i64 0, .int .i64 0, .int .i64 0, .int .i64 0, .int .i64 0, .int .i64 0, .int .i64 0] 112)
    unfold Hid; simpa using this
  have BF : Hid (Blk ((((w.alloc (.cells #[.int .i64 W, v] 24)).alloc (.cells #[.int .i64 te, .int .i64 tb, .int .i64 td, .int .i64 tr] 60)).alloc (.cells #[.int .i64 i, .int .i64 f, .int .i64 t, .int .i64 c, .int .i64 p, .int .i64 d, .int .i64 u, .int .i64 x, .int .i64 b, .int .i64 y] 42)).alloc (.cells #[.int .i64 0, .int .i64 0, .int .i64 0, .int .i64 0, .int .i64 0, .int .i64 0, .int .i64 0, .int .i64 0, .int .i64 0, .int .i64 0, .int .i64 0, .int .i64 0, .int .i64 0, .int .i64 0] 112)) (w.heap.size + 2) #[.int .i64 i, .int .i64 f, .int .i64 t, .int .i64 c, .int .i64 p, .int .i64 d, .int .i64 u, .int .i64 x, .int .i64 b, .int .i64 y] 42) := by
    have := (Blk.made ((w.alloc (.cells #[.int .i64 W, v] 24)).alloc (.cells #[.int .i64 te, .int .i64 tb, .int .i64 td, .int .i64 tr] 60)) #[.int .i64 i, .int .i64 f, .int .i64 t, .int .i64 c, .int .i64 p, .int .i64 d, .int .i64 u, .int .i64 x, .int .i64 b, .int .i64 y] 42).alloc (.cells #[.int .i64 0, .int .i64 0, .int .i64 0, .int .i64 0, .int .i64 0, .int .i64 0, .int .i64 0, .int .i64 0, .int .i64 0, .int .i64 0, .int .i64 0, .int .i64 0, .int .i64 0, .int .i64 0] 112)
    unfold Hid; simpa using this
  have BR : Hid (Blk ((((w.alloc (.cells #[.int .i64 W, v] 24)).alloc (.cells #[.int .i64 te, .int .i64 tb, .int .i64 td, .int .i64 tr] 60)).alloc (.cells #[.int .i64 i, .int .i64 f, .int .i64 t, .int .i64 c, .int .i64 p, .int .i64 d, .int .i64 u, .int .i64 x, .int .i64 b, .int .i64 y] 42)).alloc (.cells #[.int .i64 0, .int .i64 0, .int .i64 0, .int .i64 0, .int .i64 0, .int .i64 0, .int .i64 0, .int .i64 0, .int .i64 0, .int .i64 0, .int .i64 0, .int .i64 0, .int .i64 0, .int .i64 0] 112)) (w.heap.size + 3) #[.int .i64 0, .int .i64 0, .int .i64 0, .int .i64 0, .int .i64 0, .int .i64 0, .int .i64 0, .int .i64 0, .int .i64 0, .int .i64 0, .int .i64 0, .int .i64 0, .int .i64 0, .int .i64 0] 112) := by
    have := Blk.made (((w.alloc (.cells #[.int .i64 W, v] 24)).alloc (.cells #[.int .i64 te, .int .i64 tb, .int .i64 td, .int .i64 tr] 60)).alloc (.cells #[.int .i64 i, .int .i64 f, .int .i64 t, .int .i64 c, .int .i64 p, .int .i64 d, .int .i64 u, .int .i64 x, .int .i64 b, .int .i64 y] 42)) #[.int .i64 0, .int .i64 0, .int .i64 0, .int .i64 0, .int .i64 0, .int .i64 0, .int .i64 0, .int .i64 0, .int .i64 0, .int .i64 0, .int .i64 0, .int .i64 0, .int .i64 0, .int .i64 0] 112
    unfold Hid; simpa using this
  obtain ⟨a, cap, rfl, -⟩ := hr
  unfold calV at *
  rw [h] at CT
  rw [h1] at OX
  have z0 : (E != 0) = true := bne_iff_ne.2 h0
  clear h h0 h1
  generalize openV i f t c p d u x b y = o at *
  go_enter Tryz.func74, Tryz.ntmps74
  go_wp2_with (first
    | (go_at_call 80; (with_reducible refine (CT.out _ K0.out).mono ?_); rintro z w1 ⟨rfl, k1⟩; have K1 := Lib.hid (ktr K0.out k1); have BC := Lib.hid (BC.out.kpt k1); have BT := Lib.hid (BT.out.kpt k1); have BF := Lib.hid (BF.out.kpt k1); have BR := Lib.hid (BR.out.kpt k1); clear k1)
    | (refine wp_loadF rfl (.tmp 6) rfl (w.heap.size + 2) _ rfl BF.out rfl ?_)
    | (go_at_call 34; (with_reducible refine (OX.out _).mono ?_); rintro z w2 ⟨rfl, k1⟩; have K2 := Lib.hid (ktr K1.out k1); have BC := Lib.hid (BC.out.kpt k1); have BT := Lib.hid (BT.out.kpt k1); have BF := Lib.hid (BF.out.kpt k1); have BR := Lib.hid (BR.out.kpt k1); have a0 : World.cell? w2 ⟨w.heap.size, 0, none⟩ = some (.int .i64 W) := BC.out.cell 0; have a1 : World.cell? w2 ⟨w.heap.size, 1, none⟩ = some (.slice a hs.length cap) := BC.out.cell 1; have c0 : World.cell? w2 ⟨(w.heap.size + 1), 0, none⟩ = some (.int .i64 te) := BT.out.cell 0; have c1 : World.cell? w2 ⟨(w.heap.size + 1), 1, none⟩ = some (.int .i64 tb) := BT.out.cell 1; have c2 : World.cell? w2 ⟨(w.heap.size + 1), 2, none⟩ = some (.int .i64 td) := BT.out.cell 2; have c3 : World.cell? w2 ⟨(w.heap.size + 1), 3, none⟩ = some (.int .i64 tr) := BT.out.cell 3; have fd : World.cell? w2 ⟨(w.heap.size + 2), 5, none⟩ = some (.int .i64 d) := BF.out.cell 5; clear k1)
    | (refine wp_storeV rfl (.tmp 8) (.tmp 32) rfl (w.heap.size + 3) _ _ rfl rfl BR.out rfl rfl (by simp [Value.oneCell']) ?_; intro w9 r9 k9 _; have R9 := Lib.hid r9; have K9 := Lib.hid (k9 _ _ K2.out (by omega)); clear r9 k9))
  exact bodyPost_ret (v := .tuple #[.agg #[.int .i64 0, .int .i64 0, .int .i64 0, .int .i64 0, .int .i64 0, .int .i64 0, .int .i64 0, .int .i64 0, .int .i64 0, .int .i64 0, .int .i64 0, .int .i64 0, .int .i64 0, .int .i64 0], .int .i64 E]) (results_V2 Tryz.results74 _ _ _ _ _ rfl rfl R9.out rfl) rfl ⟨rfl, K9.out⟩

set_option maxRecDepth 100000 in
set_option maxHeartbeats 4000000 in
theorem look_day (W te tb td tr i f t c p d u x b y q : Int) (v : Value) (hs : List Int) (w : World) (hr : Reads w v hs) (hf : Fits hs) (h : ctE W hs te tb td tr = 0) (h1 : failE i f t c p d u x b y = 0) (h2 : dayB q = false) :
    Calls Tryz.prog 74 #[calV W v, .agg #[.int .i64 te, .int .i64 tb, .int .i64 td, .int .i64 tr], .agg #[.int .i64 i, .int .i64 f, .int .i64 t, .int .i64 c, .int .i64 p, .int .i64 d, .int .i64 u, .int .i64 x, .int .i64 b, .int .i64 y], .int .i64 q] w fun z w' => z = .returned (.tuple #[.agg #[.int .i64 0, .int .i64 0, .int .i64 0, .int .i64 0, .int .i64 0, .int .i64 0, .int .i64 0, .int .i64 0, .int .i64 0, .int .i64 0, .int .i64 0, .int .i64 0, .int .i64 0, .int .i64 0], .int .i64 3]) ∧ Kpt w w' := by
  have WKD := Lib.hid (fun w' => wk_no q (by have := day_f h2; omega) w')
  have CT := Lib.hid (fun w' (k : Kpt w w') => ct_run W te tb td tr v hs w' (hr.kpt k) hf)
  have OX := Lib.hid (fun w' => fopenX_run i f t c p d u x b y w')
  have DY := Lib.hid (fun w' (k : Kpt w w') => days_run W d te tb td tr v hs w' (hr.kpt k) hf)
  have K0 : Hid (Kpt w ((((w.alloc (.cells #[.int .i64 W, v] 24)).alloc (.cells #[.int .i64 te, .int .i64 tb, .int .i64 td, .int .i64 tr] 60)).alloc (.cells #[.int .i64 i, .int .i64 f, .int .i64 t, .int .i64 c, .int .i64 p, .int .i64 d, .int .i64 u, .int .i64 x, .int .i64 b, .int .i64 y] 42)).alloc (.cells #[.int .i64 0, .int .i64 0, .int .i64 0, .int .i64 0, .int .i64 0, .int .i64 0, .int .i64 0, .int .i64 0, .int .i64 0, .int .i64 0, .int .i64 0, .int .i64 0, .int .i64 0, .int .i64 0] 112))) := ((((Kpt.refl w).alloc _).alloc _).alloc _).alloc _
  have BC : Hid (Blk ((((w.alloc (.cells #[.int .i64 W, v] 24)).alloc (.cells #[.int .i64 te, .int .i64 tb, .int .i64 td, .int .i64 tr] 60)).alloc (.cells #[.int .i64 i, .int .i64 f, .int .i64 t, .int .i64 c, .int .i64 p, .int .i64 d, .int .i64 u, .int .i64 x, .int .i64 b, .int .i64 y] 42)).alloc (.cells #[.int .i64 0, .int .i64 0, .int .i64 0, .int .i64 0, .int .i64 0, .int .i64 0, .int .i64 0, .int .i64 0, .int .i64 0, .int .i64 0, .int .i64 0, .int .i64 0, .int .i64 0, .int .i64 0] 112)) w.heap.size #[.int .i64 W, v] 24) := (((Blk.made w _ _).alloc _).alloc _).alloc _
  have BT : Hid (Blk ((((w.alloc (.cells #[.int .i64 W, v] 24)).alloc (.cells #[.int .i64 te, .int .i64 tb, .int .i64 td, .int .i64 tr] 60)).alloc (.cells #[.int .i64 i, .int .i64 f, .int .i64 t, .int .i64 c, .int .i64 p, .int .i64 d, .int .i64 u, .int .i64 x, .int .i64 b, .int .i64 y] 42)).alloc (.cells #[.int .i64 0, .int .i64 0, .int .i64 0, .int .i64 0, .int .i64 0, .int .i64 0, .int .i64 0, .int .i64 0, .int .i64 0, .int .i64 0, .int .i64 0, .int .i64 0, .int .i64 0, .int .i64 0] 112)) (w.heap.size + 1) #[.int .i64 te, .int .i64 tb, .int .i64 td, .int .i64 tr] 60) := by
    have := ((Blk.made (w.alloc (.cells #[.int .i64 W, v] 24)) #[.int .i64 te, .int .i64 tb, .int .i64 td, .int .i64 tr] 60).alloc (.cells #[.int .i64 i, .int .i64 f, .int .i64 t, .int .i64 c, .int .i64 p, .int .i64 d, .int .i64 u, .int .i64 x, .int .i64 b, .int .i64 y] 42)).alloc (.cells #[.int .i64 0, .int .i64 0, .int .i64 0, .int .i64 0, .int .i64 0, .int .i64 0, .int .i64 0, .int .i64 0, .int .i64 0, .int .i64 0, .int .i64 0, .int .i64 0, .int .i64 0, .int .i64 0] 112)
    unfold Hid; simpa using this
  have BF : Hid (Blk ((((w.alloc (.cells #[.int .i64 W, v] 24)).alloc (.cells #[.int .i64 te, .int .i64 tb, .int .i64 td, .int .i64 tr] 60)).alloc (.cells #[.int .i64 i, .int .i64 f, .int .i64 t, .int .i64 c, .int .i64 p, .int .i64 d, .int .i64 u, .int .i64 x, .int .i64 b, .int .i64 y] 42)).alloc (.cells #[.int .i64 0, .int .i64 0, .int .i64 0, .int .i64 0, .int .i64 0, .int .i64 0, .int .i64 0, .int .i64 0, .int .i64 0, .int .i64 0, .int .i64 0, .int .i64 0, .int .i64 0, .int .i64 0] 112)) (w.heap.size + 2) #[.int .i64 i, .int .i64 f, .int .i64 t, .int .i64 c, .int .i64 p, .int .i64 d, .int .i64 u, .int .i64 x, .int .i64 b, .int .i64 y] 42) := by
    have := (Blk.made ((w.alloc (.cells #[.int .i64 W, v] 24)).alloc (.cells #[.int .i64 te, .int .i64 tb, .int .i64 td, .int .i64 tr] 60)) #[.int .i64 i, .int .i64 f, .int .i64 t, .int .i64 c, .int .i64 p, .int .i64 d, .int .i64 u, .int .i64 x, .int .i64 b, .int .i64 y] 42).alloc (.cells #[.int .i64 0, .int .i64 0, .int .i64 0, .int .i64 0, .int .i64 0, .int .i64 0, .int .i64 0, .int .i64 0, .int .i64 0, .int .i64 0, .int .i64 0, .int .i64 0, .int .i64 0, .int .i64 0] 112)
    unfold Hid; simpa using this
  have BR : Hid (Blk ((((w.alloc (.cells #[.int .i64 W, v] 24)).alloc (.cells #[.int .i64 te, .int .i64 tb, .int .i64 td, .int .i64 tr] 60)).alloc (.cells #[.int .i64 i, .int .i64 f, .int .i64 t, .int .i64 c, .int .i64 p, .int .i64 d, .int .i64 u, .int .i64 x, .int .i64 b, .int .i64 y] 42)).alloc (.cells #[.int .i64 0, .int .i64 0, .int .i64 0, .int .i64 0, .int .i64 0, .int .i64 0, .int .i64 0, .int .i64 0, .int .i64 0, .int .i64 0, .int .i64 0, .int .i64 0, .int .i64 0, .int .i64 0] 112)) (w.heap.size + 3) #[.int .i64 0, .int .i64 0, .int .i64 0, .int .i64 0, .int .i64 0, .int .i64 0, .int .i64 0, .int .i64 0, .int .i64 0, .int .i64 0, .int .i64 0, .int .i64 0, .int .i64 0, .int .i64 0] 112) := by
    have := Blk.made (((w.alloc (.cells #[.int .i64 W, v] 24)).alloc (.cells #[.int .i64 te, .int .i64 tb, .int .i64 td, .int .i64 tr] 60)).alloc (.cells #[.int .i64 i, .int .i64 f, .int .i64 t, .int .i64 c, .int .i64 p, .int .i64 d, .int .i64 u, .int .i64 x, .int .i64 b, .int .i64 y] 42)) #[.int .i64 0, .int .i64 0, .int .i64 0, .int .i64 0, .int .i64 0, .int .i64 0, .int .i64 0, .int .i64 0, .int .i64 0, .int .i64 0, .int .i64 0, .int .i64 0, .int .i64 0, .int .i64 0] 112
    unfold Hid; simpa using this
  obtain ⟨a, cap, rfl, -⟩ := hr
  unfold calV at *
  rw [h] at CT
  rw [h1] at OX
  clear h h1 h2
  generalize openV i f t c p d u x b y = o at *
  go_enter Tryz.func74, Tryz.ntmps74
  go_wp2_with (first
    | (go_at_call 80; (with_reducible refine (CT.out _ K0.out).mono ?_); rintro z w1 ⟨rfl, k1⟩; have K1 := Lib.hid (ktr K0.out k1); have BC := Lib.hid (BC.out.kpt k1); have BT := Lib.hid (BT.out.kpt k1); have BF := Lib.hid (BF.out.kpt k1); have BR := Lib.hid (BR.out.kpt k1); clear k1)
    | (refine wp_loadF rfl (.tmp 6) rfl (w.heap.size + 2) _ rfl BF.out rfl ?_)
    | (go_at_call 34; (with_reducible refine (OX.out _).mono ?_); rintro z w2 ⟨rfl, k1⟩; have K2 := Lib.hid (ktr K1.out k1); have BC := Lib.hid (BC.out.kpt k1); have BT := Lib.hid (BT.out.kpt k1); have BF := Lib.hid (BF.out.kpt k1); have BR := Lib.hid (BR.out.kpt k1); have a0 : World.cell? w2 ⟨w.heap.size, 0, none⟩ = some (.int .i64 W) := BC.out.cell 0; have a1 : World.cell? w2 ⟨w.heap.size, 1, none⟩ = some (.slice a hs.length cap) := BC.out.cell 1; have c0 : World.cell? w2 ⟨(w.heap.size + 1), 0, none⟩ = some (.int .i64 te) := BT.out.cell 0; have c1 : World.cell? w2 ⟨(w.heap.size + 1), 1, none⟩ = some (.int .i64 tb) := BT.out.cell 1; have c2 : World.cell? w2 ⟨(w.heap.size + 1), 2, none⟩ = some (.int .i64 td) := BT.out.cell 2; have c3 : World.cell? w2 ⟨(w.heap.size + 1), 3, none⟩ = some (.int .i64 tr) := BT.out.cell 3; have fd : World.cell? w2 ⟨(w.heap.size + 2), 5, none⟩ = some (.int .i64 d) := BF.out.cell 5; clear k1)
    | (go_at_call 55; (with_reducible refine (WKD.out _).mono ?_); rintro z w3 ⟨rfl, rfl⟩)
    | (refine wp_storeV rfl (.tmp 8) (.tmp 41) rfl (w.heap.size + 3) _ _ rfl rfl BR.out rfl rfl (by simp [Value.oneCell']) ?_; intro w9 r9 k9 _; have R9 := Lib.hid r9; have K9 := Lib.hid (k9 _ _ K2.out (by omega)); clear r9 k9))
  exact bodyPost_ret (v := .tuple #[.agg #[.int .i64 0, .int .i64 0, .int .i64 0, .int .i64 0, .int .i64 0, .int .i64 0, .int .i64 0, .int .i64 0, .int .i64 0, .int .i64 0, .int .i64 0, .int .i64 0, .int .i64 0, .int .i64 0], .int .i64 3]) (results_V2 Tryz.results74 _ _ _ _ _ rfl rfl R9.out rfl) rfl ⟨rfl, K9.out⟩

set_option maxRecDepth 100000 in
set_option maxHeartbeats 4000000 in
theorem look_wl (W te tb td tr i f t c p d u x b y q : Int) (v : Value) (hs : List Int) (w : World) (hr : Reads w v hs) (hf : Fits hs) (E : Int) (h : ctE W hs te tb td tr = 0) (h1 : failE i f t c p d u x b y = 0) (h2 : dayB q = true) (h3 : wlkE W hs d te tb td = E) (h0 : E ≠ 0) :
    Calls Tryz.prog 74 #[calV W v, .agg #[.int .i64 te, .int .i64 tb, .int .i64 td, .int .i64 tr], .agg #[.int .i64 i, .int .i64 f, .int .i64 t, .int .i64 c, .int .i64 p, .int .i64 d, .int .i64 u, .int .i64 x, .int .i64 b, .int .i64 y], .int .i64 q] w fun z w' => z = .returned (.tuple #[.agg #[.int .i64 0, .int .i64 0, .int .i64 0, .int .i64 0, .int .i64 0, .int .i64 0, .int .i64 0, .int .i64 0, .int .i64 0, .int .i64 0, .int .i64 0, .int .i64 0, .int .i64 0, .int .i64 0], .int .i64 E]) ∧ Kpt w w' := by
  have WKD := Lib.hid (fun w' => wk_ok q (day_t h2).1 (day_t h2).2 w')
  have CT := Lib.hid (fun w' (k : Kpt w w') => ct_run W te tb td tr v hs w' (hr.kpt k) hf)
  have OX := Lib.hid (fun w' => fopenX_run i f t c p d u x b y w')
  have DY := Lib.hid (fun w' (k : Kpt w w') => days_run W d te tb td tr v hs w' (hr.kpt k) hf)
  have K0 : Hid (Kpt w ((((w.alloc (.cells #[.int .i64 W, v] 24)).alloc (.cells #[.int .i64 te, .int .i64 tb, .int .i64 td, .int .i64 tr] 60)).alloc (.cells #[.int .i64 i, .int .i64 f, .int .i64 t, .int .i64 c, .int .i64 p, .int .i64 d, .int .i64 u, .int .i64 x, .int .i64 b, .int .i64 y] 42)).alloc (.cells #[.int .i64 0, .int .i64 0, .int .i64 0, .int .i64 0, .int .i64 0, .int .i64 0, .int .i64 0, .int .i64 0, .int .i64 0, .int .i64 0, .int .i64 0, .int .i64 0, .int .i64 0, .int .i64 0] 112))) := ((((Kpt.refl w).alloc _).alloc _).alloc _).alloc _
  have BC : Hid (Blk ((((w.alloc (.cells #[.int .i64 W, v] 24)).alloc (.cells #[.int .i64 te, .int .i64 tb, .int .i64 td, .int .i64 tr] 60)).alloc (.cells #[.int .i64 i, .int .i64 f, .int .i64 t, .int .i64 c, .int .i64 p, .int .i64 d, .int .i64 u, .int .i64 x, .int .i64 b, .int .i64 y] 42)).alloc (.cells #[.int .i64 0, .int .i64 0, .int .i64 0, .int .i64 0, .int .i64 0, .int .i64 0, .int .i64 0, .int .i64 0, .int .i64 0, .int .i64 0, .int .i64 0, .int .i64 0, .int .i64 0, .int .i64 0] 112)) w.heap.size #[.int .i64 W, v] 24) := (((Blk.made w _ _).alloc _).alloc _).alloc _
  have BT : Hid (Blk ((((w.alloc (.cells #[.int .i64 W, v] 24)).alloc (.cells #[.int .i64 te, .int .i64 tb, .int .i64 td, .int .i64 tr] 60)).alloc (.cells #[.int .i64 i, .int .i64 f, .int .i64 t, .int .i64 c, .int .i64 p, .int .i64 d, .int .i64 u, .int .i64 x, .int .i64 b, .int .i64 y] 42)).alloc (.cells #[.int .i64 0, .int .i64 0, .int .i64 0, .int .i64 0, .int .i64 0, .int .i64 0, .int .i64 0, .int .i64 0, .int .i64 0, .int .i64 0, .int .i64 0, .int .i64 0, .int .i64 0, .int .i64 0] 112)) (w.heap.size + 1) #[.int .i64 te, .int .i64 tb, .int .i64 td, .int .i64 tr] 60) := by
    have := ((Blk.made (w.alloc (.cells #[.int .i64 W, v] 24)) #[.int .i64 te, .int .i64 tb, .int .i64 td, .int .i64 tr] 60).alloc (.cells #[.int .i64 i, .int .i64 f, .int .i64 t, .int .i64 c, .int .i64 p, .int .i64 d, .int .i64 u, .int .i64 x, .int .i64 b, .int .i64 y] 42)).alloc (.cells #[.int .i64 0, .int .i64 0, .int .i64 0, .int .i64 0, .int .i64 0, .int .i64 0, .int .i64 0, .int .i64 0, .int .i64 0, .int .i64 0, .int .i64 0, .int .i64 0, .int .i64 0, .int .i64 0] 112)
    unfold Hid; simpa using this
  have BF : Hid (Blk ((((w.alloc (.cells #[.int .i64 W, v] 24)).alloc (.cells #[.int .i64 te, .int .i64 tb, .int .i64 td, .int .i64 tr] 60)).alloc (.cells #[.int .i64 i, .int .i64 f, .int .i64 t, .int .i64 c, .int .i64 p, .int .i64 d, .int .i64 u, .int .i64 x, .int .i64 b, .int .i64 y] 42)).alloc (.cells #[.int .i64 0, .int .i64 0, .int .i64 0, .int .i64 0, .int .i64 0, .int .i64 0, .int .i64 0, .int .i64 0, .int .i64 0, .int .i64 0, .int .i64 0, .int .i64 0, .int .i64 0, .int .i64 0] 112)) (w.heap.size + 2) #[.int .i64 i, .int .i64 f, .int .i64 t, .int .i64 c, .int .i64 p, .int .i64 d, .int .i64 u, .int .i64 x, .int .i64 b, .int .i64 y] 42) := by
    have := (Blk.made ((w.alloc (.cells #[.int .i64 W, v] 24)).alloc (.cells #[.int .i64 te, .int .i64 tb, .int .i64 td, .int .i64 tr] 60)) #[.int .i64 i, .int .i64 f, .int .i64 t, .int .i64 c, .int .i64 p, .int .i64 d, .int .i64 u, .int .i64 x, .int .i64 b, .int .i64 y] 42).alloc (.cells #[.int .i64 0, .int .i64 0, .int .i64 0, .int .i64 0, .int .i64 0, .int .i64 0, .int .i64 0, .int .i64 0, .int .i64 0, .int .i64 0, .int .i64 0, .int .i64 0, .int .i64 0, .int .i64 0] 112)
    unfold Hid; simpa using this
  have BR : Hid (Blk ((((w.alloc (.cells #[.int .i64 W, v] 24)).alloc (.cells #[.int .i64 te, .int .i64 tb, .int .i64 td, .int .i64 tr] 60)).alloc (.cells #[.int .i64 i, .int .i64 f, .int .i64 t, .int .i64 c, .int .i64 p, .int .i64 d, .int .i64 u, .int .i64 x, .int .i64 b, .int .i64 y] 42)).alloc (.cells #[.int .i64 0, .int .i64 0, .int .i64 0, .int .i64 0, .int .i64 0, .int .i64 0, .int .i64 0, .int .i64 0, .int .i64 0, .int .i64 0, .int .i64 0, .int .i64 0, .int .i64 0, .int .i64 0] 112)) (w.heap.size + 3) #[.int .i64 0, .int .i64 0, .int .i64 0, .int .i64 0, .int .i64 0, .int .i64 0, .int .i64 0, .int .i64 0, .int .i64 0, .int .i64 0, .int .i64 0, .int .i64 0, .int .i64 0, .int .i64 0] 112) := by
    have := Blk.made (((w.alloc (.cells #[.int .i64 W, v] 24)).alloc (.cells #[.int .i64 te, .int .i64 tb, .int .i64 td, .int .i64 tr] 60)).alloc (.cells #[.int .i64 i, .int .i64 f, .int .i64 t, .int .i64 c, .int .i64 p, .int .i64 d, .int .i64 u, .int .i64 x, .int .i64 b, .int .i64 y] 42)) #[.int .i64 0, .int .i64 0, .int .i64 0, .int .i64 0, .int .i64 0, .int .i64 0, .int .i64 0, .int .i64 0, .int .i64 0, .int .i64 0, .int .i64 0, .int .i64 0, .int .i64 0, .int .i64 0] 112
    unfold Hid; simpa using this
  obtain ⟨a, cap, rfl, -⟩ := hr
  unfold calV at *
  rw [h] at CT
  rw [h1] at OX
  have hE : agE W hs te tb td tr d = E := by unfold agE; rw [if_pos h]; exact h3
  rw [hE] at DY
  have z0 : (E != 0) = true := bne_iff_ne.2 h0
  clear h h1 h2 h3 h0 hE
  generalize openV i f t c p d u x b y = o at *
  generalize agD W hs te tb td tr d 1 = g1 at *
  generalize agD W hs te tb td tr d 2 = g2 at *
  generalize agD W hs te tb td tr d 3 = g3 at *
  go_enter Tryz.func74, Tryz.ntmps74
  go_wp2_with (first
    | (go_at_call 80; (with_reducible refine (CT.out _ K0.out).mono ?_); rintro z w1 ⟨rfl, k1⟩; have K1 := Lib.hid (ktr K0.out k1); have BC := Lib.hid (BC.out.kpt k1); have BT := Lib.hid (BT.out.kpt k1); have BF := Lib.hid (BF.out.kpt k1); have BR := Lib.hid (BR.out.kpt k1); clear k1)
    | (refine wp_loadF rfl (.tmp 6) rfl (w.heap.size + 2) _ rfl BF.out rfl ?_)
    | (go_at_call 34; (with_reducible refine (OX.out _).mono ?_); rintro z w2 ⟨rfl, k1⟩; have K2 := Lib.hid (ktr K1.out k1); have BC := Lib.hid (BC.out.kpt k1); have BT := Lib.hid (BT.out.kpt k1); have BF := Lib.hid (BF.out.kpt k1); have BR := Lib.hid (BR.out.kpt k1); have a0 : World.cell? w2 ⟨w.heap.size, 0, none⟩ = some (.int .i64 W) := BC.out.cell 0; have a1 : World.cell? w2 ⟨w.heap.size, 1, none⟩ = some (.slice a hs.length cap) := BC.out.cell 1; have c0 : World.cell? w2 ⟨(w.heap.size + 1), 0, none⟩ = some (.int .i64 te) := BT.out.cell 0; have c1 : World.cell? w2 ⟨(w.heap.size + 1), 1, none⟩ = some (.int .i64 tb) := BT.out.cell 1; have c2 : World.cell? w2 ⟨(w.heap.size + 1), 2, none⟩ = some (.int .i64 td) := BT.out.cell 2; have c3 : World.cell? w2 ⟨(w.heap.size + 1), 3, none⟩ = some (.int .i64 tr) := BT.out.cell 3; have fd : World.cell? w2 ⟨(w.heap.size + 2), 5, none⟩ = some (.int .i64 d) := BF.out.cell 5; clear k1)
    | (go_at_call 55; (with_reducible refine (WKD.out _).mono ?_); rintro z w3 ⟨rfl, rfl⟩)
    | (go_at_call 33; (with_reducible refine (DY.out _ K2.out).mono ?_); rintro z w4 ⟨rfl, k1⟩; have K4 := Lib.hid (ktr K2.out k1); have BC := Lib.hid (BC.out.kpt k1); have BT := Lib.hid (BT.out.kpt k1); have BF := Lib.hid (BF.out.kpt k1); have BR := Lib.hid (BR.out.kpt k1); clear k1)
    | (refine wp_storeV rfl (.tmp 8) (.tmp 55) rfl (w.heap.size + 3) _ _ rfl rfl BR.out rfl rfl (by simp [Value.oneCell']) ?_; intro w9 r9 k9 _; have R9 := Lib.hid r9; have K9 := Lib.hid (k9 _ _ K4.out (by omega)); clear r9 k9))
  exact bodyPost_ret (v := .tuple #[.agg #[.int .i64 0, .int .i64 0, .int .i64 0, .int .i64 0, .int .i64 0, .int .i64 0, .int .i64 0, .int .i64 0, .int .i64 0, .int .i64 0, .int .i64 0, .int .i64 0, .int .i64 0, .int .i64 0], .int .i64 E]) (results_V2 Tryz.results74 _ _ _ _ _ rfl rfl R9.out rfl) rfl ⟨rfl, K9.out⟩

set_option maxRecDepth 100000 in
set_option maxHeartbeats 4000000 in
theorem look_ok (W te tb td tr i f t c p d u x b y q : Int) (v : Value) (hs : List Int) (w : World) (hr : Reads w v hs) (hf : Fits hs) (h : ctE W hs te tb td tr = 0) (h1 : failE i f t c p d u x b y = 0) (h2 : dayB q = true) (h3 : wlkE W hs d te tb td = 0) :
    Calls Tryz.prog 74 #[calV W v, .agg #[.int .i64 te, .int .i64 tb, .int .i64 td, .int .i64 tr], .agg #[.int .i64 i, .int .i64 f, .int .i64 t, .int .i64 c, .int .i64 p, .int .i64 d, .int .i64 u, .int .i64 x, .int .i64 b, .int .i64 y], .int .i64 q] w fun z w' => z = .returned (.tuple #[.agg #[.int .i64 i, .int .i64 f, .int .i64 t, .int .i64 c, .int .i64 p, .int .i64 d, .int .i64 u, .int .i64 x, .int .i64 b, .int .i64 y, .int .i64 (openV i f t c p d u x b y), .int .i64 (dayAt W hs d te tb td 1), .int .i64 (dayAt W hs d te tb td 2), .int .i64 (dayAt W hs d te tb td 3)], .int .i64 0]) ∧ Kpt w w' := by
  have WKD := Lib.hid (fun w' => wk_ok q (day_t h2).1 (day_t h2).2 w')
  have CT := Lib.hid (fun w' (k : Kpt w w') => ct_run W te tb td tr v hs w' (hr.kpt k) hf)
  have OX := Lib.hid (fun w' => fopenX_run i f t c p d u x b y w')
  have DY := Lib.hid (fun w' (k : Kpt w w') => days_run W d te tb td tr v hs w' (hr.kpt k) hf)
  have K0 : Hid (Kpt w ((((w.alloc (.cells #[.int .i64 W, v] 24)).alloc (.cells #[.int .i64 te, .int .i64 tb, .int .i64 td, .int .i64 tr] 60)).alloc (.cells #[.int .i64 i, .int .i64 f, .int .i64 t, .int .i64 c, .int .i64 p, .int .i64 d, .int .i64 u, .int .i64 x, .int .i64 b, .int .i64 y] 42)).alloc (.cells #[.int .i64 0, .int .i64 0, .int .i64 0, .int .i64 0, .int .i64 0, .int .i64 0, .int .i64 0, .int .i64 0, .int .i64 0, .int .i64 0, .int .i64 0, .int .i64 0, .int .i64 0, .int .i64 0] 112))) := ((((Kpt.refl w).alloc _).alloc _).alloc _).alloc _
  have BC : Hid (Blk ((((w.alloc (.cells #[.int .i64 W, v] 24)).alloc (.cells #[.int .i64 te, .int .i64 tb, .int .i64 td, .int .i64 tr] 60)).alloc (.cells #[.int .i64 i, .int .i64 f, .int .i64 t, .int .i64 c, .int .i64 p, .int .i64 d, .int .i64 u, .int .i64 x, .int .i64 b, .int .i64 y] 42)).alloc (.cells #[.int .i64 0, .int .i64 0, .int .i64 0, .int .i64 0, .int .i64 0, .int .i64 0, .int .i64 0, .int .i64 0, .int .i64 0, .int .i64 0, .int .i64 0, .int .i64 0, .int .i64 0, .int .i64 0] 112)) w.heap.size #[.int .i64 W, v] 24) := (((Blk.made w _ _).alloc _).alloc _).alloc _
  have BT : Hid (Blk ((((w.alloc (.cells #[.int .i64 W, v] 24)).alloc (.cells #[.int .i64 te, .int .i64 tb, .int .i64 td, .int .i64 tr] 60)).alloc (.cells #[.int .i64 i, .int .i64 f, .int .i64 t, .int .i64 c, .int .i64 p, .int .i64 d, .int .i64 u, .int .i64 x, .int .i64 b, .int .i64 y] 42)).alloc (.cells #[.int .i64 0, .int .i64 0, .int .i64 0, .int .i64 0, .int .i64 0, .int .i64 0, .int .i64 0, .int .i64 0, .int .i64 0, .int .i64 0, .int .i64 0, .int .i64 0, .int .i64 0, .int .i64 0] 112)) (w.heap.size + 1) #[.int .i64 te, .int .i64 tb, .int .i64 td, .int .i64 tr] 60) := by
    have := ((Blk.made (w.alloc (.cells #[.int .i64 W, v] 24)) #[.int .i64 te, .int .i64 tb, .int .i64 td, .int .i64 tr] 60).alloc (.cells #[.int .i64 i, .int .i64 f, .int .i64 t, .int .i64 c, .int .i64 p, .int .i64 d, .int .i64 u, .int .i64 x, .int .i64 b, .int .i64 y] 42)).alloc (.cells #[.int .i64 0, .int .i64 0, .int .i64 0, .int .i64 0, .int .i64 0, .int .i64 0, .int .i64 0, .int .i64 0, .int .i64 0, .int .i64 0, .int .i64 0, .int .i64 0, .int .i64 0, .int .i64 0] 112)
    unfold Hid; simpa using this
  have BF : Hid (Blk ((((w.alloc (.cells #[.int .i64 W, v] 24)).alloc (.cells #[.int .i64 te, .int .i64 tb, .int .i64 td, .int .i64 tr] 60)).alloc (.cells #[.int .i64 i, .int .i64 f, .int .i64 t, .int .i64 c, .int .i64 p, .int .i64 d, .int .i64 u, .int .i64 x, .int .i64 b, .int .i64 y] 42)).alloc (.cells #[.int .i64 0, .int .i64 0, .int .i64 0, .int .i64 0, .int .i64 0, .int .i64 0, .int .i64 0, .int .i64 0, .int .i64 0, .int .i64 0, .int .i64 0, .int .i64 0, .int .i64 0, .int .i64 0] 112)) (w.heap.size + 2) #[.int .i64 i, .int .i64 f, .int .i64 t, .int .i64 c, .int .i64 p, .int .i64 d, .int .i64 u, .int .i64 x, .int .i64 b, .int .i64 y] 42) := by
    have := (Blk.made ((w.alloc (.cells #[.int .i64 W, v] 24)).alloc (.cells #[.int .i64 te, .int .i64 tb, .int .i64 td, .int .i64 tr] 60)) #[.int .i64 i, .int .i64 f, .int .i64 t, .int .i64 c, .int .i64 p, .int .i64 d, .int .i64 u, .int .i64 x, .int .i64 b, .int .i64 y] 42).alloc (.cells #[.int .i64 0, .int .i64 0, .int .i64 0, .int .i64 0, .int .i64 0, .int .i64 0, .int .i64 0, .int .i64 0, .int .i64 0, .int .i64 0, .int .i64 0, .int .i64 0, .int .i64 0, .int .i64 0] 112)
    unfold Hid; simpa using this
  have BR : Hid (Blk ((((w.alloc (.cells #[.int .i64 W, v] 24)).alloc (.cells #[.int .i64 te, .int .i64 tb, .int .i64 td, .int .i64 tr] 60)).alloc (.cells #[.int .i64 i, .int .i64 f, .int .i64 t, .int .i64 c, .int .i64 p, .int .i64 d, .int .i64 u, .int .i64 x, .int .i64 b, .int .i64 y] 42)).alloc (.cells #[.int .i64 0, .int .i64 0, .int .i64 0, .int .i64 0, .int .i64 0, .int .i64 0, .int .i64 0, .int .i64 0, .int .i64 0, .int .i64 0, .int .i64 0, .int .i64 0, .int .i64 0, .int .i64 0] 112)) (w.heap.size + 3) #[.int .i64 0, .int .i64 0, .int .i64 0, .int .i64 0, .int .i64 0, .int .i64 0, .int .i64 0, .int .i64 0, .int .i64 0, .int .i64 0, .int .i64 0, .int .i64 0, .int .i64 0, .int .i64 0] 112) := by
    have := Blk.made (((w.alloc (.cells #[.int .i64 W, v] 24)).alloc (.cells #[.int .i64 te, .int .i64 tb, .int .i64 td, .int .i64 tr] 60)).alloc (.cells #[.int .i64 i, .int .i64 f, .int .i64 t, .int .i64 c, .int .i64 p, .int .i64 d, .int .i64 u, .int .i64 x, .int .i64 b, .int .i64 y] 42)) #[.int .i64 0, .int .i64 0, .int .i64 0, .int .i64 0, .int .i64 0, .int .i64 0, .int .i64 0, .int .i64 0, .int .i64 0, .int .i64 0, .int .i64 0, .int .i64 0, .int .i64 0, .int .i64 0] 112
    unfold Hid; simpa using this
  obtain ⟨a, cap, rfl, -⟩ := hr
  unfold calV at *
  rw [h] at CT
  rw [h1] at OX
  have hE : agE W hs te tb td tr d = 0 := by unfold agE; rw [if_pos h]; exact h3
  have hd : ∀ k, agD W hs te tb td tr d k = dayAt W hs d te tb td k := fun k => by unfold agD; rw [if_pos hE]
  rw [hE, hd 1, hd 2, hd 3] at DY
  clear h h1 h2 h3 hE hd
  generalize openV i f t c p d u x b y = o at *
  generalize dayAt W hs d te tb td 1 = g1 at *
  generalize dayAt W hs d te tb td 2 = g2 at *
  generalize dayAt W hs d te tb td 3 = g3 at *
  go_enter Tryz.func74, Tryz.ntmps74
  go_wp2_with (first
    | (go_at_call 80; (with_reducible refine (CT.out _ K0.out).mono ?_); rintro z w1 ⟨rfl, k1⟩; have K1 := Lib.hid (ktr K0.out k1); have BC := Lib.hid (BC.out.kpt k1); have BT := Lib.hid (BT.out.kpt k1); have BF := Lib.hid (BF.out.kpt k1); have BR := Lib.hid (BR.out.kpt k1); clear k1)
    | (refine wp_loadF rfl (.tmp 6) rfl (w.heap.size + 2) _ rfl BF.out rfl ?_)
    | (go_at_call 34; (with_reducible refine (OX.out _).mono ?_); rintro z w2 ⟨rfl, k1⟩; have K2 := Lib.hid (ktr K1.out k1); have BC := Lib.hid (BC.out.kpt k1); have BT := Lib.hid (BT.out.kpt k1); have BF := Lib.hid (BF.out.kpt k1); have BR := Lib.hid (BR.out.kpt k1); have a0 : World.cell? w2 ⟨w.heap.size, 0, none⟩ = some (.int .i64 W) := BC.out.cell 0; have a1 : World.cell? w2 ⟨w.heap.size, 1, none⟩ = some (.slice a hs.length cap) := BC.out.cell 1; have c0 : World.cell? w2 ⟨(w.heap.size + 1), 0, none⟩ = some (.int .i64 te) := BT.out.cell 0; have c1 : World.cell? w2 ⟨(w.heap.size + 1), 1, none⟩ = some (.int .i64 tb) := BT.out.cell 1; have c2 : World.cell? w2 ⟨(w.heap.size + 1), 2, none⟩ = some (.int .i64 td) := BT.out.cell 2; have c3 : World.cell? w2 ⟨(w.heap.size + 1), 3, none⟩ = some (.int .i64 tr) := BT.out.cell 3; have fd : World.cell? w2 ⟨(w.heap.size + 2), 5, none⟩ = some (.int .i64 d) := BF.out.cell 5; clear k1)
    | (go_at_call 55; (with_reducible refine (WKD.out _).mono ?_); rintro z w3 ⟨rfl, rfl⟩)
    | (go_at_call 33; (with_reducible refine (DY.out _ K2.out).mono ?_); rintro z w4 ⟨rfl, k1⟩; have K4 := Lib.hid (ktr K2.out k1); have BC := Lib.hid (BC.out.kpt k1); have BT := Lib.hid (BT.out.kpt k1); have BF := Lib.hid (BF.out.kpt k1); have BR := Lib.hid (BR.out.kpt k1); clear k1)
    | (refine wp_storeV rfl (.tmp 8) (.tmp 62) rfl (w.heap.size + 3) _ _ rfl rfl BR.out rfl rfl (by simp [Value.oneCell']) ?_; intro w9 r9 k9 _; have R9 := Lib.hid r9; have K9 := Lib.hid (k9 _ _ K4.out (by omega)); clear r9 k9))
  exact bodyPost_ret (v := .tuple #[.agg #[.int .i64 i, .int .i64 f, .int .i64 t, .int .i64 c, .int .i64 p, .int .i64 d, .int .i64 u, .int .i64 x, .int .i64 b, .int .i64 y, .int .i64 o, .int .i64 g1, .int .i64 g2, .int .i64 g3], .int .i64 0]) (results_V2 Tryz.results74 _ _ _ _ _ rfl rfl R9.out rfl) rfl ⟨rfl, K9.out⟩

end Go.Proofs.YthaahebggboliaaGreat

-- AgeE
namespace Go.Proofs.YthaahebggboliaaGreat
open Go.RowKit
set_option linter.unusedVariables false

/-- the stage on a day -/
def stgV (o d g1 g2 g3 q : Int) : Int := if o = 0 then 5 else if q ≤ d then 0 else if q ≤ g1 then 1 else if q ≤ g2 then 2 else if q ≤ g3 then 3 else 4
set_option maxHeartbeats 4000000 in
theorem stage_run (i f t c p d u x b y o g1 g2 g3 q : Int) (w : World) :
    Calls Tryz.prog 75 #[.agg #[.int .i64 i, .int .i64 f, .int .i64 t, .int .i64 c, .int .i64 p, .int .i64 d, .int .i64 u, .int .i64 x, .int .i64 b, .int .i64 y, .int .i64 o, .int .i64 g1, .int .i64 g2, .int .i64 g3], .int .i64 q] w fun z w' => z = .returned (.int .i64 (stgV o d g1 g2 g3 q)) ∧ Kpt w w' := by
  by_cases h0 : o = 0
  · have z0 : (o == 0) = true := beq_iff_eq.2 h0
    rw [show stgV o d g1 g2 g3 q = 5 by unfold stgV; rw [if_pos h0]]
    clear h0
    go_enter Tryz.func75, Tryz.ntmps75
    go_wp2
    go_ret
    exact ⟨rfl, (Kpt.refl w).alloc _⟩
  have z0 : (o == 0) = false := beq_eq_false_iff_ne.2 h0
  by_cases h1 : q ≤ d
  · have y1 : decide (q ≤ d) = true := decide_eq_true h1
    rw [show stgV o d g1 g2 g3 q = 0 by unfold stgV; rw [if_neg h0, if_pos h1]]
    clear h0
    go_enter Tryz.func75, Tryz.ntmps75
    go_wp2
    go_ret
    exact ⟨rfl, (Kpt.refl w).alloc _⟩
  have y1 : decide (q ≤ d) = false := decide_eq_false h1
  by_cases h2 : q ≤ g1
  · have y2 : decide (q ≤ g1) = true := decide_eq_true h2
    rw [show stgV o d g1 g2 g3 q = 1 by unfold stgV; rw [if_neg h0, if_neg h1, if_pos h2]]
    clear h0
    go_enter Tryz.func75, Tryz.ntmps75
    go_wp2
    go_ret
    exact ⟨rfl, (Kpt.refl w).alloc _⟩
  have y2 : decide (q ≤ g1) = false := decide_eq_false h2
  by_cases h3 : q ≤ g2
  · have y3 : decide (q ≤ g2) = true := decide_eq_true h3
    rw [show stgV o d g1 g2 g3 q = 2 by unfold stgV; rw [if_neg h0, if_neg h1, if_neg h2, if_pos h3]]
    clear h0
    go_enter Tryz.func75, Tryz.ntmps75
    go_wp2
    go_ret
    exact ⟨rfl, (Kpt.refl w).alloc _⟩
  have y3 : decide (q ≤ g2) = false := decide_eq_false h3
  by_cases h4 : q ≤ g3
  · have y4 : decide (q ≤ g3) = true := decide_eq_true h4
    rw [show stgV o d g1 g2 g3 q = 3 by unfold stgV; rw [if_neg h0, if_neg h1, if_neg h2, if_neg h3, if_pos h4]]
    clear h0
    go_enter Tryz.func75, Tryz.ntmps75
    go_wp2
    go_ret
    exact ⟨rfl, (Kpt.refl w).alloc _⟩
  have y4 : decide (q ≤ g3) = false := decide_eq_false h4
  rw [show stgV o d g1 g2 g3 q = 4 by unfold stgV; rw [if_neg h0, if_neg h1, if_neg h2, if_neg h3, if_neg h4]]
  clear h0
  go_enter Tryz.func75, Tryz.ntmps75
  go_wp2
  go_ret
  exact ⟨rfl, (Kpt.refl w).alloc _⟩

theorem look_run (W te tb td tr i f t c p d u x b y q : Int) (v : Value) (hs : List Int) (w : World) (hr : Reads w v hs) (hf : Fits hs) :
    (lkE W hs te tb td tr i f t c p d u x b y q ≠ 0 → Calls Tryz.prog 74 #[calV W v, .agg #[.int .i64 te, .int .i64 tb, .int .i64 td, .int .i64 tr], .agg #[.int .i64 i, .int .i64 f, .int .i64 t, .int .i64 c, .int .i64 p, .int .i64 d, .int .i64 u, .int .i64 x, .int .i64 b, .int .i64 y], .int .i64 q] w fun z w' => z = .returned (.tuple #[.agg #[.int .i64 0, .int .i64 0, .int .i64 0, .int .i64 0, .int .i64 0, .int .i64 0, .int .i64 0, .int .i64 0, .int .i64 0, .int .i64 0, .int .i64 0, .int .i64 0, .int .i64 0, .int .i64 0], .int .i64 (lkE W hs te tb td tr i f t c p d u x b y q)]) ∧ Kpt w w') ∧
    (lkE W hs te tb td tr i f t c p d u x b y q = 0 → Calls Tryz.prog 74 #[calV W v, .agg #[.int .i64 te, .int .i64 tb, .int .i64 td, .int .i64 tr], .agg #[.int .i64 i, .int .i64 f, .int .i64 t, .int .i64 c, .int .i64 p, .int .i64 d, .int .i64 u, .int .i64 x, .int .i64 b, .int .i64 y], .int .i64 q] w fun z w' => z = .returned (.tuple #[.agg #[.int .i64 i, .int .i64 f, .int .i64 t, .int .i64 c, .int .i64 p, .int .i64 d, .int .i64 u, .int .i64 x, .int .i64 b, .int .i64 y, .int .i64 (openV i f t c p d u x b y), .int .i64 (dayAt W hs d te tb td 1), .int .i64 (dayAt W hs d te tb td 2), .int .i64 (dayAt W hs d te tb td 3)], .int .i64 0]) ∧ Kpt w w') := by
  constructor
  · intro h
    by_cases h1 : ctE W hs te tb td tr = 0
    · by_cases h2 : failE i f t c p d u x b y = 0
      · by_cases h3 : dayB q = true
        · have e : lkE W hs te tb td tr i f t c p d u x b y q = wlkE W hs d te tb td := by unfold lkE; rw [if_pos h1, if_pos h2, if_pos h3]
          rw [e] at h ⊢
          exact look_wl W te tb td tr i f t c p d u x b y q v hs w hr hf _ h1 h2 h3 rfl h
        · have e : lkE W hs te tb td tr i f t c p d u x b y q = 3 := by unfold lkE; rw [if_pos h1, if_pos h2, if_neg h3]
          rw [e]
          exact look_day W te tb td tr i f t c p d u x b y q v hs w hr hf h1 h2 (by simpa using h3)
      · have e : lkE W hs te tb td tr i f t c p d u x b y q = failE i f t c p d u x b y := by unfold lkE; rw [if_pos h1, if_neg h2]
        rw [e]
        exact look_fl W te tb td tr i f t c p d u x b y q v hs w hr hf _ h1 rfl h2
    · have e : lkE W hs te tb td tr i f t c p d u x b y q = ctE W hs te tb td tr := by unfold lkE; rw [if_neg h1]
      rw [e]
      exact look_ct W te tb td tr i f t c p d u x b y q v hs w hr hf _ rfl h1
  · intro h
    obtain ⟨h1, h2, h3, h4⟩ := lk_0 h
    exact look_ok W te tb td tr i f t c p d u x b y q v hs w hr hf h1 h2 h3 h4

set_option maxRecDepth 100000 in
set_option maxHeartbeats 4000000 in
theorem stg_bad (W te tb td tr i f t c p d u x b y q : Int) (v : Value) (hs : List Int) (w : World) (hr : Reads w v hs) (hf : Fits hs) (E : Int) (h : lkE W hs te tb td tr i f t c p d u x b y q = E) (h0 : E ≠ 0) :
    Calls Tryz.prog 31 #[calV W v, .agg #[.int .i64 te, .int .i64 tb, .int .i64 td, .int .i64 tr], .agg #[.int .i64 i, .int .i64 f, .int .i64 t, .int .i64 c, .int .i64 p, .int .i64 d, .int .i64 u, .int .i64 x, .int .i64 b, .int .i64 y], .int .i64 q] w fun z w' => z = .returned (.tuple #[.int .i64 0, .int .i64 E]) ∧ Kpt w w' := by
  have LK := Lib.hid (fun w' (k : Kpt w w') => (look_run W te tb td tr i f t c p d u x b y q v hs w' (hr.kpt k) hf).1 (by rw [h]; exact h0))
  rw [h] at LK
  have z0 : (E != 0) = true := bne_iff_ne.2 h0
  have K0 : Hid (Kpt w (((w.alloc (.cells #[.int .i64 W, v] 24)).alloc (.cells #[.int .i64 te, .int .i64 tb, .int .i64 td, .int .i64 tr] 60)).alloc (.cells #[.int .i64 i, .int .i64 f, .int .i64 t, .int .i64 c, .int .i64 p, .int .i64 d, .int .i64 u, .int .i64 x, .int .i64 b, .int .i64 y] 42))) := (((Kpt.refl w).alloc _).alloc _).alloc _
  have BC : Hid (Blk (((w.alloc (.cells #[.int .i64 W, v] 24)).alloc (.cells #[.int .i64 te, .int .i64 tb, .int .i64 td, .int .i64 tr] 60)).alloc (.cells #[.int .i64 i, .int .i64 f, .int .i64 t, .int .i64 c, .int .i64 p, .int .i64 d, .int .i64 u, .int .i64 x, .int .i64 b, .int .i64 y] 42)) w.heap.size #[.int .i64 W, v] 24) := ((Blk.made w _ _).alloc _).alloc _
  obtain ⟨a, cap, rfl, -⟩ := hr
  unfold calV at *
  clear h h0
  go_enter Tryz.func31, Tryz.ntmps31
  go_wp2_with (first
    | (go_at_call 74; (with_reducible refine (LK.out _ K0.out).mono ?_); rintro z w1 ⟨rfl, k1⟩; have K1 := Lib.hid (ktr K0.out k1); have BC := Lib.hid (BC.out.kpt k1); clear k1)
    | (refine wp_storeV rfl (.tmp 10) (.tmp 18) rfl w1.heap.size _ _ rfl rfl (Blk.made w1 #[.int .i64 0, .int .i64 0, .int .i64 0, .int .i64 0, .int .i64 0, .int .i64 0, .int .i64 0, .int .i64 0, .int .i64 0, .int .i64 0, .int .i64 0, .int .i64 0, .int .i64 0, .int .i64 0] 112) rfl rfl (by simp [Value.oneCell']) ?_; intro w9 r9 k9 o9; have R9 := Lib.hid r9; have K9 : Hid (Kpt w w9) := k9 _ _ (K1.out.alloc _) K1.out.size; have BC9 : Hid (Blk w9 w.heap.size #[.int .i64 W, .slice a hs.length cap] 24) := Blk.block (BC.out.alloc _) (o9 _ (by have := BC.out.lt; omega)); have a0 : World.cell? w9 ⟨w.heap.size, 0, none⟩ = some (.int .i64 W) := BC9.out.cell 0; have a1 : World.cell? w9 ⟨w.heap.size, 1, none⟩ = some (.slice a hs.length cap) := BC9.out.cell 1; have g13 : World.cell? w9 ⟨w1.heap.size, 13, none⟩ = some (.int .i64 0) := R9.out.cell 13; clear r9 k9 o9))
  go_ret2
  exact ⟨rfl, K9.out⟩

set_option maxRecDepth 100000 in
set_option maxHeartbeats 4000000 in
theorem stg_ok (W te tb td tr i f t c p d u x b y q : Int) (v : Value) (hs : List Int) (w : World) (hr : Reads w v hs) (hf : Fits hs) (h : lkE W hs te tb td tr i f t c p d u x b y q = 0) :
    Calls Tryz.prog 31 #[calV W v, .agg #[.int .i64 te, .int .i64 tb, .int .i64 td, .int .i64 tr], .agg #[.int .i64 i, .int .i64 f, .int .i64 t, .int .i64 c, .int .i64 p, .int .i64 d, .int .i64 u, .int .i64 x, .int .i64 b, .int .i64 y], .int .i64 q] w fun z w' => z = .returned (.tuple #[.int .i64 (stgV (openV i f t c p d u x b y) d (dayAt W hs d te tb td 1) (dayAt W hs d te tb td 2) (dayAt W hs d te tb td 3) q), .int .i64 0]) ∧ Kpt w w' := by
  have LK := Lib.hid (fun w' (k : Kpt w w') => (look_run W te tb td tr i f t c p d u x b y q v hs w' (hr.kpt k) hf).2 h)
  have K0 : Hid (Kpt w (((w.alloc (.cells #[.int .i64 W, v] 24)).alloc (.cells #[.int .i64 te, .int .i64 tb, .int .i64 td, .int .i64 tr] 60)).alloc (.cells #[.int .i64 i, .int .i64 f, .int .i64 t, .int .i64 c, .int .i64 p, .int .i64 d, .int .i64 u, .int .i64 x, .int .i64 b, .int .i64 y] 42))) := (((Kpt.refl w).alloc _).alloc _).alloc _
  have BC : Hid (Blk (((w.alloc (.cells #[.int .i64 W, v] 24)).alloc (.cells #[.int .i64 te, .int .i64 tb, .int .i64 td, .int .i64 tr] 60)).alloc (.cells #[.int .i64 i, .int .i64 f, .int .i64 t, .int .i64 c, .int .i64 p, .int .i64 d, .int .i64 u, .int .i64 x, .int .i64 b, .int .i64 y] 42)) w.heap.size #[.int .i64 W, v] 24) := ((Blk.made w _ _).alloc _).alloc _
  obtain ⟨a, cap, rfl, -⟩ := hr
  unfold calV at *
  clear h
  generalize openV i f t c p d u x b y = o at *
  generalize dayAt W hs d te tb td 1 = g1 at *
  generalize dayAt W hs d te tb td 2 = g2 at *
  generalize dayAt W hs d te tb td 3 = g3 at *
  have SR := Lib.hid (fun w' => stage_run i f t c p d u x b y o g1 g2 g3 q w')
  generalize stgV o d g1 g2 g3 q = s at *
  go_enter Tryz.func31, Tryz.ntmps31
  go_wp2_with (first
    | (go_at_call 74; (with_reducible refine (LK.out _ K0.out).mono ?_); rintro z w1 ⟨rfl, k1⟩; have K1 := Lib.hid (ktr K0.out k1); have BC := Lib.hid (BC.out.kpt k1); clear k1)
    | (refine wp_storeV rfl (.tmp 10) (.tmp 18) rfl w1.heap.size _ _ rfl rfl (Blk.made w1 #[.int .i64 0, .int .i64 0, .int .i64 0, .int .i64 0, .int .i64 0, .int .i64 0, .int .i64 0, .int .i64 0, .int .i64 0, .int .i64 0, .int .i64 0, .int .i64 0, .int .i64 0, .int .i64 0] 112) rfl rfl (by simp [Value.oneCell']) ?_; intro w9 r9 k9 o9; have R9 := Lib.hid r9; have K9 : Hid (Kpt w w9) := k9 _ _ (K1.out.alloc _) K1.out.size; have BC9 : Hid (Blk w9 w.heap.size #[.int .i64 W, .slice a hs.length cap] 24) := Blk.block (BC.out.alloc _) (o9 _ (by have := BC.out.lt; omega)); have a0 : World.cell? w9 ⟨w.heap.size, 0, none⟩ = some (.int .i64 W) := BC9.out.cell 0; have a1 : World.cell? w9 ⟨w.heap.size, 1, none⟩ = some (.slice a hs.length cap) := BC9.out.cell 1; have g13 : World.cell? w9 ⟨w1.heap.size, 13, none⟩ = some (.int .i64 g3) := R9.out.cell 13; clear r9 k9 o9)
    | (refine wp_loadV rfl (.tmp 10) rfl w1.heap.size _ rfl R9.out rfl ?_)
    | (go_at_call 75; (with_reducible refine (SR.out _).mono ?_); rintro z w5 ⟨rfl, k1⟩; have K5 := Lib.hid (ktr K9.out k1); clear k1))
  go_ret2
  exact ⟨rfl, K5.out⟩

set_option maxRecDepth 100000 in
set_option maxHeartbeats 4000000 in
theorem lft_bad (W te tb td tr i f t c p d u x b y q : Int) (v : Value) (hs : List Int) (w : World) (hr : Reads w v hs) (hf : Fits hs) (E : Int) (h : lkE W hs te tb td tr i f t c p d u x b y q = E) (h0 : E ≠ 0) :
    Calls Tryz.prog 71 #[calV W v, .agg #[.int .i64 te, .int .i64 tb, .int .i64 td, .int .i64 tr], .agg #[.int .i64 i, .int .i64 f, .int .i64 t, .int .i64 c, .int .i64 p, .int .i64 d, .int .i64 u, .int .i64 x, .int .i64 b, .int .i64 y], .int .i64 q] w fun z w' => z = .returned (.tuple #[.int .i64 0, .int .i64 E]) ∧ Kpt w w' := by
  have LK := Lib.hid (fun w' (k : Kpt w w') => (look_run W te tb td tr i f t c p d u x b y q v hs w' (hr.kpt k) hf).1 (by rw [h]; exact h0))
  rw [h] at LK
  have z0 : (E != 0) = true := bne_iff_ne.2 h0
  have K0 : Hid (Kpt w (((w.alloc (.cells #[.int .i64 W, v] 24)).alloc (.cells #[.int .i64 te, .int .i64 tb, .int .i64 td, .int .i64 tr] 60)).alloc (.cells #[.int .i64 i, .int .i64 f, .int .i64 t, .int .i64 c, .int .i64 p, .int .i64 d, .int .i64 u, .int .i64 x, .int .i64 b, .int .i64 y] 42))) := (((Kpt.refl w).alloc _).alloc _).alloc _
  have BC : Hid (Blk (((w.alloc (.cells #[.int .i64 W, v] 24)).alloc (.cells #[.int .i64 te, .int .i64 tb, .int .i64 td, .int .i64 tr] 60)).alloc (.cells #[.int .i64 i, .int .i64 f, .int .i64 t, .int .i64 c, .int .i64 p, .int .i64 d, .int .i64 u, .int .i64 x, .int .i64 b, .int .i64 y] 42)) w.heap.size #[.int .i64 W, v] 24) := ((Blk.made w _ _).alloc _).alloc _
  obtain ⟨a, cap, rfl, -⟩ := hr
  unfold calV at *
  clear h h0
  go_enter Tryz.func71, Tryz.ntmps71
  go_wp2_with (first
    | (go_at_call 74; (with_reducible refine (LK.out _ K0.out).mono ?_); rintro z w1 ⟨rfl, k1⟩; have K1 := Lib.hid (ktr K0.out k1); have BC := Lib.hid (BC.out.kpt k1); clear k1)
    | (refine wp_storeV rfl (.tmp 10) (.tmp 18) rfl w1.heap.size _ _ rfl rfl (Blk.made w1 #[.int .i64 0, .int .i64 0, .int .i64 0, .int .i64 0, .int .i64 0, .int .i64 0, .int .i64 0, .int .i64 0, .int .i64 0, .int .i64 0, .int .i64 0, .int .i64 0, .int .i64 0, .int .i64 0] 112) rfl rfl (by simp [Value.oneCell']) ?_; intro w9 r9 k9 o9; have R9 := Lib.hid r9; have K9 : Hid (Kpt w w9) := k9 _ _ (K1.out.alloc _) K1.out.size; have BC9 : Hid (Blk w9 w.heap.size #[.int .i64 W, .slice a hs.length cap] 24) := Blk.block (BC.out.alloc _) (o9 _ (by have := BC.out.lt; omega)); have a0 : World.cell? w9 ⟨w.heap.size, 0, none⟩ = some (.int .i64 W) := BC9.out.cell 0; have a1 : World.cell? w9 ⟨w.heap.size, 1, none⟩ = some (.slice a hs.length cap) := BC9.out.cell 1; have g13 : World.cell? w9 ⟨w1.heap.size, 13, none⟩ = some (.int .i64 0) := R9.out.cell 13; clear r9 k9 o9))
  go_ret2
  exact ⟨rfl, K9.out⟩

set_option maxRecDepth 100000 in
set_option maxHeartbeats 4000000 in
theorem lft_past (W te tb td tr i f t c p d u x b y q : Int) (v : Value) (hs : List Int) (w : World) (hr : Reads w v hs) (hf : Fits hs) (h : lkE W hs te tb td tr i f t c p d u x b y q = 0) (hp : dayAt W hs d te tb td 3 < q) :
    Calls Tryz.prog 71 #[calV W v, .agg #[.int .i64 te, .int .i64 tb, .int .i64 td, .int .i64 tr], .agg #[.int .i64 i, .int .i64 f, .int .i64 t, .int .i64 c, .int .i64 p, .int .i64 d, .int .i64 u, .int .i64 x, .int .i64 b, .int .i64 y], .int .i64 q] w fun z w' => z = .returned (.tuple #[.int .i64 0, .int .i64 0]) ∧ Kpt w w' := by
  have LK := Lib.hid (fun w' (k : Kpt w w') => (look_run W te tb td tr i f t c p d u x b y q v hs w' (hr.kpt k) hf).2 h)
  have K0 : Hid (Kpt w (((w.alloc (.cells #[.int .i64 W, v] 24)).alloc (.cells #[.int .i64 te, .int .i64 tb, .int .i64 td, .int .i64 tr] 60)).alloc (.cells #[.int .i64 i, .int .i64 f, .int .i64 t, .int .i64 c, .int .i64 p, .int .i64 d, .int .i64 u, .int .i64 x, .int .i64 b, .int .i64 y] 42))) := (((Kpt.refl w).alloc _).alloc _).alloc _
  have BC : Hid (Blk (((w.alloc (.cells #[.int .i64 W, v] 24)).alloc (.cells #[.int .i64 te, .int .i64 tb, .int .i64 td, .int .i64 tr] 60)).alloc (.cells #[.int .i64 i, .int .i64 f, .int .i64 t, .int .i64 c, .int .i64 p, .int .i64 d, .int .i64 u, .int .i64 x, .int .i64 b, .int .i64 y] 42)) w.heap.size #[.int .i64 W, v] 24) := ((Blk.made w _ _).alloc _).alloc _
  obtain ⟨a, cap, rfl, -⟩ := hr
  unfold calV at *
  clear h
  generalize openV i f t c p d u x b y = o at *
  generalize dayAt W hs d te tb td 1 = g1 at *
  generalize dayAt W hs d te tb td 2 = g2 at *
  generalize dayAt W hs d te tb td 3 = g3 at *
  have y0 : decide (g3 < q) = true := decide_eq_true hp
  go_enter Tryz.func71, Tryz.ntmps71
  go_wp2_with (first
    | (go_at_call 74; (with_reducible refine (LK.out _ K0.out).mono ?_); rintro z w1 ⟨rfl, k1⟩; have K1 := Lib.hid (ktr K0.out k1); have BC := Lib.hid (BC.out.kpt k1); clear k1)
    | (refine wp_storeV rfl (.tmp 10) (.tmp 18) rfl w1.heap.size _ _ rfl rfl (Blk.made w1 #[.int .i64 0, .int .i64 0, .int .i64 0, .int .i64 0, .int .i64 0, .int .i64 0, .int .i64 0, .int .i64 0, .int .i64 0, .int .i64 0, .int .i64 0, .int .i64 0, .int .i64 0, .int .i64 0] 112) rfl rfl (by simp [Value.oneCell']) ?_; intro w9 r9 k9 o9; have R9 := Lib.hid r9; have K9 : Hid (Kpt w w9) := k9 _ _ (K1.out.alloc _) K1.out.size; have BC9 : Hid (Blk w9 w.heap.size #[.int .i64 W, .slice a hs.length cap] 24) := Blk.block (BC.out.alloc _) (o9 _ (by have := BC.out.lt; omega)); have a0 : World.cell? w9 ⟨w.heap.size, 0, none⟩ = some (.int .i64 W) := BC9.out.cell 0; have a1 : World.cell? w9 ⟨w.heap.size, 1, none⟩ = some (.slice a hs.length cap) := BC9.out.cell 1; have g13 : World.cell? w9 ⟨w1.heap.size, 13, none⟩ = some (.int .i64 g3) := R9.out.cell 13; clear r9 k9 o9))
  go_ret2
  exact ⟨rfl, K9.out⟩

set_option maxRecDepth 100000 in
set_option maxHeartbeats 4000000 in
theorem lft_ok (W te tb td tr i f t c p d u x b y q : Int) (v : Value) (hs : List Int) (w : World) (hr : Reads w v hs) (hf : Fits hs) (h : lkE W hs te tb td tr i f t c p d u x b y q = 0) (hp : ¬ dayAt W hs d te tb td 3 < q) :
    Calls Tryz.prog 71 #[calV W v, .agg #[.int .i64 te, .int .i64 tb, .int .i64 td, .int .i64 tr], .agg #[.int .i64 i, .int .i64 f, .int .i64 t, .int .i64 c, .int .i64 p, .int .i64 d, .int .i64 u, .int .i64 x, .int .i64 b, .int .i64 y], .int .i64 q] w fun z w' => z = .returned (.tuple #[.int .i64 (couR W hs q (dayAt W hs d te tb td 3)), .int .i64 (couE W hs q (dayAt W hs d te tb td 3))]) ∧ Kpt w w' := by
  have LK := Lib.hid (fun w' (k : Kpt w w') => (look_run W te tb td tr i f t c p d u x b y q v hs w' (hr.kpt k) hf).2 h)
  have CO := Lib.hid (fun w' (k : Kpt w w') => count_any W q (dayAt W hs d te tb td 3) v hs w' (hr.kpt k) hf)
  have K0 : Hid (Kpt w (((w.alloc (.cells #[.int .i64 W, v] 24)).alloc (.cells #[.int .i64 te, .int .i64 tb, .int .i64 td, .int .i64 tr] 60)).alloc (.cells #[.int .i64 i, .int .i64 f, .int .i64 t, .int .i64 c, .int .i64 p, .int .i64 d, .int .i64 u, .int .i64 x, .int .i64 b, .int .i64 y] 42))) := (((Kpt.refl w).alloc _).alloc _).alloc _
  have BC : Hid (Blk (((w.alloc (.cells #[.int .i64 W, v] 24)).alloc (.cells #[.int .i64 te, .int .i64 tb, .int .i64 td, .int .i64 tr] 60)).alloc (.cells #[.int .i64 i, .int .i64 f, .int .i64 t, .int .i64 c, .int .i64 p, .int .i64 d, .int .i64 u, .int .i64 x, .int .i64 b, .int .i64 y] 42)) w.heap.size #[.int .i64 W, v] 24) := ((Blk.made w _ _).alloc _).alloc _
  obtain ⟨a, cap, rfl, -⟩ := hr
  unfold calV at *
  clear h
  generalize openV i f t c p d u x b y = o at *
  generalize dayAt W hs d te tb td 1 = g1 at *
  generalize dayAt W hs d te tb td 2 = g2 at *
  generalize dayAt W hs d te tb td 3 = g3 at *
  have y0 : decide (g3 < q) = false := decide_eq_false hp
  generalize couR W hs q g3 = cr at *
  generalize couE W hs q g3 = ce at *
  go_enter Tryz.func71, Tryz.ntmps71
  go_wp2_with (first
    | (go_at_call 74; (with_reducible refine (LK.out _ K0.out).mono ?_); rintro z w1 ⟨rfl, k1⟩; have K1 := Lib.hid (ktr K0.out k1); have BC := Lib.hid (BC.out.kpt k1); clear k1)
    | (refine wp_storeV rfl (.tmp 10) (.tmp 18) rfl w1.heap.size _ _ rfl rfl (Blk.made w1 #[.int .i64 0, .int .i64 0, .int .i64 0, .int .i64 0, .int .i64 0, .int .i64 0, .int .i64 0, .int .i64 0, .int .i64 0, .int .i64 0, .int .i64 0, .int .i64 0, .int .i64 0, .int .i64 0] 112) rfl rfl (by simp [Value.oneCell']) ?_; intro w9 r9 k9 o9; have R9 := Lib.hid r9; have K9 : Hid (Kpt w w9) := k9 _ _ (K1.out.alloc _) K1.out.size; have BC9 : Hid (Blk w9 w.heap.size #[.int .i64 W, .slice a hs.length cap] 24) := Blk.block (BC.out.alloc _) (o9 _ (by have := BC.out.lt; omega)); have a0 : World.cell? w9 ⟨w.heap.size, 0, none⟩ = some (.int .i64 W) := BC9.out.cell 0; have a1 : World.cell? w9 ⟨w.heap.size, 1, none⟩ = some (.slice a hs.length cap) := BC9.out.cell 1; have g13 : World.cell? w9 ⟨w1.heap.size, 13, none⟩ = some (.int .i64 g3) := R9.out.cell 13; clear r9 k9 o9)
    | (go_at_call 118; (with_reducible refine (CO.out _ K9.out).mono ?_); rintro z w5 ⟨rfl, k1⟩; have K5 := Lib.hid (ktr K9.out k1); clear k1))
  go_ret2
  exact ⟨rfl, K5.out⟩

end Go.Proofs.YthaahebggboliaaGreat

-- AgeF
namespace Go.Proofs.YthaahebggboliaaGreat
open Go.RowKit
set_option linter.unusedVariables false

theorem someT_run (w : World) : Calls Tryz.prog 70 #[] w fun e w' => e = .returned (.agg #[.int .i64 4, .int .i64 7, .int .i64 2, .int .i64 100]) ∧ Kpt w w' := by
  go_enter Tryz.func70, Tryz.ntmps70
  go_wp2
  exact bodyPost_ret (v := .agg #[.int .i64 4, .int .i64 7, .int .i64 2, .int .i64 100]) (by simp [results, Tryz.results70, go_sem]) rfl ⟨rfl, by repeat (first | exact Kpt.refl _ | refine Kpt.alloc ?_ _ | refine Kpt.setCell ?_ (by simp) _)⟩
theorem someF_run (w : World) : Calls Tryz.prog 47 #[] w fun e w' => e = .returned (.agg #[.int .i64 7, .int .i64 1, .int .i64 2, .int .i64 0, .int .i64 3, .int .i64 739935, .int .i64 100, .int .i64 0, .int .i64 0, .int .i64 0]) ∧ Kpt w w' := by
  have R1 := Lib.hid (Blk.made w #[.int .i64 0, .int .i64 0, .int .i64 0, .int .i64 0, .int .i64 0, .int .i64 0, .int .i64 0, .int .i64 0, .int .i64 0, .int .i64 0] 42)
  have K1 : Hid (Kpt w (w.alloc (.cells #[.int .i64 0, .int .i64 0, .int .i64 0, .int .i64 0, .int .i64 0, .int .i64 0, .int .i64 0, .int .i64 0, .int .i64 0, .int .i64 0] 42))) := (Kpt.refl w).alloc _
  go_enter Tryz.func47, Tryz.ntmps47
  go_wp2_with (refine wp_storeF rfl (.tmp 0) (.tmp 1) rfl w.heap.size _ _ rfl rfl R1.out rfl rfl (by simp [Value.oneCell']) ?_; intro w9 r9 k9 _; have R9 := Lib.hid r9; have K9 : Hid (Kpt w w9) := k9 _ _ K1.out (Nat.le_refl _); clear r9 k9)
  exact bodyPost_ret (v := .agg #[.int .i64 7, .int .i64 1, .int .i64 2, .int .i64 0, .int .i64 3, .int .i64 739935, .int .i64 100, .int .i64 0, .int .i64 0, .int .i64 0]) (results_cell_row Tryz.results47 _ _ w.heap.size _ _ _ _ rfl R9.out Tryz.underlying42 rfl Tryz.sizeFail) rfl ⟨rfl, K9.out⟩

theorem ab_cal : calE 96 wkH = 0 := by decide +kernel
theorem ab_ct : ctE 96 wkH 4 7 2 100 = 0 := by unfold ctE; rw [if_pos ab_cal]; decide
theorem ab_s1 : steR 96 wkH 739935 4 = 739942 ∧ steE 96 wkH 739935 4 = 0 := ste_up ab_cal (by decide) (by decide) (by decide) (by decide) (by decide) (by decide +kernel) (by decide +kernel)
theorem ab_s2 : steR 96 wkH 739942 7 = 739951 ∧ steE 96 wkH 739942 7 = 0 := ste_up ab_cal (by decide) (by decide) (by decide) (by decide) (by decide) (by decide +kernel) (by decide +kernel)
theorem ab_s3 : steR 96 wkH 739951 2 = 739953 ∧ steE 96 wkH 739951 2 = 0 := ste_up ab_cal (by decide) (by decide) (by decide) (by decide) (by decide) (by decide +kernel) (by decide +kernel)
theorem ab_d1 : dayAt 96 wkH 739935 4 7 2 1 = 739942 := ab_s1.1
theorem ab_d2 : dayAt 96 wkH 739935 4 7 2 2 = 739951 := by
  show steR 96 wkH (dayAt 96 wkH 739935 4 7 2 1) 7 = 739951
  rw [ab_d1]; exact ab_s2.1
theorem ab_d3 : dayAt 96 wkH 739935 4 7 2 3 = 739953 := by
  show steR 96 wkH (dayAt 96 wkH 739935 4 7 2 2) 2 = 739953
  rw [ab_d2]; exact ab_s3.1
theorem ab_w : wlkE 96 wkH 739935 4 7 2 = 0 := by
  refine wlk_no fun j hj => ?_
  rcases (show j = 0 ∨ j = 1 ∨ j = 2 by omega) with rfl | rfl | rfl
  · exact ab_s1.2
  · show steE 96 wkH (dayAt 96 wkH 739935 4 7 2 1) 7 = 0
    rw [ab_d1]; exact ab_s2.2
  · show steE 96 wkH (dayAt 96 wkH 739935 4 7 2 2) 2 = 0
    rw [ab_d2]; exact ab_s3.2
theorem ab_lk (q : Int) (h : dayB q = true) : lkE 96 wkH 4 7 2 100 7 1 2 0 3 739935 100 0 0 0 q = 0 := by
  unfold lkE
  rw [if_pos ab_ct, if_pos (by decide), if_pos h]; exact ab_w
theorem ab_1 (v : Value) (w : World) (hr : Reads w v wkH) : Calls Tryz.prog 33 #[calV 96 v, .agg #[.int .i64 4, .int .i64 7, .int .i64 2, .int .i64 100], .int .i64 739935] w fun z w' => z = .returned (.tuple #[.int .i64 739942, .int .i64 739951, .int .i64 739953, .int .i64 0]) ∧ Kpt w w' := by
  have := days_run 96 739935 4 7 2 100 v wkH w hr wk_fits
  have hE : agE 96 wkH 4 7 2 100 739935 = 0 := by unfold agE; rw [if_pos ab_ct]; exact ab_w
  unfold agD at this
  rwa [hE, if_pos rfl, if_pos rfl, if_pos rfl, ab_d1, ab_d2, ab_d3] at this
theorem ab_st (q s : Int) (hq : dayB q = true) (hs : stgV 100 739935 739942 739951 739953 q = s) (v : Value) (w : World) (hr : Reads w v wkH) : Calls Tryz.prog 31 #[calV 96 v, .agg #[.int .i64 4, .int .i64 7, .int .i64 2, .int .i64 100], .agg #[.int .i64 7, .int .i64 1, .int .i64 2, .int .i64 0, .int .i64 3, .int .i64 739935, .int .i64 100, .int .i64 0, .int .i64 0, .int .i64 0], .int .i64 q] w fun z w' => z = .returned (.tuple #[.int .i64 s, .int .i64 0]) ∧ Kpt w w' := by
  have := stg_ok 96 4 7 2 100 7 1 2 0 3 739935 100 0 0 0 q v wkH w hr wk_fits (ab_lk q hq)
  rwa [ab_d1, ab_d2, ab_d3, show openV 7 1 2 0 3 739935 100 0 0 0 = 100 by decide, hs] at this
theorem ab_4 (v : Value) (w : World) (hr : Reads w v wkH) : Calls Tryz.prog 71 #[calV 96 v, .agg #[.int .i64 4, .int .i64 7, .int .i64 2, .int .i64 100], .agg #[.int .i64 7, .int .i64 1, .int .i64 2, .int .i64 0, .int .i64 3, .int .i64 739935, .int .i64 100, .int .i64 0, .int .i64 0, .int .i64 0], .int .i64 739953] w fun z w' => z = .returned (.tuple #[.int .i64 0, .int .i64 0]) ∧ Kpt w w' := by
  have := lft_ok 96 4 7 2 100 7 1 2 0 3 739935 100 0 0 0 739953 v wkH w hr wk_fits (ab_lk _ (by decide)) (by rw [ab_d3]; decide)
  have hc := cou_ok (f := 739953) (t := 739953) ab_cal (by decide) (by decide) (by decide)
  rwa [ab_d3, hc.1, hc.2, cnt_self] at this
theorem ab_5 (v : Value) (w : World) (hr : Reads w v wkH) : Calls Tryz.prog 31 #[calV 96 v, .agg #[.int .i64 0, .int .i64 101, .int .i64 0, .int .i64 0], .agg #[.int .i64 7, .int .i64 1, .int .i64 2, .int .i64 0, .int .i64 3, .int .i64 739935, .int .i64 100, .int .i64 0, .int .i64 0, .int .i64 0], .int .i64 1] w fun z w' => z = .returned (.tuple #[.int .i64 0, .int .i64 3]) ∧ Kpt w w' := by
  refine stg_bad 96 0 101 0 0 7 1 2 0 3 739935 100 0 0 0 1 v wkH w hr wk_fits 3 ?_ (by decide)
  unfold lkE
  have : ctE 96 wkH 0 101 0 0 = 3 := by unfold ctE; rw [if_pos ab_cal]; decide
  rw [if_neg (by rw [this]; decide), this]

set_option maxRecDepth 100000 in
set_option maxHeartbeats 4000000 in
theorem ageBegun (w : World) : Calls Tryz.prog 28 #[] w fun e w' => e = .returned (.bool true) ∧ Kpt w w' := by
  have G : Hid (Kpt w w) := Kpt.refl w
  have HV : Hid True := trivial
  go_enter Tryz.func28, Tryz.ntmps28
  go_wp2_with (first
    | (go_at_call 69; (with_reducible refine (week_any _).mono ?_); rintro z wq ⟨vq, rfl, hrq, kq⟩; have G := Lib.hid (ktr G.out kq); have HV := Lib.hid hrq; clear kq hrq)
    | (go_at_call 70; (with_reducible refine (someT_run _).mono ?_); rintro z wt ⟨rfl, kt⟩; have G := Lib.hid (ktr G.out kt); have HV := Lib.hid (Reads.kpt HV.out kt); clear kt)
    | (go_at_call 47; (with_reducible refine (someF_run _).mono ?_); rintro z wf ⟨rfl, kf⟩; have G := Lib.hid (ktr G.out kf); have HV := Lib.hid (Reads.kpt HV.out kf); clear kf)
    | (go_at_call 33; (with_reducible refine (ab_1 _ _ HV.out).mono ?_); rintro z w1 ⟨rfl, k1⟩; have G := Lib.hid (ktr G.out k1); clear k1)
    | (go_at_call 31; (with_reducible refine (ab_st 739942 1 (by decide) (by decide) _ _ HV.out).mono ?_); rintro z w2 ⟨rfl, k2⟩; have G := Lib.hid (ktr G.out k2); clear k2)
    | (go_at_call 31; (with_reducible refine (ab_st 739943 2 (by decide) (by decide) _ _ HV.out).mono ?_); rintro z w3 ⟨rfl, k3⟩; have G := Lib.hid (ktr G.out k3); clear k3)
    | (go_at_call 71; (with_reducible refine (ab_4 _ _ HV.out).mono ?_); rintro z w4 ⟨rfl, k4⟩; have G := Lib.hid (ktr G.out k4); clear k4)
    | (go_at_call 31; (with_reducible refine (ab_5 _ _ HV.out).mono ?_); rintro z w5 ⟨rfl, k5⟩; have G := Lib.hid (ktr G.out k5); clear k5))
  go_ret
  exact ⟨rfl, G.out⟩

end Go.Proofs.YthaahebggboliaaGreat

-- AgeG
namespace Go.Proofs.YthaahebggboliaaGreat
open Go.RowKit
set_option linter.unusedVariables false

def stgR (W : Int) (hs : List Int) (te tb td tr i f t c p d u x b y q : Int) : Int := if lkE W hs te tb td tr i f t c p d u x b y q = 0 then stgV (openV i f t c p d u x b y) d (dayAt W hs d te tb td 1) (dayAt W hs d te tb td 2) (dayAt W hs d te tb td 3) q else 0
theorem stage_any (W te tb td tr i f t c p d u x b y q : Int) (v : Value) (hs : List Int) (w : World) (hr : Reads w v hs) (hf : Fits hs) :
    Calls Tryz.prog 31 #[calV W v, .agg #[.int .i64 te, .int .i64 tb, .int .i64 td, .int .i64 tr], .agg #[.int .i64 i, .int .i64 f, .int .i64 t, .int .i64 c, .int .i64 p, .int .i64 d, .int .i64 u, .int .i64 x, .int .i64 b, .int .i64 y], .int .i64 q] w fun z w' => z = .returned (.tuple #[.int .i64 (stgR W hs te tb td tr i f t c p d u x b y q), .int .i64 (lkE W hs te tb td tr i f t c p d u x b y q)]) ∧ Kpt w w' := by
  unfold stgR
  by_cases h : lkE W hs te tb td tr i f t c p d u x b y q = 0
  · rw [if_pos h, h]; exact stg_ok W te tb td tr i f t c p d u x b y q v hs w hr hf h
  · rw [if_neg h]; exact stg_bad W te tb td tr i f t c p d u x b y q v hs w hr hf _ rfl h
/-- of a later day no step leads to an earlier one -/
theorem ste_mono {W : Int} {hs : List Int} {n n' m : Int} (hm : 0 ≤ m) (hn : n ≤ n') (h1 : steE W hs n m = 0) (h2 : steE W hs n' m = 0) : steR W hs n m ≤ steR W hs n' m := by
  rcases ste_cases W hs n m with ⟨_, _, _, _, _, _, _, _, c1⟩ | ⟨e, _⟩
  · rcases ste_cases W hs n' m with ⟨_, _, _, _, _, _, _, _, c2⟩ | ⟨e, _⟩
    · rcases c1 with ⟨_, e1⟩ | ⟨p1, l1, b1, k1⟩ | ⟨p1, _⟩
      · rcases c2 with ⟨_, e2⟩ | ⟨p2, l2, _⟩ | ⟨p2, _⟩
        · omega
        · omega
        · omega
      · rcases c2 with ⟨p2, e2⟩ | ⟨p2, l2, b2, k2⟩ | ⟨p2, _⟩
        · omega
        · rcases Int.lt_or_le (steR W hs n' m) (steR W hs n m) with g | g
          · exfalso
            have a1 := cnt_add (bizB W hs) (show n ≤ n' from hn) (show n' ≤ steR W hs n m by omega)
            have a2 := cnt_add (bizB W hs) (show n' ≤ steR W hs n' m by omega) (show steR W hs n' m ≤ steR W hs n m by omega)
            have a3 := cnt_pos (β := bizB W hs) (a := steR W hs n' m) (b := steR W hs n m) g (Int.le_refl _) b1
            omega
          · exact g
        · omega
      · omega
    · exact absurd h2 e
  · exact absurd h1 e
/-- no step leads back -/
theorem ste_ge {W : Int} {hs : List Int} {n m : Int} (hm : 0 ≤ m) (h1 : steE W hs n m = 0) : n ≤ steR W hs n m := by
  rcases ste_cases W hs n m with ⟨_, _, _, _, _, _, _, _, c1⟩ | ⟨e, _⟩
  · rcases c1 with ⟨_, e1⟩ | ⟨p1, l1, b1, k1⟩ | ⟨p1, _⟩ <;> omega
  · exact absurd h1 e
theorem three_nn {e b d : Int} (he : 0 ≤ e) (hb : 0 ≤ b) (hd : 0 ≤ d) {k : Nat} (hk : k < 3) : 0 ≤ three e b d k := by
  rcases (show k = 0 ∨ k = 1 ∨ k = 2 by omega) with rfl | rfl | rfl
  · exact he
  · exact hb
  · exact hd
theorem day_mono {W : Int} {hs : List Int} {n n' e b d : Int} (he : 0 ≤ e) (hb : 0 ≤ b) (hd : 0 ≤ d) (hn : n ≤ n') (h1 : wlkE W hs n e b d = 0) (h2 : wlkE W hs n' e b d = 0) (k : Nat) (hk : k ≤ 3) : dayAt W hs n e b d k ≤ dayAt W hs n' e b d k := by
  induction k with
  | zero => exact hn
  | succ k ih => exact ste_mono (three_nn he hb hd (by omega)) (ih (by omega)) (wlk_0 h1 k (by omega)) (wlk_0 h2 k (by omega))
theorem day_up {W : Int} {hs : List Int} {n e b d : Int} (he : 0 ≤ e) (hb : 0 ≤ b) (hd : 0 ≤ d) (h1 : wlkE W hs n e b d = 0) : n ≤ dayAt W hs n e b d 1 ∧ dayAt W hs n e b d 1 ≤ dayAt W hs n e b d 2 ∧ dayAt W hs n e b d 2 ≤ dayAt W hs n e b d 3 :=
  ⟨ste_ge he (wlk_0 h1 0 (by omega)), ste_ge hb (wlk_0 h1 1 (by omega)), ste_ge hd (wlk_0 h1 2 (by omega))⟩
theorem ct_0 {W : Int} {hs : List Int} {e b d r : Int} (h : ctE W hs e b d r = 0) : calE W hs = 0 ∧ (0 ≤ e ∧ e ≤ 100) ∧ (0 ≤ b ∧ b ≤ 100) ∧ (0 ≤ d ∧ d ≤ 100) ∧ 0 ≤ r ∧ r ≤ 1000000 := by
  unfold ctE at h
  split at h
  · next h1 => exact ⟨h1, term_0 h⟩
  · next h1 => exact absurd h h1
theorem stg_done (d g1 g2 g3 q : Int) : stgV 0 d g1 g2 g3 q = 5 := by unfold stgV; rw [if_pos rfl]
theorem stg_lt {o d g1 g2 g3 q : Int} (h : o ≠ 0) : 0 ≤ stgV o d g1 g2 g3 q ∧ stgV o d g1 g2 g3 q ≤ 4 := by
  unfold stgV; rw [if_neg h]
  repeat' split
  all_goals omega
theorem stg_same {o o' d g1 g2 g3 q : Int} (h : o ≠ 0) (h' : o' ≠ 0) : stgV o d g1 g2 g3 q = stgV o' d g1 g2 g3 q := by
  unfold stgV; rw [if_neg h, if_neg h']
theorem stg_mono {o d g1 g2 g3 q q' : Int} (h : o ≠ 0) (hq : q ≤ q') : stgV o d g1 g2 g3 q ≤ stgV o d g1 g2 g3 q' := by
  unfold stgV; rw [if_neg h, if_neg h]
  repeat' split
  all_goals omega
theorem stg_four {o d g1 g2 g3 q : Int} (h : o ≠ 0) (h1 : d ≤ g1) (h2 : g1 ≤ g2) (h3 : g2 ≤ g3) : stgV o d g1 g2 g3 q = 4 ↔ g3 < q := by
  unfold stgV; rw [if_neg h]
  constructor
  · intro e
    repeat' split at e
    all_goals omega
  · intro e
    rw [if_neg (by omega), if_neg (by omega), if_neg (by omega), if_neg (by omega)]

end Go.Proofs.YthaahebggboliaaGreat
