/-
  What walk and Days of package age do.
-/
import Derived.Test.YtbidafbllnhmnaaAgeA
import Derived.BigQuiet
namespace Go.Proofs.Ytbidafbllnhmnaa
open Go.RowKit
set_option linter.unusedVariables false

theorem Row.kp {w w' : World} {g : Nat} {zs : List Int} (h : Row w g zs) (k : Kpt w w') : Row w' g zs := h.block (k.block g h.lt)
/-- the day behind so many of three steps, and the error of a step -/
def dayAt (W : Int) (hs : List Int) (n e b d : Int) : Nat → Int
  | 0 => n
  | k + 1 => steR W hs (dayAt W hs n e b d k) (three e b d k)
def errAt (W : Int) (hs : List Int) (n e b d : Int) (k : Nat) : Int := steE W hs (dayAt W hs n e b d k) (three e b d k)
def wlkE (W : Int) (hs : List Int) (n e b d : Int) : Int := if errAt W hs n e b d 0 ≠ 0 then errAt W hs n e b d 0 else if errAt W hs n e b d 1 ≠ 0 then errAt W hs n e b d 1 else errAt W hs n e b d 2
def rowAt (W : Int) (hs : List Int) (n e b d : Int) (k : Nat) : List Int := (List.range 3).map fun j => if j < k then dayAt W hs n e b d (j + 1) else 0
theorem row_len (W : Int) (hs : List Int) (n e b d : Int) (k : Nat) : (rowAt W hs n e b d k).length = 3 := by simp [rowAt]
theorem row_0 (W : Int) (hs : List Int) (n e b d : Int) : rowAt W hs n e b d 0 = List.replicate 3 0 := rfl
theorem row_s (W : Int) (hs : List Int) (n e b d : Int) (k : Nat) (hk : k < 3) : (rowAt W hs n e b d k).set k (dayAt W hs n e b d (k + 1)) = rowAt W hs n e b d (k + 1) := by
  rcases (show k = 0 ∨ k = 1 ∨ k = 2 by omega) with rfl | rfl | rfl <;> rfl
theorem wlk_at {W : Int} {hs : List Int} {n e b d : Int} {k : Nat} (hk : k < 3) (h : ∀ j, j < k → errAt W hs n e b d j = 0) (h2 : errAt W hs n e b d k ≠ 0) : wlkE W hs n e b d = errAt W hs n e b d k := by
  unfold wlkE
  rcases (show k = 0 ∨ k = 1 ∨ k = 2 by omega) with rfl | rfl | rfl
  · rw [if_pos h2]
  · rw [if_neg (by rw [h 0 (by omega)]; simp), if_pos h2]
  · rw [if_neg (by rw [h 0 (by omega)]; simp), if_neg (by rw [h 1 (by omega)]; simp)]
theorem wlk_no {W : Int} {hs : List Int} {n e b d : Int} (h : ∀ j, j < 3 → errAt W hs n e b d j = 0) : wlkE W hs n e b d = 0 := by
  unfold wlkE
  rw [if_neg (by rw [h 0 (by omega)]; simp), if_neg (by rw [h 1 (by omega)]; simp), h 2 (by omega)]
theorem wlk_0 {W : Int} {hs : List Int} {n e b d : Int} (h : wlkE W hs n e b d = 0) : ∀ j, j < 3 → errAt W hs n e b d j = 0 := by
  unfold wlkE at h
  split at h
  · next h1 => exact absurd h h1
  · next h1 =>
    split at h
    · next h2 => exact absurd h h2
    · next h2 =>
      intro j hj
      rcases (show j = 0 ∨ j = 1 ∨ j = 2 by omega) with rfl | rfl | rfl
      · exact Classical.not_not.1 h1
      · exact Classical.not_not.1 h2
      · exact h

set_option maxHeartbeats 4000000 in
theorem walk_run (W n e b d : Int) (v : Value) (hs : List Int) (g : Nat) (w : World) (hr : Reads w v hs) (hf : Fits hs) (hc : ∀ k, k < 3 → w.cell? ⟨g, k, none⟩ = some (.int .i64 (three e b d k))) :
    (wlkE W hs n e b d ≠ 0 → Calls Try.prog 107 #[calV W v, .int .i64 n, .slice (some ⟨g, 0, none⟩) 3 3] w fun x w' => x = .returned (.tuple #[.slice none 0 0, .int .i64 (wlkE W hs n e b d)]) ∧ Kpt w w') ∧
    (wlkE W hs n e b d = 0 → Calls Try.prog 107 #[calV W v, .int .i64 n, .slice (some ⟨g, 0, none⟩) 3 3] w fun x w' => ∃ G, x = .returned (.tuple #[.slice (some ⟨G, 0, none⟩) 3 3, .int .i64 0]) ∧ Hid (Row w' G (rowAt W hs n e b d 3)) ∧ Kpt w w') := by
  have main : Calls Try.prog 107 #[calV W v, .int .i64 n, .slice (some ⟨g, 0, none⟩) 3 3] w fun x w' => ((wlkE W hs n e b d ≠ 0 ∧ x = .returned (.tuple #[.slice none 0 0, .int .i64 (wlkE W hs n e b d)])) ∨ (wlkE W hs n e b d = 0 ∧ ∃ G, x = .returned (.tuple #[.slice (some ⟨G, 0, none⟩) 3 3, .int .i64 0]) ∧ Hid (Row w' G (rowAt W hs n e b d 3)))) ∧ Kpt w w' := by
    have ST := Lib.hid (fun w' n' m (k : Kpt w w') => step_any W n' m v hs w' (hr.kpt k) hf)
    have HC := Lib.hid hc
    have AT := Lib.hid (fun k hk h h2 => wlk_at (W := W) (hs := hs) (n := n) (e := e) (b := b) (d := d) (k := k) hk h h2)
    have NO := Lib.hid (wlk_no (W := W) (hs := hs) (n := n) (e := e) (b := b) (d := d))
    have RS := Lib.hid (fun k hk => row_s W hs n e b d k hk)
    have DS : Hid (∀ k, dayAt W hs n e b d (k + 1) = steR W hs (dayAt W hs n e b d k) (three e b d k)) := fun k => rfl
    have ES : Hid (∀ k, errAt W hs n e b d k = steE W hs (dayAt W hs n e b d k) (three e b d k)) := fun k => rfl
    obtain ⟨a, cap, rfl, -⟩ := hr
    generalize hs.length = hl at *
    unfold calV at *
    have B0 := Lib.hid (Blk.made w #[.int .i64 W, .slice a hl cap] 24)
    have MK := run_zeros (w.alloc (.cells #[.int .i64 W, .slice a hl cap] 24)) 3 (by omega)
    rw [show ((3 : Nat) : Int) = 3 from rfl, show (w.alloc (.cells #[.int .i64 W, .slice a hl cap] 24)).heap.size = w.heap.size + 1 by simp] at MK
    have RW : Hid (Row ((w.alloc (.cells #[.int .i64 W, .slice a hl cap] 24)).alloc (.cells (Array.replicate 3 (Value.int .i64 0)) 3)) (w.heap.size + 1) (List.replicate 3 0)) := by
      have := Row.made (w.alloc (.cells #[.int .i64 W, .slice a hl cap] 24)) 3
      unfold Hid; simpa using this
    clear hc hf
    go_enter Try.func107, Try.ntmps107
    go_wp2
    have HO : Hid (Row ((w.alloc (.cells #[.int .i64 W, .slice a hl cap] 24)).alloc (.cells (Array.replicate 3 (Value.int .i64 0)) 3)) (w.heap.size + 1) (rowAt W hs n e b d 0)) := RW.out
    have BB : Hid (Blk ((w.alloc (.cells #[.int .i64 W, .slice a hl cap] 24)).alloc (.cells (Array.replicate 3 (Value.int .i64 0)) 3)) w.heap.size #[.int .i64 W, .slice a hl cap] 24) := B0.out.alloc _
    have KK : Hid (Kpt w ((w.alloc (.cells #[.int .i64 W, .slice a hl cap] 24)).alloc (.cells (Array.replicate 3 (Value.int .i64 0)) 3))) := ((Kpt.refl w).alloc _).alloc _
    clear MK RW B0
    go_loopw [1, 18] (fun nn ii wr => ∃ k : Nat, k ≤ 3 ∧ ii = .int .i64 (k : Int) ∧ nn = .int .i64 (dayAt W hs n e b d k) ∧ Hid (∀ j, j < k → errAt W hs n e b d j = 0) ∧ Hid (Row wr (w.heap.size + 1) (rowAt W hs n e b d k)) ∧ Hid (Blk wr w.heap.size #[.int .i64 W, .slice a hl cap] 24) ∧ Hid (Kpt w wr)) (fun _ ii _ => 3 - (intOf ii).toNat)
    case atStart => exact ⟨0, Nat.zero_le _, rfl, rfl, fun j hj => absurd hj (Nat.not_lt_zero j), HO.out, BB.out, KK.out⟩
    case round =>
      obtain ⟨k, hk, rfl, rfl, HE, HR, HB, HK⟩ := hrel
      by_cases hlt : k < 3
      · have c1 := HK.out.cell (HC.out k hlt)
        have b0 : wr.cell? ⟨w.heap.size, 0, none⟩ = some (.int .i64 W) := HB.out.cell 0
        have b1 : wr.cell? ⟨w.heap.size, 1, none⟩ = some (.slice a hl cap) := HB.out.cell 1
        have rs := RS.out k hlt
        rw [DS.out k] at rs
        have ds := DS.out k
        have es := ES.out k
        have at' := AT.out k hlt HE.out
        rw [es] at at'
        have nx : steE W hs (dayAt W hs n e b d k) (three e b d k) = 0 → ∀ j, j < k + 1 → errAt W hs n e b d j = 0 := fun h j hj => by
          rcases Nat.lt_or_ge j k with h1 | h1
          · exact HE.out j h1
          · obtain rfl : j = k := by omega
            rw [es]; exact h
        have S1 := Lib.hid (ST.out wr (dayAt W hs n e b d k) (three e b d k) HK.out)
        generalize dayAt W hs n e b d k = N at *
        generalize three e b d k = M at *
        generalize steR W hs N M = N' at *
        have RSH := Lib.hid rs
        have DSH := Lib.hid ds
        by_cases hz : steE W hs N M = 0
        · have NX := Lib.hid (nx hz)
          rw [hz] at S1
          clear at' nx hz rs es ds
          go_wp2_with (go_at_call 130; (with_reducible refine S1.out.mono ?_); rintro x w2 ⟨rfl, k2⟩; have K2 := Lib.hid (ktr HK.out k2); have R2 := Lib.hid (Row.kp HR.out k2); have B2 := Lib.hid (HB.out.kpt k2); have fr := Row.frozen R2.out k; have cr := Row.cell R2.out (j := k) (by rw [row_len]; omega); clear k2)
          go_roundw
          case rel => exact ⟨k + 1, by omega, by go_num, by rw [DSH.out], NX.out, by unfold Hid; rw [← RSH.out]; exact Row.put R2.out k N', B2.out.away (by simp) _, Kpt.setCell K2.out (by simp) _⟩
          case measure => simp [intOf]; omega
        · have z0 : (steE W hs N M != 0) = true := bne_iff_ne.2 hz
          have EW := Lib.hid (at' hz)
          have EN := Lib.hid hz
          clear at' nx hz rs es ds
          generalize steE W hs N M = E at *
          go_wp2_with (go_at_call 130; (with_reducible refine S1.out.mono ?_); rintro x w2 ⟨rfl, k2⟩; have K2 := Lib.hid (ktr HK.out k2); clear k2)
          exact bodyPost_ret (v := .tuple #[.slice none 0 0, .int .i64 E]) (by simp [results, Try.results107, go_sem]) rfl ⟨.inl ⟨by rw [EW.out]; exact EN.out, by rw [EW.out]⟩, K2.out⟩
      · obtain rfl : k = 3 := by omega
        have E0 := Lib.hid (NO.out HE.out)
        go_wp2
        exact bodyPost_ret (v := .tuple #[.slice (some ⟨w.heap.size + 1, 0, none⟩) 3 3, .int .i64 0]) (by simp [results, Try.results107, go_sem]) rfl ⟨.inr ⟨E0.out, w.heap.size + 1, rfl, HR.out⟩, HK.out⟩
  refine ⟨fun h => main.mono ?_, fun h => main.mono ?_⟩
  · rintro x w' ⟨⟨_, rfl⟩ | ⟨h2, _⟩, hk⟩
    · exact ⟨rfl, hk⟩
    · exact absurd h2 h
  · rintro x w' ⟨⟨h2, _⟩ | ⟨_, G, rfl, ho⟩, hk⟩
    · exact absurd h h2
    · exact ⟨G, rfl, ho, hk⟩

end Go.Proofs.Ytbidafbllnhmnaa
