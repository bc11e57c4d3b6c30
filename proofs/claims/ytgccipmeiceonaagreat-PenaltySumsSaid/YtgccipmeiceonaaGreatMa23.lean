/-
  Merged: Amounts.
-/
import Derived.Test.YtgccipmeiceonaaGreatMa9
import Derived.Test.YtgccipmeiceonaaGreatMa19
-- Amounts
namespace Go.Proofs.YtgccipmeiceonaaGreat
open Go.RowKit
set_option linter.unusedVariables false

/-- the first k values, and then noughts -/
def mixF (f : Nat → Int) (n k : Nat) : List Int := (List.range n).map fun u => if u < k then f u else 0
theorem mixF_zero (f : Nat → Int) (n : Nat) : mixF f n 0 = List.replicate n 0 := by
  apply List.ext_getElem?
  intro j
  unfold mixF
  by_cases h : j < n
  · simp [h]
  · simp [h]
theorem mixF_len (f : Nat → Int) (n k : Nat) : (mixF f n k).length = n := by simp [mixF]
theorem mixF_all (f : Nat → Int) (n : Nat) : mixF f n n = (List.range n).map f := by
  unfold mixF
  exact List.map_congr_left fun u hu => if_pos (List.mem_range.1 hu)
theorem mixF_put (f : Nat → Int) (n k : Nat) (hk : k < n) : (mixF f n k).set k (f k) = mixF f n (k + 1) := by
  apply List.ext_getElem?
  intro j
  unfold mixF
  by_cases h : j < n
  · rcases Nat.lt_trichotomy j k with h1 | h1 | h1
    · simp [h, Nat.ne_of_gt h1, h1, Nat.lt_succ_of_lt h1]
    · subst h1; simp [h]
    · simp [h, Nat.ne_of_lt h1, show ¬ j < k by omega, show ¬ j < k + 1 by omega]
  · simp [h]

/-- what Amounts answers -/
def AmtsEnd (w : World) (n : Nat) (f : Nat → Int) (e : Ending) (w' : World) : Prop :=
  Grew w w' ∧ (((∀ u, u < n → amtB (f u) = true) ∧ ∃ g, w.heap.size ≤ g ∧ e = .returned (.tuple #[.slice (some ⟨g, 0, none⟩) n n, .int .i64 0]) ∧ Row w' g ((List.range n).map f)) ∨
    ((∃ u, u < n ∧ amtB (f u) = false) ∧ e = .returned (.tuple #[.slice none 0 0, .int .i64 8])))

set_option maxHeartbeats 1000000 in
theorem amounts_run (g n cap : Nat) (f : Nat → Int) (T : TypeId) (w : World) (hn : n ≤ 1000) (hb : Blk w g (sumsC n f) T) :
    Calls Tryz.prog 61 #[.slice (some ⟨g, 0, none⟩) n cap] w (AmtsEnd w n f) := by
  have HB := Lib.hid hb
  have hlt := hb.lt
  have MK := run_zeros w n (by omega)
  clear hb
  go_enter Tryz.func61, Tryz.ntmps61
  go_wp2
  go_loopw [14] (fun i wr => ∃ k : Nat, k ≤ n ∧ i = .int .i64 k ∧ Hid (∀ u, u < k → amtB (f u) = true) ∧ Hid (Row wr w.heap.size (mixF f n k)) ∧ Hid (Grew w wr)) (fun i _ => n - (intOf i).toNat)
  case atStart => exact ⟨0, Nat.zero_le _, rfl, (fun u hu => absurd hu (Nat.not_lt_zero u)), (by unfold Hid; rw [mixF_zero]; exact Row.made w n), (Grew.refl _).alloc _ _⟩
  case round =>
    obtain ⟨k, hk, rfl, HA, HR, HG⟩ := hrel
    clear MK
    by_cases hlt2 : k < n
    · have c0 : wr.cell? ⟨g, k * 2, none⟩ = some (.int .i64 (hiOf (f k))) := ((HB.out.grew HG.out).cell _).trans (sums_hi n _ k hlt2)
      have c1 : wr.cell? ⟨g, k * 2 + 1, none⟩ = some (.int .u64 (loOf (f k))) := ((HB.out.grew HG.out).cell _).trans (sums_lo n _ k hlt2)
      have HP := Lib.hid (mixF_put f n k hlt2)
      have HL : Hid (∀ u, u < k + 1 → amtB (f k) = true → amtB (f u) = true) := fun u hu h => by
        rcases Nat.lt_or_ge u k with h1 | h1
        · exact HA.out u h1
        · obtain rfl : u = k := by omega
          exact h
      have HX : Hid (amtB (f k) = false → ∃ u, u < n ∧ amtB (f u) = false) := fun h => ⟨k, hlt2, h⟩
      generalize f k = z at *
      cases hz : amtB z with
      | true =>
        have AM := Lib.hid (fun W => amount_ok z W hz)
        have HZ := Lib.hid hz
        clear hz
        go_wp2_with (go_at_call 114; (with_reducible refine (AM.out _).mono ?_); rintro e w4 ⟨rfl, t4⟩; have R4 := Lib.hid ((HR.out.grew ((Grew.refl _).alloc _ _)).grew t4); have G4 := Lib.hid (gtr (HG.out.alloc _ _) t4); clear t4; have fz := R4.out.frozen k; have cz := R4.out.cell (j := k) (by rw [mixF_len]; exact hlt2))
        go_roundw
        case rel => exact ⟨k + 1, by omega, by go_num, fun u hu => HL.out u hu HZ.out, by unfold Hid; rw [← HP.out]; exact R4.out.put k z, G4.out.setCell (by simp) _⟩
        case measure => simp [intOf]; omega
      | false =>
        have AM := Lib.hid (fun W => amount_no z W hz)
        have HZ := Lib.hid hz
        clear hz
        go_wp2_with (go_at_call 114; (with_reducible refine (AM.out _).mono ?_); rintro e w4 ⟨rfl, t4⟩; have G4 := Lib.hid (gtr (HG.out.alloc _ _) t4); clear t4)
        go_ret2
        exact ⟨G4.out, .inr ⟨HX.out HZ.out, rfl⟩⟩
    · obtain rfl : k = n := by omega
      have e := mixF_all f k
      rw [e] at HR
      clear e
      go_wp2
      go_ret2
      exact ⟨HG.out, .inl ⟨HA.out, _, Nat.le_refl _, rfl, HR.out⟩⟩

end Go.Proofs.YtgccipmeiceonaaGreat
