/-
  What greatestFirst of package share does at fewer than twenty numbers: its contract.
-/
import Derived.Test.YtmecggncedhehaaSortB
namespace Go.Proofs.Ytmecggncedhehaa
open Go.RowKit Go.Lib
set_option linter.unusedVariables false

/-- a new row of places comes back -/
def Order (w : World) (os : List Int) (e : Ending) (w' : World) : Prop :=
  ∃ O, e = .returned (.slice (some ⟨O, 0, none⟩) os.length os.length) ∧ w.heap.size ≤ O ∧ Row w' O os ∧ Below w.heap.size w w'
theorem order_mk {w w' : World} {O n : Nat} {os : List Int} (hn : os.length = n) (hO : w.heap.size ≤ O) (h : Row w' O os) (b : Below w.heap.size w w') : Order w os (.returned (.slice (some ⟨O, 0, none⟩) n n)) w' := by
  subst hn; exact ⟨O, rfl, hO, h, b⟩

/-- the first k places, and noughts -/
def upto (n k : Nat) : List Int := (List.range n).map fun i => if i < k then (i : Int) else 0
theorem upto_len (n k : Nat) : (upto n k).length = n := by simp [upto]
theorem upto_zero (n : Nat) : upto n 0 = List.replicate n 0 := by
  apply List.ext_getElem
  · simp [upto]
  · intro i h1 h2; simp [upto]
theorem upto_put (n k : Nat) : (upto n k).set k (k : Int) = upto n (k + 1) := by
  apply List.ext_getElem
  · simp [upto]
  · intro i h1 h2
    rw [List.getElem_set]
    simp only [upto, List.getElem_map, List.getElem_range]
    by_cases h : k = i
    · subst h; rw [if_pos rfl, if_pos (by omega)]
    · rw [if_neg h]
      by_cases h' : i < k
      · rw [if_pos h', if_pos (by omega)]
      · rw [if_neg h', if_neg (by omega)]
theorem upto_full (m : Nat) : upto (m + 1) (m + 1) = vals (plc m) := by
  apply List.ext_getElem
  · simp [upto, vals, plc]
  · intro i h1 h2
    have : i < m + 1 := by simpa [upto] using h1
    simp only [upto, vals, plc, List.getElem_map, List.getElem_range, Array.getElem_toList, Array.getElem_ofFn, id]
    rw [if_pos this]

set_option maxRecDepth 100000 in
set_option maxHeartbeats 1000000 in
theorem greatest_small (g cap m : Nat) (nums : List Int) (w : World) (hl : nums.length = m + 1) (h20 : nums.length < 20) (hN : ∀ j, j < nums.length → w.cell? ⟨g, j, none⟩ = some (.int .i64 (nums.getD j 0))) :
    Calls Try.prog 116 #[.slice (some ⟨g, 0, none⟩) nums.length cap] w (Order w (vals (ord nums m))) := by
  have hg : g < w.heap.size := cell_in (hN 0 (by omega))
  have MK := run_zeros (w.alloc (.cells #[.slice (some ⟨g, 0, none⟩) nums.length cap] 22)) nums.length (by omega)
  rw [World.size_alloc] at MK
  have HN := Lib.hid hN
  have HL := Lib.hid hl
  clear hN hl
  have hb0 : (w.alloc (.cells #[.slice (some ⟨g, 0, none⟩) nums.length cap] 22)).cell? ⟨w.heap.size, 0, none⟩ = some (.slice (some ⟨g, 0, none⟩) nums.length cap) := by simp [go_sem]
  have HB0 := Lib.hid hb0
  clear hb0
  go_enter Try.func116, Try.ntmps116
  go_wp2
  go_loopw [10] (fun i wr => ∃ k : Nat, k ≤ nums.length ∧ i = .int .i64 k ∧ Hid (Row wr (w.heap.size + 1) (upto nums.length k)) ∧ Hid (Below (w.heap.size + 1) (w.alloc (.cells #[.slice (some ⟨g, 0, none⟩) nums.length cap] 22)) wr)) (fun i _ => nums.length - (intOf i).toNat)
  case atStart =>
    refine ⟨0, Nat.zero_le _, rfl, ?_, ?_⟩
    · unfold Hid
      rw [upto_zero]
      have := Row.made (w.alloc (.cells #[.slice (some ⟨g, 0, none⟩) nums.length cap] 22)) nums.length
      rw [World.size_alloc] at this
      exact this
    · exact (Below.refl _ _).alloc (by rw [World.size_alloc]; exact Nat.le_refl _) _
  case round =>
    obtain ⟨k, hk, rfl, HR, HB⟩ := hrel
    clear MK
    by_cases hlt : k < nums.length
    · have c1 := HR.out.cell (j := k) (by rw [upto_len]; exact hlt)
      have f1 := HR.out.frozen k
      go_wp2
      go_roundw
      case rel => exact ⟨k + 1, by omega, by go_num, by unfold Hid; rw [← upto_put]; exact HR.out.put k _, HB.out.setCell (Nat.le_refl _) _⟩
      case measure => simp [intOf]; omega
    · obtain rfl : k = nums.length := by omega
      have hr : Row wr (w.heap.size + 1) (vals (plc m)) := by
        have h := HR.out; rw [HL.out, upto_full] at h; exact h
      have I := sortStable_run w.heap.size g cap m (w.heap.size + 1) nums.length nums wr HL.out h20 (by omega) (by omega)
        ((HB.out.cell (p := ⟨w.heap.size, 0, none⟩) (by show w.heap.size < w.heap.size + 1; omega)).trans HB0.out)
        (fun j hj => (HB.out.cell (p := ⟨g, j, none⟩) (by show g < w.heap.size + 1; omega)).trans (((Below.refl w.heap.size w).alloc (Nat.le_refl _) _).cell (p := ⟨g, j, none⟩) hg |>.trans (HN.out j hj))) hr
      rw [← HL.out] at I
      have HI := Lib.hid I
      have HO : Hid ((vals (ord nums m)).length = nums.length) := by unfold Hid; rw [vals_len, ord_size, HL.out]
      clear I hr
      go_wp2_with (go_at_call 117; (with_reducible refine HI.out.mono ?_); rintro e w1 hs; obtain ⟨rfl, hs2⟩ := hs; have HS := Lib.hid hs2; clear hs2)
      go_ret
      have hA : Below w.heap.size w (w.alloc (.cells #[.slice (some ⟨g, 0, none⟩) nums.length cap] 22)) := (Below.refl _ _).alloc (Nat.le_refl _) _
      exact order_mk HO.out (by omega) HS.out.1 ((hA.trans (HB.out.mono (by omega))).trans (HS.out.2 _ (by omega)))

end Go.Proofs.Ytmecggncedhehaa
