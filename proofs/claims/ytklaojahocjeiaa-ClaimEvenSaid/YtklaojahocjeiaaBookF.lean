/-
  slices.SortFunc at postings of the call's own.
-/
import Derived.Test.YtklaojahocjeiaaBookE
import Derived.Shelf.SlSortCmp.WholeK
namespace Go.Proofs.Ytklaojahocjeiaa
open Go.RowKit Go.Sort Go.Lib
set_option linter.unusedVariables false

theorem flatK_eq (ps : List (Int × Int × Int)) : flatK encP 3 ps.toArray = (flatP ps).toArray := by
  apply Array.ext
  · simp [flatP_len]
  · intro t h1 h2
    have ht : t < ps.length * 3 := by simpa using h1
    apply Option.some.inj
    rw [← Array.getElem?_eq_getElem, ← Array.getElem?_eq_getElem]
    obtain ⟨q, r, hr, rfl⟩ : ∃ q r, r < 3 ∧ t = q * 3 + r := ⟨t / 3, t % 3, by omega, by omega⟩
    have hq : q < ps.length := by omega
    have e := get_flatK encP 3 ps.toArray (q * 3 + r) (by simpa using ht)
    rw [show (q * 3 + r) / 3 = q by omega, show (q * 3 + r) % 3 = r by omega] at e
    rw [Array.getElem?_eq_getElem h1, ← getElem!_pos (flatK encP 3 ps.toArray) (q * 3 + r) h1, e]
    obtain ⟨e0, e1, e2⟩ := flatP_at ps q hq
    have eg : ps.toArray[q]! = ps.getD q default := by
      rw [getElem!_pos ps.toArray q (by simpa using hq), List.getD_eq_getElem?_getD, List.getElem?_eq_getElem hq]; simp
    rw [eg, List.getElem?_toArray]
    rcases (show r = 0 ∨ r = 1 ∨ r = 2 by omega) with rfl | rfl | rfl
    · rw [Nat.add_zero, e0]; rfl
    · rw [e1]; rfl
    · rw [e2]; rfl
theorem heap_put {w : World} {g n : Nat} {os : Array Obj} {cur : Array Value} {e : TypeId} {fr : Nat × Nat} (d : Array Value) (hb : w.heap[g]? = some (.cells cur e fr)) :
    (Go.Sort.grow (putRow id (Sort.ahead w n) g 0 d) os).heap[g]? = some (.cells (putCells id 0 d cur) e fr) := by
  have hg : g < w.heap.size := (Array.getElem?_eq_some_iff.1 hb).1
  rw [heap_grow_old _ _ (by simpa using hg)]
  simp [putRow, mapBlock, Sort.ahead, Array.getElem?_modify, hb, onCells]
theorem grown_put {w : World} {g n : Nat} {os : Array Obj} (d : Array Value) : w.grownBy (Go.Sort.grow (putRow id (Sort.ahead w n) g 0 d) os) (some g) := by
  refine ⟨rfl, rfl, rfl, by simp, fun k hk hne => ?_⟩
  rw [heap_grow_old _ _ (by simpa using hk)]
  have : g ≠ k := fun e => hne (by rw [e])
  simp [putRow, mapBlock, Sort.ahead, Array.getElem?_modify, this]
theorem take_put (cur : Array Value) (xs : List Value) (h : xs.length ≤ cur.size) : (putCells id 0 xs.toArray cur).toList.take xs.length = xs := by
  apply List.ext_getElem?
  intro j
  by_cases hj : j < xs.length
  · rw [List.getElem?_take_of_lt hj, Array.getElem?_toList]
    simp [putCells, hj, show j < cur.size by omega]
  · rw [List.getElem?_take_eq_none (by omega), List.getElem?_eq_none (by omega)]

theorem cmp_lt (a b : Int) : decide (Lib.compareInt a b < 0) = decide (a < b) := by
  unfold Lib.compareInt
  by_cases h1 : a < b
  · simp [h1]
  · by_cases h2 : b < a <;> simp [h1, h2]
theorem swo_key : SWO (ltOf fun x y : Int × Int × Int => Lib.compareInt (keyP x) (keyP y)) := by
  have e : ∀ x y : Int × Int × Int, ltOf (fun x y => Lib.compareInt (keyP x) (keyP y)) x y = decide (keyP x < keyP y) := fun x y => by
    exact cmp_lt _ _
  refine ⟨fun x => ?_, fun x y z h1 h2 => ?_, fun x y z h1 h2 => ?_⟩
  · rw [e]; simp
  · rw [e] at *; simp at *; omega
  · rw [e] at *; simp at *; omega

theorem holds_own {w : World} {g : Nat} {cur : Array Value} {e : TypeId} {ps : List (Int × Int × Int)} (hb : w.heap[g]? = some (.cells cur e (0, 0))) (ht : cur.toList.take (ps.length * 3) = flatP ps) : HoldsK encP 3 w g 0 ps.toArray := by
  unfold HoldsK
  rw [flatK_eq]
  intro j hj
  have hj' : j < ps.length * 3 := by rw [← flatP_len]; simpa using hj
  refine ⟨?_, by simp [World.frozen?, hb]⟩
  have h1 : (cur.toList.take (ps.length * 3))[j]? = (flatP ps)[j]? := by rw [ht]
  rw [List.getElem?_take_of_lt hj'] at h1
  rw [Nat.zero_add, cell_of_row w g j cur e (0, 0) hb, ← Array.getElem?_toList, h1]
  rw [getElem!_pos (flatP ps).toArray j hj]
  simp

theorem eg48 : ∀ args w, (callFunc 59 args).run Try.prog w = .ok (.enter 59 args) w := enters_of Try.func59 (by kernel_rfl) rfl

/-- slices.SortFunc at postings of the call's own: they are put in the order of their keys -/
theorem sort_run (w : World) (base blk cap : Nat) (ps : List (Int × Int × Int)) (h : OwnsP w base (.slice (some ⟨blk, 0, none⟩) ps.length cap) ps) (hn : ps.length ≤ 100000) :
    Calls Try.prog 58 #[.slice (some ⟨blk, 0, none⟩) ps.length cap, .func (.func 59) #[] #[]] w fun e w' =>
      e = .returned (.tuple #[]) ∧ ∃ qs : List (Int × Int × Int), qs.Perm ps ∧ qs.Pairwise (fun x y => keyP x ≤ keyP y) ∧ OwnsP w' base (.slice (some ⟨blk, 0, none⟩) qs.length cap) qs ∧ w.grownBy w' (some blk) := by
  rcases h.2 with ⟨e, _⟩ | ⟨k, cap', cur, e, hk, hh, hc, hm, hs, ht⟩
  · cases e
  · injection e with e1 e2 e3
    injection e1 with e1
    injection e1 with e1 _ _
    subst e1; subst e3
    have hlt : blk < w.heap.size := (Array.getElem?_eq_some_iff.1 hh).1
    have aE : ∀ w, (isAgg 53).run Try.prog w = .ok true w := fun w => by kernel_rfl
    have zE : ∀ w, (Go.sizeOf 53).run Try.prog w = .ok 3 w := fun w => by kernel_rfl
    have hcon := AnyQ.slices_SortFunc Try.sortP 3 aE zE encP (fun _ => rfl) (fun x v hv => by simp [encP] at hv; rcases hv with rfl | rfl | rfl <;> rfl) (fun x y => Lib.compareInt (keyP x) (keyP y)) swo_key 59 #[] blk 0 cap ps.toArray w eg48 (fun _ _ _ _ x y => closure_run x y _) (holds_own hh ht) hlt (by simp; omega)
    refine hcon.mono ?_
    rintro e w' ⟨rfl, d', n, os, ⟨hsz, -, hp⟩, hso, rfl⟩
    have hl : d'.size = ps.length := by simpa using hsz
    refine ⟨rfl, d'.toList, ?_, ?_, ?_, ?_⟩
    · have e1 : (d'.extract 0 ps.toArray.size).toList = d'.toList := by simp [← hl]
      have e2 : (ps.toArray.extract 0 ps.toArray.size).toList = ps := by simp
      rw [e1, e2] at hp
      exact hp
    · rw [List.pairwise_iff_getElem]
      intro i j hi hj hij
      have hi' : i < d'.size := by simpa using hi
      have hj' : j < d'.size := by simpa using hj
      have := hso i j (Nat.zero_le _) hij (by simp; omega)
      rw [getElem!_pos d' i hi', getElem!_pos d' j hj'] at this
      unfold ltOf Lib.compareInt at this
      simp only [decide_eq_false_iff_not] at this
      simp only [Array.getElem_toList]
      refine Int.not_lt.1 fun q => this ?_
      rw [if_pos q]
      decide
    · refine ⟨flatP_len _, .inr ⟨blk, cap, putCells id 0 (flatP d'.toList).toArray cur, rfl, hk, ?_, by simpa [hl] using hc, hm, by simp [putCells, hs], ?_⟩⟩
      · have := heap_put (n := n) (os := os) (flatP d'.toList).toArray hh
        rw [← flatK_eq] at this ⊢
        exact this
      · have := take_put cur (flatP d'.toList) (by rw [flatP_len, hs]; simp [hl]; omega)
        rw [flatP_len] at this
        exact this
    · have := grown_put (w := w) (g := blk) (n := n) (os := os) (flatK encP 3 d')
      exact this

end Go.Proofs.Ytklaojahocjeiaa
