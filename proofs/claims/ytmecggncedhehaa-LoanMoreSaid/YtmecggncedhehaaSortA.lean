/-
  What greatestFirst of package share does at fewer than twenty numbers: the library's insertion sort, by its own function literal.
-/
import Derived.Test.YtmecggncedhehaaShareC
import Derived.Test.YtmecggncedhehaaShelf
import Derived.Sort.OwnSortedInts
namespace Go.Proofs.Ytmecggncedhehaa
open Go.RowKit Go.Lib
set_option linter.unusedVariables false

theorem litB (x y : Int) (w : World) (n : Nat) : Calls Try.prog 119 #[.int .i64 x, .int .i64 y] (w.drewN n) fun e w' => e = .returned (.int .i64 (Lib.compareInt x y)) ∧ w' = w.drewN n := Try.cmp_Compare_int x y _

set_option maxRecDepth 100000 in
set_option maxHeartbeats 1000000 in
/-- the function literal: the numbers at two places, the other way round -/
theorem cmp_run (B g cap : Nat) (nums : List Int) (W : World) (hl : nums.length ≤ 40) (hB : W.cell? ⟨B, 0, none⟩ = some (.slice (some ⟨g, 0, none⟩) nums.length cap)) (hN : ∀ j, j < nums.length → W.cell? ⟨g, j, none⟩ = some (.int .i64 (nums.getD j 0)))
    (i j : Nat) (hi : i < nums.length) (hj : j < nums.length) :
    Calls Try.prog 137 #[.int .i64 i, .int .i64 j, .pointer (some ⟨B, 0, none⟩)] W fun e w' => e = .returned (.int .i64 (Lib.compareInt (nums.getD j 0) (nums.getD i 0))) ∧ ∃ q, w' = W.drewN q := by
  have c1 := hN i hi
  have c2 := hN j hj
  clear hN
  generalize nums.getD i 0 = x at c1 ⊢
  generalize nums.getD j 0 = y at c2 ⊢
  have i0 : (0 : Int) ≤ i := by omega
  have j0 : (0 : Int) ≤ j := by omega
  have i1 : (i : Int) < nums.length := by omega
  have j1 : (j : Int) < nums.length := by omega
  obtain ⟨r, hr⟩ : ∃ r, Lib.compareInt y x = r := ⟨_, rfl⟩
  have C : ∀ n, Calls Try.prog 119 #[.int .i64 y, .int .i64 x] (W.drewN n) fun e w' => e = .returned (.int .i64 r) ∧ w' = W.drewN n := fun n => by have := litB y x W n; rw [hr] at this; exact this
  have HC := Lib.hid C
  rw [hr]
  clear C hr
  go_enter Try.func137, Try.ntmps137
  go_wp2
  go_quiet ((go_at_call 119; with_reducible exact Calls.quiet_of_same (HC.out _)))
  go_wp2
  go_ret
  exact ⟨rfl, _, rfl⟩

/-- a place, as the sort moves it -/
def encP (m : Nat) (i : Fin (m + 1)) : Value := .int .i64 (i.val : Int)
/-- two places compared: the greater number first -/
def cfP (nums : List Int) (m : Nat) (i j : Fin (m + 1)) : Int := Lib.compareInt (nums.getD j.val 0) (nums.getD i.val 0)
/-- the places, in their order -/
def plc (m : Nat) : Array (Fin (m + 1)) := Array.ofFn id
/-- the places, those of the greatest numbers first -/
def ord (nums : List Int) (m : Nat) : Array (Fin (m + 1)) := Sort.insertionSort (ltOf (cfP nums m)) (plc m) 0 (m + 1)
def vals {m : Nat} (d : Array (Fin (m + 1))) : List Int := d.toList.map fun i => (i.val : Int)

theorem cmp_reads (B g cap m blk size : Nat) (nums : List Int) (w : World) (hl : nums.length = m + 1) (h40 : nums.length ≤ 40) (hBb : B ≠ blk) (hgb : g ≠ blk) (hB : w.cell? ⟨B, 0, none⟩ = some (.slice (some ⟨g, 0, none⟩) nums.length cap)) (hN : ∀ j, j < nums.length → w.cell? ⟨g, j, none⟩ = some (.int .i64 (nums.getD j 0))) :
    CmpReads Try.prog 137 #[.pointer (some ⟨B, 0, none⟩)] (encP m) (cfP nums m) blk 0 size w := by
  intro k os dk hs x y
  have old : ∀ p : Addr, p.block < w.heap.size → p.block ≠ blk → (sortWorld (encP m) w blk 0 k dk os).cell? p = w.cell? p := by
    intro p hp hne
    unfold sortWorld
    rw [Sort.cell?_grow _ _ _ (by simpa [Sort.ahead] using hp), Sort.cell?_putRow_other _ _ _ _ _ _ (.inl hne)]
    rfl
  exact cmp_run B g cap nums _ h40 ((old ⟨B, 0, none⟩ (cell_in hB) hBb).trans hB) (fun j hj => (old ⟨g, j, none⟩ (cell_in (hN j hj)) hgb).trans (hN j hj)) x.val y.val (by omega) (by omega)

theorem holds_plc {m : Nat} {w : World} {blk : Nat} {d : Array (Fin (m + 1))} (h : Row w blk (vals d)) : Sort.Holds (encP m) w blk 0 d := by
  intro j hj
  rw [Nat.zero_add]
  have hl : (vals d).length = d.size := by simp [vals]
  refine ⟨?_, h.frozen j⟩
  rw [h.cell (by rw [hl]; exact hj)]
  have : (vals d).getD j 0 = ((d[j]!).val : Int) := by
    rw [List.getD_eq_getElem?_getD]
    simp [vals, hj, getElem!_pos]
  rw [this]; rfl

theorem row_put {m : Nat} {w : World} {blk n : Nat} {zs : List Int} {d : Array (Fin (m + 1))} (h : Row w blk zs) (hs : d.size = zs.length) : Row ((Sort.putRow (encP m) w blk 0 d).drewN n) blk (vals d) := by
  have e : ((Sort.putRow (encP m) w blk 0 d).drewN n).heap[blk]? = (Sort.putRow (encP m) w blk 0 d).heap[blk]? := rfl
  unfold Row at h ⊢
  rw [e]
  simp only [Sort.putRow, Sort.mapBlock, Array.getElem?_modify, h, Sort.onCells, if_true, Option.map_some]
  congr 2
  apply Array.ext
  · simp [Sort.putCells, vals, hs]
  · intro i h1 h2
    have hi : i < d.size := by simpa [vals] using h2
    simp [Sort.putCells, vals, hi, getElem!_pos, encP]

theorem below_put {m : Nat} {a w : World} {B blk n : Nat} {d : Array (Fin (m + 1))} (h : Below B a w) (hb : B ≤ blk) : Below B a ((Sort.putRow (encP m) w blk 0 d).drewN n) := by
  refine h.trans ⟨rfl, rfl, rfl, by simp [Sort.putRow, Sort.mapBlock, World.drewN], fun k hk => ?_⟩
  show (Sort.putRow (encP m) w blk 0 d).heap[k]? = w.heap[k]?
  simp only [Sort.putRow, Sort.mapBlock, Array.getElem?_modify]
  rw [if_neg (by omega)]

end Go.Proofs.Ytmecggncedhehaa
