/-
  What greatestFirst of package share does at fewer than twenty numbers: the library's insertion sort, by its own function literal.
-/
import Derived.Test.YtmoanndonfmihaaShareC
import Derived.Test.YtmoanndonfmihaaShelf
import Derived.Sort.OwnSortedInts
namespace Go.Proofs.Ytmoanndonfmihaa
open Go.RowKit Go.Lib
set_option linter.unusedVariables false

theorem litB (x y : Int) (w : World) (n : Nat) : Calls Try.prog 58 #[.int .i64 x, .int .i64 y] (w.drewN n) fun e w' => e = .returned (.int .i64 (Lib.compareInt x y)) ∧ w' = w.drewN n := Try.cmp_Compare_int x y _

/-- a place, as the sort moves it -/
def encP (m : Nat) (i : Fin (m + 1)) : Value := .int .i64 (i.val : Int)
/-- two places compared: the greater number first -/
def cfP (nums : List Int) (m : Nat) (i j : Fin (m + 1)) : Int := Lib.compareInt (nums.getD j.val 0) (nums.getD i.val 0)
/-- the places, in their order -/
def plc (m : Nat) : Array (Fin (m + 1)) := Array.ofFn id
/-- the places, those of the greatest numbers first -/
def ord (nums : List Int) (m : Nat) : Array (Fin (m + 1)) := Sort.insertionSort (ltOf (cfP nums m)) (plc m) 0 (m + 1)
def vals {m : Nat} (d : Array (Fin (m + 1))) : List Int := d.toList.map fun i => (i.val : Int)

theorem holds_plc {m : Nat} {w : World} {blk : Nat} {d : Array (Fin (m + 1))} (h : Row w blk (vals d)) : Sort.Holds (encP m) w blk 0 d := by
  intro j hj
  rw [Nat.zero_add]
  have hl : (vals d).length = d.size := by simp [vals]
  refine ⟨?_, h.frozen j⟩
  rw [h.cell (by rw [hl]; exact hj)]
  have : (vals d).getD j 0 = ((d[j]!).val : Int) := by
    rw [List.getD_eq_getElem?_getD]
    simp [vals, hj, getElem!_pos]
  rw [this]; rfl

theorem row_put {m : Nat} {w : World} {blk n : Nat} {zs : List Int} {d : Array (Fin (m + 1))} (h : Row w blk zs) (hs : d.size = zs.length) : Row ((Sort.putRow (encP m) w blk 0 d).drewN n) blk (vals d) := by
  have e : ((Sort.putRow (encP m) w blk 0 d).drewN n).heap[blk]? = (Sort.putRow (encP m) w blk 0 d).heap[blk]? := rfl
  unfold Row at h ⊢
  rw [e]
  simp only [Sort.putRow, Sort.mapBlock, Array.getElem?_modify, h, Sort.onCells, if_true, Option.map_some]
  congr 2
  apply Array.ext
  · simp [Sort.putCells, vals, hs]
  · intro i h1 h2
    have hi : i < d.size := by simpa [vals] using h2
    simp [Sort.putCells, vals, hi, getElem!_pos, encP]

theorem below_put {m : Nat} {a w : World} {B blk n : Nat} {d : Array (Fin (m + 1))} (h : Below B a w) (hb : B ≤ blk) : Below B a ((Sort.putRow (encP m) w blk 0 d).drewN n) := by
  refine h.trans ⟨rfl, rfl, rfl, by simp [Sort.putRow, Sort.mapBlock, World.drewN], fun k hk => ?_⟩
  show (Sort.putRow (encP m) w blk 0 d).heap[k]? = w.heap[k]?
  simp only [Sort.putRow, Sort.mapBlock, Array.getElem?_modify]
  rw [if_neg (by omega)]

end Go.Proofs.Ytmoanndonfmihaa
