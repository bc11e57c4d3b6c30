/-
  What symMergeCmpFunc and insertionSortCmpFunc of package slices do with a row of places, whatever compares them by a key.
-/
import Derived.Test.YtmoanndonfmihaaStabC
import Derived.Test.YtmoanndonfmihaaStabD
import Derived.Test.YtmoanndonfmihaaShelf
import Derived.Sort.OwnSortedInts
namespace Go.Proofs.Ytmoanndonfmihaa
open Go.RowKit Go.Lib
set_option linter.unusedVariables false

theorem one_of {l : List Int} (h0 : 0 < l.length) (h1 : ¬ 1 < l.length) : ∃ x, l = [x] := by
  match l, h0, h1 with
  | [x], _, _ => exact ⟨x, rfl⟩
  | _ :: _ :: _, _, h => exact absurd (by simp) h
/-- a place, as the sort moves it -/
def encF (M : Nat) (i : Fin (M + 1)) : Value := .int .i64 (i.val : Int)
def valsF {M : Nat} (d : List (Fin (M + 1))) : List Int := d.map fun i => (i.val : Int)
theorem valsF_len {M : Nat} (d : List (Fin (M + 1))) : (valsF d).length = d.length := by simp [valsF]
theorem valsF_append {M : Nat} (a b : List (Fin (M + 1))) : valsF (a ++ b) = valsF a ++ valsF b := by simp [valsF]
theorem valsF_of {M : Nat} {l : List Int} (h : ∀ x ∈ l, 0 ≤ x ∧ x < ((M + 1 : Nat) : Int)) : ∃ d : List (Fin (M + 1)), valsF d = l := by
  induction l with
  | nil => exact ⟨[], rfl⟩
  | cons x l ih =>
    obtain ⟨d, hd⟩ := ih (fun y hy => h y (by simp [hy]))
    have hx := h x (by simp)
    refine ⟨⟨x.toNat, by omega⟩ :: d, ?_⟩
    show (((x.toNat : Nat) : Int)) :: valsF d = _
    rw [hd]
    congr 1
    omega
theorem below_sort {M : Nat} {w : World} {blk k : Nat} {os : Array Obj} {dk : Array (Fin (M + 1))} (hb : blk < w.heap.size) : Below blk w (sortWorld (encF M) w blk 0 k dk os) := by
  unfold sortWorld
  refine ⟨rfl, rfl, rfl, ?_, fun j hj => ?_⟩
  · simp [Sort.grow, Sort.putRow, Sort.mapBlock, Sort.ahead]
  · rw [Sort.heap_grow_old _ _ (by simp [Sort.putRow, Sort.mapBlock, Sort.ahead]; omega)]
    simp only [Sort.putRow, Sort.mapBlock, Array.getElem?_modify]
    rw [if_neg (by omega)]
    rfl
theorem holdsF {M : Nat} {w : World} {blk : Nat} {d : Array (Fin (M + 1))} (h : Row w blk (valsF d.toList)) : Sort.Holds (encF M) w blk 0 d := by
  intro j hj
  rw [Nat.zero_add]
  have hl : (valsF d.toList).length = d.size := by simp [valsF]
  refine ⟨?_, h.frozen j⟩
  rw [h.cell (by rw [hl]; exact hj)]
  have : (valsF d.toList).getD j 0 = ((d[j]!).val : Int) := by
    rw [List.getD_eq_getElem?_getD]
    simp [valsF, hj, getElem!_pos]
  rw [this]; rfl
theorem row_putF {M : Nat} {w : World} {blk n : Nat} {zs : List Int} {d : Array (Fin (M + 1))} (h : Row w blk zs) (hs : d.size = zs.length) : Row ((Sort.putRow (encF M) w blk 0 d).drewN n) blk (valsF d.toList) := by
  have e : ((Sort.putRow (encF M) w blk 0 d).drewN n).heap[blk]? = (Sort.putRow (encF M) w blk 0 d).heap[blk]? := rfl
  unfold Row at h ⊢
  rw [e]
  simp only [Sort.putRow, Sort.mapBlock, Array.getElem?_modify, h, Sort.onCells, if_true, Option.map_some]
  congr 2
  apply Array.ext
  · simp [Sort.putCells, valsF, hs]
  · intro i h1 h2
    have hi : i < d.size := by simpa [valsF] using h2
    simp [Sort.putCells, valsF, hi, getElem!_pos, encF]
theorem below_putF {M : Nat} {w : World} {blk n : Nat} {d : Array (Fin (M + 1))} : Below blk w ((Sort.putRow (encF M) w blk 0 d).drewN n) := by
  refine ⟨rfl, rfl, rfl, by simp [Sort.putRow, Sort.mapBlock, World.drewN], fun k hk => ?_⟩
  show (Sort.putRow (encF M) w blk 0 d).heap[k]? = w.heap[k]?
  simp only [Sort.putRow, Sort.mapBlock, Array.getElem?_modify]
  rw [if_neg (by omega)]

theorem ins_any (fn : Nat) (cb : Array Value) (cf : Int → Int → Int) (lx : Int → Int → Prop) (M blk cap : Nat) (K : Keyed (M + 1) cf lx) (eg : ∀ args w, (callFunc fn args).run Try.prog w = .ok (.enter fn args) w)
    (A Q B : List Int) (a b : Nat) (w : World) (hr : Row w blk (A ++ Q ++ B)) (ha : A.length = a) (hb : a + Q.length = b) (hQ : Q.Pairwise (· < ·)) (hbd : ∀ x ∈ A ++ Q ++ B, 0 ≤ x ∧ x < ((M + 1 : Nat) : Int)) (hl : (A ++ Q ++ B).length ≤ 1000000) (hc : CmpAt fn cb cf (M + 1) blk w) :
    Calls Try.prog 121 #[.slice (some ⟨blk, 0, none⟩) (A ++ Q ++ B).length cap, .int .i64 a, .int .i64 b, .func (.func fn) #[] cb] w fun e w' => e = .returned (.tuple #[]) ∧ Mg lx w blk A Q B w' := by
  obtain ⟨dA, hA⟩ := valsF_of (l := A) (fun x hx => hbd x (by simp [hx]))
  obtain ⟨dQ, hQQ⟩ := valsF_of (l := Q) (fun x hx => hbd x (by simp [hx]))
  obtain ⟨dB, hB⟩ := valsF_of (l := B) (fun x hx => hbd x (by simp [hx]))
  subst hA hQQ hB
  rw [valsF_len] at ha hb
  have hd : valsF (dA ++ dQ ++ dB).toArray.toList = valsF dA ++ valsF dQ ++ valsF dB := by simp [valsF_append]
  have hsz : (dA ++ dQ ++ dB).toArray.size = (valsF dA ++ valsF dQ ++ valsF dB).length := by simp [valsF_len]
  rw [← hd] at hr
  have hcr : CmpReads Try.prog fn cb (encF M) (fun i j => cf i.val j.val) blk 0 (dA ++ dQ ++ dB).toArray.size w := by
    intro k os dk hs x y
    exact hc _ (below_sort hr.lt) x.val y.val (by omega) (by omega) (by omega) (by omega)
  have hq : dQ.Pairwise (Cmpt (ltOf fun i j : Fin (M + 1) => cf i.val j.val) (fun i j => lx i.val j.val)) := by
    unfold valsF at hQ
    rw [List.pairwise_map] at hQ
    refine hQ.imp (fun {p x} h => ?_)
    refine ⟨fun c => K.lt p.val x.val (by omega) (by omega) (by omega) (by omega) h (of_decide_eq_true c), fun c => K.ge p.val x.val (by omega) (by omega) (by omega) (by omega) h (of_decide_eq_false c)⟩
  obtain ⟨M', m1, m2, m3⟩ := ins_part (lt := ltOf fun i j : Fin (M + 1) => cf i.val j.val) (lx := fun i j => lx i.val j.val) (fun x y z => K.tr _ _ _) dA dQ dB (dA ++ dQ ++ dB).toArray (by simp) hq
  have h := Try.insertionSortCmpFunc_one (encF M) (fun _ => rfl) (fun i j => cf i.val j.val) fn cb blk 0 cap a b (dA ++ dQ ++ dB).toArray w eg hcr (holdsF hr) (by omega) (by simp; omega) (by rw [hsz]; omega)
  rw [hsz] at h
  refine h.mono ?_
  rintro e w' ⟨rfl, n, rfl⟩
  rw [ha, hb] at m1
  have hsz2 : (Sort.insertionSort (ltOf fun i j : Fin (M + 1) => cf i.val j.val) (dA ++ dQ ++ dB).toArray a b).size = (valsF (dA ++ dQ ++ dB).toArray.toList).length := by
    rw [← Array.length_toList, m1, hd, ]
    have := m2.length_eq
    simp [valsF_len, this]
  have hrow := row_putF (n := n) hr hsz2
  rw [m1, valsF_append, valsF_append] at hrow
  refine ⟨rfl, valsF M', ⟨hrow, below_putF⟩, m2.map _, ?_⟩
  unfold valsF
  rw [List.pairwise_map]
  exact m3

end Go.Proofs.Ytmoanndonfmihaa
