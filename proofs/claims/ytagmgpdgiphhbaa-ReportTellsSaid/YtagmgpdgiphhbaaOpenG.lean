/-
  An argument that is a slice of structs of N ints reads as a list of lists of ints.
-/
import Derived.Test.YtagmgpdgiphhbaaOpenF
import Derived.Test.YtagmgpdgiphhbaaFailE
namespace Go.Proofs.Ytagmgpdgiphhbaa
open Go.RowKit Go.ChangeShapes Go.WideShapes Go.Deep Go.Joins
set_option linter.unusedVariables false

/-- the slice value v reads as these elements of N ints -/
def ReadsN (N : Nat) (w : World) (v : Value) (fs : List (List Int)) : Prop :=
  ∃ (a : Option Addr) (cap : Nat), v = .slice a fs.length cap ∧ fs.length ≤ maxLen ∧ (∀ l ∈ fs, l.length = N ∧ ∀ z ∈ l, -9223372036854775808 ≤ z ∧ z ≤ 9223372036854775807) ∧ ∀ k, k < fs.length → ∃ g off, a = some ⟨g, off, none⟩ ∧ ∀ j, j < N → w.cell? ⟨g, off + k * N + j, none⟩ = some (.int .i64 ((fs.getD k []).getD j 0))
section
variable {H : Type} {enc : TypeId × Value → H} {w : World} {base : Nat} {spare : Nat → Bool} {held : Bool}

theorem fieldsN {P : Program} {e I : TypeId} {fs : Array Field} {N fuel : Nat} {cs : List Value} {x : DataW H × List MemPlace} (he : P.underlying e = some (.struct fs)) (hone : oneCellFields P fs = true) (hC : P.cellsOf e = N) (hN : fs.size = N)
    (hall : fs.all (fun f => f.type == I) = true) (hI : P.underlying I = some (.int .i64)) {a : Addr} {i : Nat} (hc : w.cells? base (a.add (i * P.cellsOf e)) (P.cellsOf e) = some cs) (h : DataW.trod enc P w base spare held fuel e cs = some x) :
    ∃ l : List Int, (l.length = N ∧ ∀ z ∈ l, -9223372036854775808 ≤ z ∧ z ≤ 9223372036854775807) ∧ ∀ j, j < N → w.cell? (a.add (i * N + j)) = some (.int .i64 (l.getD j 0)) := by
  rw [hC] at hc
  obtain ⟨_, hcl, hat⟩ := World.cells?_some hc
  have hcc := cells_ints (cs := cs) he hone (by omega) hall hI h
  have hq : ∀ j, j < N → ∃ n : Int, cs[j]? = some (.int .i64 n) ∧ -9223372036854775808 ≤ n ∧ n ≤ 9223372036854775807 := fun j hj => hcc j (by omega)
  obtain ⟨f, hf⟩ := choose_lt hq
  refine ⟨(List.range N).map f, ⟨by simp, fun z hz => ?_⟩, fun j hj => ?_⟩
  · obtain ⟨j, hj, rfl⟩ := List.mem_map.1 hz
    exact (hf j (List.mem_range.1 hj)).2
  · have z0 := hat j (by omega)
    rw [Go.Deep.add_add] at z0
    have e1 : ((List.range N).map f).getD j 0 = f j := by
      rw [List.getD_eq_getElem?_getD, List.getElem?_map, List.getElem?_range hj]; rfl
    rw [e1]
    exact z0.trans (hf j hj).1
theorem open_rowsN {P : Program} {t e I : TypeId} {fs : Array Field} {N : Nat} {a : Option Addr} {len cap : Nat} {d : DataW H} {p : List MemPlace} (h0N : 0 < N) (ht : P.underlying t = some (.slice e)) (he : P.underlying e = some (.struct fs)) (hone : oneCellFields P fs = true) (hC : P.cellsOf e = N) (hN : fs.size = N)
    (hall : fs.all (fun f => f.type == I) = true) (hI : P.underlying I = some (.int .i64)) (h : DataW.Trod enc P w base (fun _ => true) held t (.slice a len cap) d p) : ∃ ps, ReadsN N w (.slice a len cap) ps := by
  obtain ⟨fuel, h⟩ := h
  rcases open_slice ht h with ⟨h0, -⟩ | ⟨x, l, c, m, n, D, Pl, hcs, hb, hl, hm, hmm, hx, hi⟩
  · simp [Value.cells] at h0
    obtain ⟨rfl, rfl, rfl⟩ := h0
    exact ⟨[], none, 0, rfl, Nat.zero_le _, (fun l hl => by cases hl), fun k hk => by simp at hk⟩
  · simp [Value.cells] at hcs
    obtain ⟨rfl, rfl, rfl⟩ := hcs
    simp only [if_true] at hmm
    have hq : ∀ i, i < len → ∃ l : List Int, (l.length = N ∧ ∀ z ∈ l, -9223372036854775808 ≤ z ∧ z ≤ 9223372036854775807) ∧ ∀ j, j < N → w.cell? (x.add (i * N + j)) = some (.int .i64 (l.getD j 0)) := fun i him => by
      obtain ⟨cs', hc, ht'⟩ := hi i (by omega)
      exact fieldsN he hone hC hN hall hI hc ht'
    obtain ⟨f, hf⟩ := choose_lt hq
    have hlen : ((List.range len).map f).length = len := by simp
    refine ⟨(List.range len).map f, some x, cap, by rw [hlen], by rw [hlen]; omega, fun l hl' => ?_, fun k hk => ?_⟩
    · obtain ⟨i, hi', rfl⟩ := List.mem_map.1 hl'
      exact (hf i (List.mem_range.1 hi')).1
    · rw [hlen] at hk
      have h1 := (hf k hk).2
      obtain ⟨b, off, spot⟩ := x
      have hspot : spot = none := by
        have h2 := World.cell?_spot ((hf 0 (by omega)).2 0 h0N)
        simpa [Addr.add] using h2
      subst hspot
      refine ⟨b, off, rfl, fun j hj => ?_⟩
      have eg : ((List.range len).map f).getD k [] = f k := by
        rw [List.getD_eq_getElem?_getD, List.getElem?_map, List.getElem?_range hk]; rfl
      have h2 := h1 j hj
      rw [Go.WideShapes.add_plain, ← Nat.add_assoc] at h2
      rw [eg]
      exact h2
theorem open_rowsF {P : Program} {t e I : TypeId} {fs : Array Field} {a : Option Addr} {len cap : Nat} {d : DataW H} {p : List MemPlace} (ht : P.underlying t = some (.slice e)) (he : P.underlying e = some (.struct fs)) (hone : oneCellFields P fs = true) (hC : P.cellsOf e = 10) (hN : fs.size = 10)
    (hall : fs.all (fun f => f.type == I) = true) (hI : P.underlying I = some (.int .i64)) (h : DataW.Trod enc P w base (fun _ => true) held t (.slice a len cap) d p) : ∃ ps, ReadsF w (.slice a len cap) ps := by
  obtain ⟨ps, a', cap', e1, hm, hb, hc⟩ := open_rowsN (N := 10) (by decide) ht he hone hC hN hall hI h
  refine ⟨ps, a', cap', e1, hm, fun l hl j hj => ?_, hc⟩
  obtain ⟨h1, h2⟩ := hb l hl
  refine h2 _ ?_
  rw [List.getD_eq_getElem?_getD, List.getElem?_eq_getElem (show j < l.length by omega)]
  simp
end

end Go.Proofs.Ytagmgpdgiphhbaa
