/-
  Merged: OpenF, OpenG, OpenP.
-/
import Derived.Test.YtgccipmeiceonaaKept
import Derived.Deep.Slices
import Derived.Deep.Fields
import Derived.ChangeSame
import Derived.Lib.SmallJoins
import Derived.Test.YtgccipmeiceonaaMk11
import Derived.Test.YtgccipmeiceonaaTrip
-- OpenF
namespace Go.Proofs.Ytgccipmeiceonaa
open Go.RowKit Go.ChangeShapes Go.WideShapes Go.Deep Go.Joins
set_option linter.unusedVariables false

section
variable {H : Type} {enc : TypeId × Value → H} {w : World} {base : Nat} {spare : Nat → Bool} {held : Bool}

def intIn : Value → Int
  | .int _ n => n
  | _ => 0
/-- each of the cells is an int -/
theorem cells_ints {P : Program} {e I : TypeId} {fs : Array Field} {fuel : Nat} {cs : List Value} {x : DataW H × List MemPlace} (he : P.underlying e = some (.struct fs)) (hone : oneCellFields P fs = true) (hl : cs.length = fs.size)
    (hall : fs.all (fun f => f.type == I) = true) (hI : P.underlying I = some (.int .i64)) (h : DataW.trod enc P w base spare held fuel e cs = some x) :
    ∀ j, j < fs.size → ∃ n, cs[j]? = some (.int .i64 n) ∧ -9223372036854775808 ≤ n ∧ n ≤ 9223372036854775807 := by
  obtain ⟨ys, n', _, _, hlen, hyl, hf⟩ := DataW.trod_struct he h
  intro j hj
  have hfj : fs[j]? = some fs[j] := Array.getElem?_eq_getElem hj
  obtain ⟨ho, hk⟩ := hone_of hone j fs[j] hfj
  have h1 := hf j fs[j] hfj
  rw [ho, hk] at h1
  have hone' : (cs.drop j).take 1 = [cs[j]'(by omega)] := by
    rw [List.drop_eq_getElem_cons (by omega)]
    rfl
  rw [hone'] at h1
  have hys : ys[j]? = some (ys[j]'(by omega)) := List.getElem?_eq_getElem (by omega)
  have ht : P.underlying fs[j].type = some (.int .i64) := by
    have := Array.all_eq_true_iff_forall_mem.1 hall fs[j] (Array.getElem_mem hj)
    rw [beq_iff_eq] at this
    rw [this]; exact hI
  obtain ⟨n0, e0, -, w0⟩ := DataW.trod_int ht (h1.trans hys)
  simp at e0
  exact ⟨n0, by rw [List.getElem?_eq_getElem (by omega), e0], wf_i64 w0⟩
theorem open_aggI {P : Program} {r : Reach} {b0 : Nat} {t I : TypeId} {fs : Array Field} {v : Value} {d : DataW H} {p : List MemPlace} (hs : P.underlying t = some (.struct fs)) (hone : oneCellFields P fs = true) (hC : P.cellsOf t = fs.size)
    (hall : fs.all (fun f => f.type == I) = true) (hI : P.underlying I = some (.int .i64)) (hv : Value.okWide P w r b0 t v) (h : DataW.Trod enc P w base spare held t v d p) :
    ∃ zs : List Int, zs.length = fs.size ∧ v = .agg (zs.map (Value.int .i64)).toArray ∧ ∀ z ∈ zs, -9223372036854775808 ≤ z ∧ z ≤ 9223372036854775807 := by
  obtain ⟨cs, rfl, hsz⟩ := okWide_struct hs hv
  obtain ⟨fuel, hf⟩ := h
  have hl : cs.toList.length = fs.size := by rw [Array.length_toList]; omega
  have hc := cells_ints (cs := cs.toList) hs hone hl hall hI (by simpa [Value.cells] using hf)
  refine ⟨cs.toList.map intIn, by rw [List.length_map, hl], ?_, ?_⟩
  · congr 1
    apply Array.ext
    · simp
    · intro j h1 h2
      obtain ⟨n, e, _⟩ := hc j (by omega)
      rw [Array.getElem?_toList, Array.getElem?_eq_getElem h1] at e
      have e := Option.some.inj e
      simp [e, intIn]
  · intro z hz
    obtain ⟨u, hu, rfl⟩ := List.mem_map.1 hz
    obtain ⟨j, hj, e⟩ := List.mem_iff_getElem.1 hu
    obtain ⟨n, e2, hb⟩ := hc j (by omega)
    rw [List.getElem?_eq_getElem hj, e] at e2
    have e2 := Option.some.inj e2
    rw [e2]; exact hb
end

end Go.Proofs.Ytgccipmeiceonaa

-- OpenG
namespace Go.Proofs.Ytgccipmeiceonaa
open Go.RowKit Go.ChangeShapes Go.WideShapes Go.Deep Go.Joins
set_option linter.unusedVariables false

/-- the slice value v reads as these elements of N ints -/
def ReadsN (N : Nat) (w : World) (v : Value) (fs : List (List Int)) : Prop :=
  ∃ (a : Option Addr) (cap : Nat), v = .slice a fs.length cap ∧ fs.length ≤ maxLen ∧ (∀ l ∈ fs, l.length = N ∧ ∀ z ∈ l, -9223372036854775808 ≤ z ∧ z ≤ 9223372036854775807) ∧ ∀ k, k < fs.length → ∃ g off, a = some ⟨g, off, none⟩ ∧ ∀ j, j < N → w.cell? ⟨g, off + k * N + j, none⟩ = some (.int .i64 ((fs.getD k []).getD j 0))
section
variable {H : Type} {enc : TypeId × Value → H} {w : World} {base : Nat} {spare : Nat → Bool} {held : Bool}

theorem fieldsN {P : Program} {e I : TypeId} {fs : Array Field} {N fuel : Nat} {cs : List Value} {x : DataW H × List MemPlace} (he : P.underlying e = some (.struct fs)) (hone : oneCellFields P fs = true) (hC : P.cellsOf e = N) (hN : fs.size = N)
    (hall : fs.all (fun f => f.type == I) = true) (hI : P.underlying I = some (.int .i64)) {a : Addr} {i : Nat} (hc : w.cells? base (a.add (i * P.cellsOf e)) (P.cellsOf e) = some cs) (h : DataW.trod enc P w base spare held fuel e cs = some x) :
    ∃ l : List Int, (l.length = N ∧ ∀ z ∈ l, -9223372036854775808 ≤ z ∧ z ≤ 9223372036854775807) ∧ ∀ j, j < N → w.cell? (a.add (i * N + j)) = some (.int .i64 (l.getD j 0)) := by
  rw [hC] at hc
  obtain ⟨_, hcl, hat⟩ := World.cells?_some hc
  have hcc := cells_ints (cs := cs) he hone (by omega) hall hI h
  have hq : ∀ j, j < N → ∃ n : Int, cs[j]? = some (.int .i64 n) ∧ -9223372036854775808 ≤ n ∧ n ≤ 9223372036854775807 := fun j hj => hcc j (by omega)
  obtain ⟨f, hf⟩ := choose_lt hq
  refine ⟨(List.range N).map f, ⟨by simp, fun z hz => ?_⟩, fun j hj => ?_⟩
  · obtain ⟨j, hj, rfl⟩ := List.mem_map.1 hz
    exact (hf j (List.mem_range.1 hj)).2
  · have z0 := hat j (by omega)
    rw [Go.Deep.add_add] at z0
    have e1 : ((List.range N).map f).getD j 0 = f j := by
      rw [List.getD_eq_getElem?_getD, List.getElem?_map, List.getElem?_range hj]; rfl
    rw [e1]
    exact z0.trans (hf j hj).1
theorem open_rowsN {P : Program} {t e I : TypeId} {fs : Array Field} {N : Nat} {a : Option Addr} {len cap : Nat} {d : DataW H} {p : List MemPlace} (h0N : 0 < N) (ht : P.underlying t = some (.slice e)) (he : P.underlying e = some (.struct fs)) (hone : oneCellFields P fs = true) (hC : P.cellsOf e = N) (hN : fs.size = N)
    (hall : fs.all (fun f => f.type == I) = true) (hI : P.underlying I = some (.int .i64)) (h : DataW.Trod enc P w base (fun _ => true) held t (.slice a len cap) d p) : ∃ ps, ReadsN N w (.slice a len cap) ps := by
  obtain ⟨fuel, h⟩ := h
  rcases open_slice ht h with ⟨h0, -⟩ | ⟨x, l, c, m, n, D, Pl, hcs, hb, hl, hm, hmm, hx, hi⟩
  · simp [Value.cells] at h0
    obtain ⟨rfl, rfl, rfl⟩ := h0
    exact ⟨[], none, 0, rfl, Nat.zero_le _, (fun l hl => by cases hl), fun k hk => by simp at hk⟩
  · simp [Value.cells] at hcs
    obtain ⟨rfl, rfl, rfl⟩ := hcs
    simp only [if_true] at hmm
    have hq : ∀ i, i < len → ∃ l : List Int, (l.length = N ∧ ∀ z ∈ l, -9223372036854775808 ≤ z ∧ z ≤ 9223372036854775807) ∧ ∀ j, j < N → w.cell? (x.add (i * N + j)) = some (.int .i64 (l.getD j 0)) := fun i him => by
      obtain ⟨cs', hc, ht'⟩ := hi i (by omega)
      exact fieldsN he hone hC hN hall hI hc ht'
    obtain ⟨f, hf⟩ := choose_lt hq
    have hlen : ((List.range len).map f).length = len := by simp
    refine ⟨(List.range len).map f, some x, cap, by rw [hlen], by rw [hlen]; omega, fun l hl' => ?_, fun k hk => ?_⟩
    · obtain ⟨i, hi', rfl⟩ := List.mem_map.1 hl'
      exact (hf i (List.mem_range.1 hi')).1
    · rw [hlen] at hk
      have h1 := (hf k hk).2
      obtain ⟨b, off, spot⟩ := x
      have hspot : spot = none := by
        have h2 := World.cell?_spot ((hf 0 (by omega)).2 0 h0N)
        simpa [Addr.add] using h2
      subst hspot
      refine ⟨b, off, rfl, fun j hj => ?_⟩
      have eg : ((List.range len).map f).getD k [] = f k := by
        rw [List.getD_eq_getElem?_getD, List.getElem?_map, List.getElem?_range hk]; rfl
      have h2 := h1 j hj
      rw [Go.WideShapes.add_plain, ← Nat.add_assoc] at h2
      rw [eg]
      exact h2
theorem open_rowsF {P : Program} {t e I : TypeId} {fs : Array Field} {a : Option Addr} {len cap : Nat} {d : DataW H} {p : List MemPlace} (ht : P.underlying t = some (.slice e)) (he : P.underlying e = some (.struct fs)) (hone : oneCellFields P fs = true) (hC : P.cellsOf e = 10) (hN : fs.size = 10)
    (hall : fs.all (fun f => f.type == I) = true) (hI : P.underlying I = some (.int .i64)) (h : DataW.Trod enc P w base (fun _ => true) held t (.slice a len cap) d p) : ∃ ps, ReadsF w (.slice a len cap) ps := by
  obtain ⟨ps, a', cap', e1, hm, hb, hc⟩ := open_rowsN (N := 10) (by decide) ht he hone hC hN hall hI h
  refine ⟨ps, a', cap', e1, hm, fun l hl j hj => ?_, hc⟩
  obtain ⟨h1, h2⟩ := hb l hl
  refine h2 _ ?_
  rw [List.getD_eq_getElem?_getD, List.getElem?_eq_getElem (show j < l.length by omega)]
  simp
end

end Go.Proofs.Ytgccipmeiceonaa

-- OpenP
namespace Go.Proofs.Ytgccipmeiceonaa
open Go.RowKit Go.ChangeShapes Go.WideShapes Go.Deep
set_option linter.unusedVariables false

section
variable {H : Type} {enc : TypeId × Value → H} {w : World} {base : Nat} {spare : Nat → Bool} {held : Bool}

theorem fields_three {P : Program} {e : TypeId} {f0 f1 f2 : Field} {fuel : Nat} {cs : List Value} {x : DataW H × List MemPlace} (he : P.underlying e = some (.struct #[f0, f1, f2])) (hone : oneCellFields P #[f0, f1, f2] = true) (hC : P.cellsOf e = 3)
    (t0 : P.underlying f0.type = some (.int .i64)) (t1 : P.underlying f1.type = some (.int .i64)) (t2 : P.underlying f2.type = some (.int .i64)) {a : Addr} {i : Nat} (hc : w.cells? base (a.add (i * P.cellsOf e)) (P.cellsOf e) = some cs) (h : DataW.trod enc P w base spare held fuel e cs = some x) :
    ∃ p : Int × Int × Int, (w.cell? (a.add (i * 3)) = some (.int .i64 p.1) ∧ w.cell? (a.add (i * 3 + 1)) = some (.int .i64 p.2.1) ∧ w.cell? (a.add (i * 3 + 2)) = some (.int .i64 p.2.2)) ∧
      (-9223372036854775808 ≤ p.1 ∧ p.1 ≤ 9223372036854775807) ∧ (-9223372036854775808 ≤ p.2.1 ∧ p.2.1 ≤ 9223372036854775807) ∧ -9223372036854775808 ≤ p.2.2 ∧ p.2.2 ≤ 9223372036854775807 := by
  rw [hC] at hc
  obtain ⟨ys, n', _, _, hlen, hyl, hf⟩ := DataW.trod_struct he h
  have hy : ∀ j, j < 3 → ∃ y, ys[j]? = some y := fun j hj => ⟨_, List.getElem?_eq_getElem (show j < ys.length by rw [hyl]; exact hj)⟩
  obtain ⟨y0, q0⟩ := hy 0 (by omega)
  obtain ⟨y1, q1⟩ := hy 1 (by omega)
  obtain ⟨y2, q2⟩ := hy 2 (by omega)
  obtain ⟨_, hcl, hat⟩ := World.cells?_some hc
  match cs, hcl with
  | [c0, c1, c2], _ =>
    obtain ⟨o0, k0⟩ := hone_of hone 0 f0 rfl
    obtain ⟨o1, k1⟩ := hone_of hone 1 f1 rfl
    obtain ⟨o2, k2⟩ := hone_of hone 2 f2 rfl
    have g0 := hf 0 f0 rfl
    have g1 := hf 1 f1 rfl
    have g2 := hf 2 f2 rfl
    rw [o0, k0, q0] at g0
    rw [o1, k1, q1] at g1
    rw [o2, k2, q2] at g2
    obtain ⟨n0, e0, -, w0⟩ := DataW.trod_int t0 g0
    obtain ⟨n1, e1, -, w1⟩ := DataW.trod_int t1 g1
    obtain ⟨n2, e2, -, w2⟩ := DataW.trod_int t2 g2
    have z0 := hat 0 (by omega)
    have z1 := hat 1 (by omega)
    have z2 := hat 2 (by omega)
    simp at e0 e1 e2
    subst e0; subst e1; subst e2
    rw [Go.Deep.add_add] at z0 z1 z2
    exact ⟨(n0, n1, n2), ⟨z0, z1, z2⟩, wf_i64 w0, wf_i64 w1, wf_i64 w2⟩

theorem open_rows {P : Program} {t e : TypeId} {f0 f1 f2 : Field} {a : Option Addr} {len cap : Nat} {d : DataW H} {p : List MemPlace} (ht : P.underlying t = some (.slice e)) (he : P.underlying e = some (.struct #[f0, f1, f2])) (hone : oneCellFields P #[f0, f1, f2] = true) (hC : P.cellsOf e = 3)
    (t0 : P.underlying f0.type = some (.int .i64)) (t1 : P.underlying f1.type = some (.int .i64)) (t2 : P.underlying f2.type = some (.int .i64)) (h : DataW.Trod enc P w base (fun _ => true) held t (.slice a len cap) d p) : ∃ ps, ReadsP w (.slice a len cap) ps := by
  obtain ⟨fuel, h⟩ := h
  rcases open_slice ht h with ⟨h0, -⟩ | ⟨x, l, c, m, n, D, Pl, hcs, hb, hl, hm, hmm, hx, hi⟩
  · simp [Value.cells] at h0
    obtain ⟨rfl, rfl, rfl⟩ := h0
    exact ⟨[], readsP_nil w none 0 fun _ => rfl⟩
  · simp [Value.cells] at hcs
    obtain ⟨rfl, rfl, rfl⟩ := hcs
    simp only [if_true] at hmm
    have hq : ∀ i, i < len → ∃ p : Int × Int × Int, (w.cell? (x.add (i * 3)) = some (.int .i64 p.1) ∧ w.cell? (x.add (i * 3 + 1)) = some (.int .i64 p.2.1) ∧ w.cell? (x.add (i * 3 + 2)) = some (.int .i64 p.2.2)) ∧
        (-9223372036854775808 ≤ p.1 ∧ p.1 ≤ 9223372036854775807) ∧ (-9223372036854775808 ≤ p.2.1 ∧ p.2.1 ≤ 9223372036854775807) ∧ -9223372036854775808 ≤ p.2.2 ∧ p.2.2 ≤ 9223372036854775807 := fun i him => by
      obtain ⟨cs', hc, ht'⟩ := hi i (by omega)
      exact fields_three he hone hC t0 t1 t2 hc ht'
    obtain ⟨f, hf⟩ := choose_lt hq
    have hlen : ((List.range len).map f).length = len := by simp
    refine ⟨(List.range len).map f, some x, cap, by rw [hlen], (fun e => by cases e), by rw [hlen]; omega, fun p hp => ?_, fun j hj => ?_⟩
    · obtain ⟨i, hi', rfl⟩ := List.mem_map.1 hp
      exact (hf i (List.mem_range.1 hi')).2
    · rw [hlen] at hj
      have h1 := (hf j hj).1
      obtain ⟨b, off, spot⟩ := x
      have hspot : spot = none := by
        have h2 := World.cell?_spot (hf 0 (by omega)).1.1
        simpa [Addr.add] using h2
      subst hspot
      refine ⟨b, off, rfl, ?_⟩
      have eg : ((List.range len).map f).getD j default = f j := by
        rw [List.getD_eq_getElem?_getD, List.getElem?_map, List.getElem?_range hj]; rfl
      rw [eg]
      rw [Go.WideShapes.add_plain, Go.WideShapes.add_plain, Go.WideShapes.add_plain] at h1
      exact h1
theorem open_cap {P : Program} {t e : TypeId} {a : Option Addr} {len cap : Nat} {d : DataW H} {p : List MemPlace} (ht : P.underlying t = some (.slice e)) (h : DataW.Trod enc P w base (fun _ => true) held t (.slice a len cap) d p) : len ≤ cap ∧ cap ≤ maxLen := by
  obtain ⟨fuel, h⟩ := h
  rcases open_slice ht h with ⟨h0, -⟩ | ⟨x, l, c, m, n, D, Pl, hcs, hb, hl, hm, hmm, hx, hi⟩
  · simp [Value.cells] at h0
    obtain ⟨rfl, rfl, rfl⟩ := h0
    exact ⟨Nat.le_refl _, Nat.zero_le _⟩
  · simp [Value.cells] at hcs
    obtain ⟨rfl, rfl, rfl⟩ := hcs
    exact ⟨hl, hm⟩
theorem open_nil {P : Program} {t e : TypeId} {a : Option Addr} {len cap : Nat} {d : DataW H} {p : List MemPlace} (ht : P.underlying t = some (.slice e)) (h : DataW.Trod enc P w base (fun _ => true) held t (.slice a len cap) d p) : a = none → cap = 0 := by
  obtain ⟨fuel, h⟩ := h
  rcases open_slice ht h with ⟨h0, -⟩ | ⟨x, l, c, m, n, D, Pl, hcs, hb, hl, hm, hmm, hx, hi⟩
  · simp [Value.cells] at h0
    obtain ⟨rfl, rfl, rfl⟩ := h0
    exact fun _ => rfl
  · simp [Value.cells] at hcs
    obtain ⟨rfl, rfl, rfl⟩ := hcs
    exact fun e => by cases e
end

end Go.Proofs.Ytgccipmeiceonaa
