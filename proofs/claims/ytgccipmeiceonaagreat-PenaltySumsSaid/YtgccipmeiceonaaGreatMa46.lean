/-
  Merged: OpenP.
-/
import Derived.Test.YtgccipmeiceonaaGreatMa5
import Derived.Test.YtgccipmeiceonaaGreatMa2
import Derived.Deep.Slices
import Derived.Deep.Fields
import Derived.ChangeSame
-- OpenP
namespace Go.Proofs.YtgccipmeiceonaaGreat
open Go.RowKit Go.ChangeShapes Go.WideShapes Go.Deep
set_option linter.unusedVariables false

section
variable {H : Type} {enc : TypeId × Value → H} {w : World} {base : Nat} {spare : Nat → Bool} {held : Bool}

theorem fields_three {P : Program} {e : TypeId} {f0 f1 f2 : Field} {fuel : Nat} {cs : List Value} {x : DataW H × List MemPlace} (he : P.underlying e = some (.struct #[f0, f1, f2])) (hone : oneCellFields P #[f0, f1, f2] = true) (hC : P.cellsOf e = 3)
    (t0 : P.underlying f0.type = some (.int .i64)) (t1 : P.underlying f1.type = some (.int .i64)) (t2 : P.underlying f2.type = some (.int .i64)) {a : Addr} {i : Nat} (hc : w.cells? base (a.add (i * P.cellsOf e)) (P.cellsOf e) = some cs) (h : DataW.trod enc P w base spare held fuel e cs = some x) :
    ∃ p : Int × Int × Int, (w.cell? (a.add (i * 3)) = some (.int .i64 p.1) ∧ w.cell? (a.add (i * 3 + 1)) = some (.int .i64 p.2.1) ∧ w.cell? (a.add (i * 3 + 2)) = some (.int .i64 p.2.2)) ∧
      (-9223372036854775808 ≤ p.1 ∧ p.1 ≤ 9223372036854775807) ∧ (-9223372036854775808 ≤ p.2.1 ∧ p.2.1 ≤ 9223372036854775807) ∧ -9223372036854775808 ≤ p.2.2 ∧ p.2.2 ≤ 9223372036854775807 := by
  rw [hC] at hc
  obtain ⟨ys, n', _, _, hlen, hyl, hf⟩ := DataW.trod_struct he h
  have hy : ∀ j, j < 3 → ∃ y, ys[j]? = some y := fun j hj => ⟨_, List.getElem?_eq_getElem (show j < ys.length by rw [hyl]; exact hj)⟩
  obtain ⟨y0, q0⟩ := hy 0 (by omega)
  obtain ⟨y1, q1⟩ := hy 1 (by omega)
  obtain ⟨y2, q2⟩ := hy 2 (by omega)
  obtain ⟨_, hcl, hat⟩ := World.cells?_some hc
  match cs, hcl with
  | [c0, c1, c2], _ =>
    obtain ⟨o0, k0⟩ := hone_of hone 0 f0 rfl
    obtain ⟨o1, k1⟩ := hone_of hone 1 f1 rfl
    obtain ⟨o2, k2⟩ := hone_of hone 2 f2 rfl
    have g0 := hf 0 f0 rfl
    have g1 := hf 1 f1 rfl
    have g2 := hf 2 f2 rfl
    rw [o0, k0, q0] at g0
    rw [o1, k1, q1] at g1
    rw [o2, k2, q2] at g2
    obtain ⟨n0, e0, -, w0⟩ := DataW.trod_int t0 g0
    obtain ⟨n1, e1, -, w1⟩ := DataW.trod_int t1 g1
    obtain ⟨n2, e2, -, w2⟩ := DataW.trod_int t2 g2
    have z0 := hat 0 (by omega)
    have z1 := hat 1 (by omega)
    have z2 := hat 2 (by omega)
    simp at e0 e1 e2
    subst e0; subst e1; subst e2
    rw [Go.Deep.add_add] at z0 z1 z2
    exact ⟨(n0, n1, n2), ⟨z0, z1, z2⟩, wf_i64 w0, wf_i64 w1, wf_i64 w2⟩

theorem open_rows {P : Program} {t e : TypeId} {f0 f1 f2 : Field} {a : Option Addr} {len cap : Nat} {d : DataW H} {p : List MemPlace} (ht : P.underlying t = some (.slice e)) (he : P.underlying e = some (.struct #[f0, f1, f2])) (hone : oneCellFields P #[f0, f1, f2] = true) (hC : P.cellsOf e = 3)
    (t0 : P.underlying f0.type = some (.int .i64)) (t1 : P.underlying f1.type = some (.int .i64)) (t2 : P.underlying f2.type = some (.int .i64)) (h : DataW.Trod enc P w base (fun _ => true) held t (.slice a len cap) d p) : ∃ ps, ReadsP w (.slice a len cap) ps := by
  obtain ⟨fuel, h⟩ := h
  rcases open_slice ht h with ⟨h0, -⟩ | ⟨x, l, c, m, n, D, Pl, hcs, hb, hl, hm, hmm, hx, hi⟩
  · simp [Value.cells] at h0
    obtain ⟨rfl, rfl, rfl⟩ := h0
    exact ⟨[], readsP_nil w none 0 fun _ => rfl⟩
  · simp [Value.cells] at hcs
    obtain ⟨rfl, rfl, rfl⟩ := hcs
    simp only [if_true] at hmm
    have hq : ∀ i, i < len → ∃ p : Int × Int × Int, (w.cell? (x.add (i * 3)) = some (.int .i64 p.1) ∧ w.cell? (x.add (i * 3 + 1)) = some (.int .i64 p.2.1) ∧ w.cell? (x.add (i * 3 + 2)) = some (.int .i64 p.2.2)) ∧
        (-9223372036854775808 ≤ p.1 ∧ p.1 ≤ 9223372036854775807) ∧ (-9223372036854775808 ≤ p.2.1 ∧ p.2.1 ≤ 9223372036854775807) ∧ -9223372036854775808 ≤ p.2.2 ∧ p.2.2 ≤ 9223372036854775807 := fun i him => by
      obtain ⟨cs', hc, ht'⟩ := hi i (by omega)
      exact fields_three he hone hC t0 t1 t2 hc ht'
    obtain ⟨f, hf⟩ := choose_lt hq
    have hlen : ((List.range len).map f).length = len := by simp
    refine ⟨(List.range len).map f, some x, cap, by rw [hlen], (fun e => by cases e), by rw [hlen]; omega, fun p hp => ?_, fun j hj => ?_⟩
    · obtain ⟨i, hi', rfl⟩ := List.mem_map.1 hp
      exact (hf i (List.mem_range.1 hi')).2
    · rw [hlen] at hj
      have h1 := (hf j hj).1
      obtain ⟨b, off, spot⟩ := x
      have hspot : spot = none := by
        have h2 := World.cell?_spot (hf 0 (by omega)).1.1
        simpa [Addr.add] using h2
      subst hspot
      refine ⟨b, off, rfl, ?_⟩
      have eg : ((List.range len).map f).getD j default = f j := by
        rw [List.getD_eq_getElem?_getD, List.getElem?_map, List.getElem?_range hj]; rfl
      rw [eg]
      rw [Go.WideShapes.add_plain, Go.WideShapes.add_plain, Go.WideShapes.add_plain] at h1
      exact h1
theorem open_cap {P : Program} {t e : TypeId} {a : Option Addr} {len cap : Nat} {d : DataW H} {p : List MemPlace} (ht : P.underlying t = some (.slice e)) (h : DataW.Trod enc P w base (fun _ => true) held t (.slice a len cap) d p) : len ≤ cap ∧ cap ≤ maxLen := by
  obtain ⟨fuel, h⟩ := h
  rcases open_slice ht h with ⟨h0, -⟩ | ⟨x, l, c, m, n, D, Pl, hcs, hb, hl, hm, hmm, hx, hi⟩
  · simp [Value.cells] at h0
    obtain ⟨rfl, rfl, rfl⟩ := h0
    exact ⟨Nat.le_refl _, Nat.zero_le _⟩
  · simp [Value.cells] at hcs
    obtain ⟨rfl, rfl, rfl⟩ := hcs
    exact ⟨hl, hm⟩
theorem open_nil {P : Program} {t e : TypeId} {a : Option Addr} {len cap : Nat} {d : DataW H} {p : List MemPlace} (ht : P.underlying t = some (.slice e)) (h : DataW.Trod enc P w base (fun _ => true) held t (.slice a len cap) d p) : a = none → cap = 0 := by
  obtain ⟨fuel, h⟩ := h
  rcases open_slice ht h with ⟨h0, -⟩ | ⟨x, l, c, m, n, D, Pl, hcs, hb, hl, hm, hmm, hx, hi⟩
  · simp [Value.cells] at h0
    obtain ⟨rfl, rfl, rfl⟩ := h0
    exact fun _ => rfl
  · simp [Value.cells] at hcs
    obtain ⟨rfl, rfl, rfl⟩ := hcs
    exact fun e => by cases e
end

end Go.Proofs.YtgccipmeiceonaaGreat
