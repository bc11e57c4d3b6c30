/-
  An argument that is a struct of ints, or a slice of such, reads as a list of ints, or a list of such lists.
-/
import Derived.Test.YtgccipmeiceonaaKept
import Derived.Deep.Slices
import Derived.Deep.Fields
import Derived.ChangeSame
import Derived.Lib.SmallJoins
namespace Go.Proofs.Ytgccipmeiceonaa
open Go.RowKit Go.ChangeShapes Go.WideShapes Go.Deep Go.Joins
set_option linter.unusedVariables false

section
variable {H : Type} {enc : TypeId × Value → H} {w : World} {base : Nat} {spare : Nat → Bool} {held : Bool}

def intIn : Value → Int
  | .int _ n => n
  | _ => 0
/-- each of the cells is an int -/
theorem cells_ints {P : Program} {e I : TypeId} {fs : Array Field} {fuel : Nat} {cs : List Value} {x : DataW H × List MemPlace} (he : P.underlying e = some (.struct fs)) (hone : oneCellFields P fs = true) (hl : cs.length = fs.size)
    (hall : fs.all (fun f => f.type == I) = true) (hI : P.underlying I = some (.int .i64)) (h : DataW.trod enc P w base spare held fuel e cs = some x) :
    ∀ j, j < fs.size → ∃ n, cs[j]? = some (.int .i64 n) ∧ -9223372036854775808 ≤ n ∧ n ≤ 9223372036854775807 := by
  obtain ⟨ys, n', _, _, hlen, hyl, hf⟩ := DataW.trod_struct he h
  intro j hj
  have hfj : fs[j]? = some fs[j] := Array.getElem?_eq_getElem hj
  obtain ⟨ho, hk⟩ := hone_of hone j fs[j] hfj
  have h1 := hf j fs[j] hfj
  rw [ho, hk] at h1
  have hone' : (cs.drop j).take 1 = [cs[j]'(by omega)] := by
    rw [List.drop_eq_getElem_cons (by omega)]
    rfl
  rw [hone'] at h1
  have hys : ys[j]? = some (ys[j]'(by omega)) := List.getElem?_eq_getElem (by omega)
  have ht : P.underlying fs[j].type = some (.int .i64) := by
    have := Array.all_eq_true_iff_forall_mem.1 hall fs[j] (Array.getElem_mem hj)
    rw [beq_iff_eq] at this
    rw [this]; exact hI
  obtain ⟨n0, e0, -, w0⟩ := DataW.trod_int ht (h1.trans hys)
  simp at e0
  exact ⟨n0, by rw [List.getElem?_eq_getElem (by omega), e0], wf_i64 w0⟩
theorem open_aggI {P : Program} {r : Reach} {b0 : Nat} {t I : TypeId} {fs : Array Field} {v : Value} {d : DataW H} {p : List MemPlace} (hs : P.underlying t = some (.struct fs)) (hone : oneCellFields P fs = true) (hC : P.cellsOf t = fs.size)
    (hall : fs.all (fun f => f.type == I) = true) (hI : P.underlying I = some (.int .i64)) (hv : Value.okWide P w r b0 t v) (h : DataW.Trod enc P w base spare held t v d p) :
    ∃ zs : List Int, zs.length = fs.size ∧ v = .agg (zs.map (Value.int .i64)).toArray ∧ ∀ z ∈ zs, -9223372036854775808 ≤ z ∧ z ≤ 9223372036854775807 := by
  obtain ⟨cs, rfl, hsz⟩ := okWide_struct hs hv
  obtain ⟨fuel, hf⟩ := h
  have hl : cs.toList.length = fs.size := by rw [Array.length_toList]; omega
  have hc := cells_ints (cs := cs.toList) hs hone hl hall hI (by simpa [Value.cells] using hf)
  refine ⟨cs.toList.map intIn, by rw [List.length_map, hl], ?_, ?_⟩
  · congr 1
    apply Array.ext
    · simp
    · intro j h1 h2
      obtain ⟨n, e, _⟩ := hc j (by omega)
      rw [Array.getElem?_toList, Array.getElem?_eq_getElem h1] at e
      have e := Option.some.inj e
      simp [e, intIn]
  · intro z hz
    obtain ⟨u, hu, rfl⟩ := List.mem_map.1 hz
    obtain ⟨j, hj, e⟩ := List.mem_iff_getElem.1 hu
    obtain ⟨n, e2, hb⟩ := hc j (by omega)
    rw [List.getElem?_eq_getElem hj, e] at e2
    have e2 := Option.some.inj e2
    rw [e2]; exact hb
end

end Go.Proofs.Ytgccipmeiceonaa
