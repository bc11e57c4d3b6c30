/-
  An argument that is a slice of structs of four ints reads as terms.
-/
import Derived.Test.YtmoanndonfmihaaOpenG
import Derived.Test.YtmoanndonfmihaaReadT
namespace Go.Proofs.Ytmoanndonfmihaa
open Go.RowKit Go.ChangeShapes Go.WideShapes Go.Deep Go.Joins
set_option linter.unusedVariables false
section
variable {H : Type} {enc : TypeId × Value → H} {w : World} {base : Nat} {spare : Nat → Bool} {held : Bool}

theorem open_rowsT {P : Program} {t e I : TypeId} {fs : Array Field} {a : Option Addr} {len cap : Nat} {d : DataW H} {p : List MemPlace} (ht : P.underlying t = some (.slice e)) (he : P.underlying e = some (.struct fs)) (hone : oneCellFields P fs = true) (hC : P.cellsOf e = 4) (hN : fs.size = 4)
    (hall : fs.all (fun f => f.type == I) = true) (hI : P.underlying I = some (.int .i64)) (h : DataW.Trod enc P w base (fun _ => true) held t (.slice a len cap) d p) : ∃ ps, ReadsT w (.slice a len cap) ps := by
  obtain ⟨ps, a', cap', e1, hm, hb, hc⟩ := open_rowsN (N := 4) (by decide) ht he hone hC hN hall hI h
  exact ⟨ps, a', cap', e1, hm, hc⟩
end

end Go.Proofs.Ytmoanndonfmihaa
