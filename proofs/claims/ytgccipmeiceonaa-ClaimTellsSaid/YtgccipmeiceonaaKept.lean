/-
  A world of which only this is known: of what was there nothing has turned.
-/
import Derived.Test.YtgccipmeiceonaaBase
import Derived.DataShut
import Derived.RangeFuncGives
import Derived.WalkSmall
import Derived.Sort.Grow
import Derived.Lib.AtoiErrMem
import Derived.Lib.LaidTab
namespace Go.Proofs.Ytgccipmeiceonaa
open Go.RowKit
set_option linter.unusedVariables false

/-- of what was there nothing has turned -/
def Kpt (w w' : World) : Prop := Below w.heap.size w w'
theorem Kpt.refl (w : World) : Kpt w w := Below.refl _ _
theorem ktr {a b c : World} (h : Kpt a b) (k : Kpt b c) : Kpt a c := h.trans (k.mono h.size)
theorem Grew.kpt {w w' : World} (h : Grew w w') : Kpt w w' := h.below
theorem Grew.grownBy {w w' : World} (h : Grew w w') : w.grownBy w' none := ⟨h.below.os, h.below.tape, h.below.output, h.below.size, fun k hk _ => h.below.block k hk⟩
theorem Kpt.alloc {w w' : World} (h : Kpt w w') (o : Obj) : Kpt w (w'.alloc o) := Below.alloc h h.size o
theorem Kpt.cell {w w' : World} (h : Kpt w w') {p : Addr} {v : Value} (hc : w.cell? p = some v) : w'.cell? p = some v := (Below.cell h (cell_in hc)).trans hc
theorem Reads.kpt {w w' : World} {v : Value} {zs : List Int} (h : Reads w v zs) (g : Kpt w w') : Reads w' v zs := by
  obtain ⟨a, cap, rfl, hm, hc⟩ := h
  refine ⟨a, cap, rfl, hm, fun j hj => ?_⟩
  obtain ⟨b, off, rfl, h'⟩ := hc j hj
  exact ⟨b, off, rfl, g.cell h'⟩

theorem set_far {w : World} {p a : Addr} {u v : Value} (h : p.block ≠ a.block) (hc : w.cell? a = some u) : (w.setCell p v).cell? a = some u := (World.cell?_setCell_other w p a v (fun e => h (by rw [e]))).trans hc
theorem set_at {w : World} {a : Addr} {u v : Value} (hc : w.cell? a = some u) : (w.setCell a v).cell? a = some v := World.cell?_setCell_same' _ _ _ (by rw [hc]; rfl)

theorem wf_i64 {n : Int} (h : (Lit.int .i64 n).wf = true) : -9223372036854775808 ≤ n ∧ n ≤ 9223372036854775807 := by
  have := (Lit.wf_int_iff .i64 n).1 h
  rwa [show IntKind.i64.min = -9223372036854775808 by decide, show IntKind.i64.max = 9223372036854775807 by decide] at this
theorem Kpt.drewN {w w' : World} (h : Kpt w w') (n : Nat) : Kpt w (w'.drewN n) := below_drewN h n
theorem kpt_grow (w : World) (os : Array Obj) : Kpt w (Go.Sort.grow w os) :=
  ⟨rfl, rfl, rfl, by simp [Go.Sort.grow], fun k hk => by simp [Go.Sort.grow, Array.getElem?_append, hk]⟩
theorem Kpt.grow {w w' : World} (h : Kpt w w') (os : Array Obj) : Kpt w (Go.Sort.grow w' os) := ktr h (kpt_grow w' os)
theorem kpt_bytes (w : World) (t : TypeId) (s : ByteArray) : Kpt w (Lib.bytesWorld w t s) := Lib.bytesWorld_below _ _ _
theorem tab_kpt {w w' : World} {P : Program} {name : String} {k : IntKind} {zs : List Int} (h : Lib.TabIs P w name k zs) (g : Kpt w w') : Lib.TabIs P w' name k zs := by
  unfold Lib.TabIs World.var? at h ⊢
  cases hg : P.globalNamed name with
  | none => simp [hg] at h
  | some b =>
    simp only [hg, Option.bind_some] at h ⊢
    have hlt : b < w.heap.size := by
      rcases Nat.lt_or_ge b w.heap.size with h' | h'
      · exact h'
      · simp [Array.getElem?_eq_none h'] at h
    rw [g.block b hlt]
    exact h

end Go.Proofs.Ytgccipmeiceonaa
