/-
  Merged: Kept, ReadT, QuietK.
-/
import Derived.Test.YtgccipmeiceonaaBase
import Derived.DataShut
import Derived.RangeFuncGives
import Derived.WalkSmall
import Derived.Sort.Grow
import Derived.Lib.AtoiErrMem
import Derived.Lib.LaidTab
import Derived.Deep.QuietTactic
import Derived.BigQuiet
-- Kept
namespace Go.Proofs.Ytgccipmeiceonaa
open Go.RowKit
set_option linter.unusedVariables false

/-- of what was there nothing has turned -/
def Kpt (w w' : World) : Prop := Below w.heap.size w w'
theorem Kpt.refl (w : World) : Kpt w w := Below.refl _ _
theorem ktr {a b c : World} (h : Kpt a b) (k : Kpt b c) : Kpt a c := h.trans (k.mono h.size)
theorem Grew.kpt {w w' : World} (h : Grew w w') : Kpt w w' := h.below
theorem Grew.grownBy {w w' : World} (h : Grew w w') : w.grownBy w' none := ⟨h.below.os, h.below.tape, h.below.output, h.below.size, fun k hk _ => h.below.block k hk⟩
theorem Kpt.alloc {w w' : World} (h : Kpt w w') (o : Obj) : Kpt w (w'.alloc o) := Below.alloc h h.size o
theorem Kpt.cell {w w' : World} (h : Kpt w w') {p : Addr} {v : Value} (hc : w.cell? p = some v) : w'.cell? p = some v := (Below.cell h (cell_in hc)).trans hc
theorem Reads.kpt {w w' : World} {v : Value} {zs : List Int} (h : Reads w v zs) (g : Kpt w w') : Reads w' v zs := by
  obtain ⟨a, cap, rfl, hm, hc⟩ := h
  refine ⟨a, cap, rfl, hm, fun j hj => ?_⟩
  obtain ⟨b, off, rfl, h'⟩ := hc j hj
  exact ⟨b, off, rfl, g.cell h'⟩

theorem set_far {w : World} {p a : Addr} {u v : Value} (h : p.block ≠ a.block) (hc : w.cell? a = some u) : (w.setCell p v).cell? a = some u := (World.cell?_setCell_other w p a v (fun e => h (by rw [e]))).trans hc
theorem set_at {w : World} {a : Addr} {u v : Value} (hc : w.cell? a = some u) : (w.setCell a v).cell? a = some v := World.cell?_setCell_same' _ _ _ (by rw [hc]; rfl)

theorem wf_i64 {n : Int} (h : (Lit.int .i64 n).wf = true) : -9223372036854775808 ≤ n ∧ n ≤ 9223372036854775807 := by
  have := (Lit.wf_int_iff .i64 n).1 h
  rwa [show IntKind.i64.min = -9223372036854775808 by decide, show IntKind.i64.max = 9223372036854775807 by decide] at this
theorem Kpt.drewN {w w' : World} (h : Kpt w w') (n : Nat) : Kpt w (w'.drewN n) := below_drewN h n
theorem kpt_grow (w : World) (os : Array Obj) : Kpt w (Go.Sort.grow w os) :=
  ⟨rfl, rfl, rfl, by simp [Go.Sort.grow], fun k hk => by simp [Go.Sort.grow, Array.getElem?_append, hk]⟩
theorem Kpt.grow {w w' : World} (h : Kpt w w') (os : Array Obj) : Kpt w (Go.Sort.grow w' os) := ktr h (kpt_grow w' os)
theorem kpt_bytes (w : World) (t : TypeId) (s : ByteArray) : Kpt w (Lib.bytesWorld w t s) := Lib.bytesWorld_below _ _ _
theorem tab_kpt {w w' : World} {P : Program} {name : String} {k : IntKind} {zs : List Int} (h : Lib.TabIs P w name k zs) (g : Kpt w w') : Lib.TabIs P w' name k zs := by
  unfold Lib.TabIs World.var? at h ⊢
  cases hg : P.globalNamed name with
  | none => simp [hg] at h
  | some b =>
    simp only [hg, Option.bind_some] at h ⊢
    have hlt : b < w.heap.size := by
      rcases Nat.lt_or_ge b w.heap.size with h' | h'
      · exact h'
      · simp [Array.getElem?_eq_none h'] at h
    rw [g.block b hlt]
    exact h

end Go.Proofs.Ytgccipmeiceonaa

-- ReadT
namespace Go.Proofs.Ytgccipmeiceonaa
open Go.RowKit
set_option linter.unusedVariables false

/-- terms in memory: four ints each -/
def ReadsT (w : World) (v : Value) (ts : List (List Int)) : Prop :=
  ∃ (a : Option Addr) (cap : Nat), v = .slice a ts.length cap ∧ ts.length ≤ maxLen ∧ ∀ k, k < ts.length → ∃ g off, a = some ⟨g, off, none⟩ ∧ ∀ j, j < 4 → w.cell? ⟨g, off + k * 4 + j, none⟩ = some (.int .i64 ((ts.getD k []).getD j 0))
theorem ReadsT.kpt {w w' : World} {v : Value} {ts : List (List Int)} (h : ReadsT w v ts) (k : Kpt w w') : ReadsT w' v ts := by
  obtain ⟨a, cap, rfl, hm, hc⟩ := h
  refine ⟨a, cap, rfl, hm, fun j hj => ?_⟩
  obtain ⟨g, off, rfl, h'⟩ := hc j hj
  exact ⟨g, off, rfl, fun i hi => k.cell (h' i hi)⟩

end Go.Proofs.Ytgccipmeiceonaa

-- QuietK
namespace Go.Proofs.Ytgccipmeiceonaa
open Go.RowKit
set_option linter.unusedVariables false

structure KptTo (q : World) where
  w : World
  h : Kpt q w
instance (q : World) : Inhabited (KptTo q) := ⟨⟨q, Kpt.refl q⟩⟩
theorem quiet_k {P : Program} {id : Nat} {Q : Exit → Act → World → Prop} {a : Act} {q : World} {l : List Oper} (hm : P.follows .mixedOrders = true) (hB : Region.lexB .any l.toArray = true)
    (h : wpQuiet P l.toArray (fun w' => ∃ p : KptTo q, w' = p.w) (fun a' => ∀ w', (∃ p : KptTo q, w' = p.w) → Q .normal a' w') l a) : (Code.region id l.toArray true).wp P Q a q :=
  wp_region_quiet (C := fun w' => ∃ p : KptTo q, w' = p.w) hm hB ⟨⟨_, (Kpt.refl q).drewN 1⟩, rfl⟩ (by simpa using h)
theorem cell_k {q : World} {a : Addr} {v : Value} (h : q.cell? a = some v) (p : KptTo q) : p.w.cell? a = some v := p.h.cell h
theorem calls_k {P : Program} {f : FuncId} {args : Array Value} {q : World} {p : KptTo q} {v : Value} (h : Calls P f args p.w fun e w' => e = .returned v ∧ Kpt p.w w') : Calls P f args p.w fun e w'' => e = .returned v ∧ ∃ p' : KptTo q, w'' = p'.w :=
  h.mono fun _ w' ⟨he, hk⟩ => ⟨he, ⟨w', ktr p.h hk⟩, rfl⟩
theorem calls_same {P : Program} {f : FuncId} {args : Array Value} {q : World} {p : KptTo q} {v : Value} (h : Calls P f args p.w fun e w' => e = .returned v ∧ p.w = w') : Calls P f args p.w fun e w'' => e = .returned v ∧ ∃ p' : KptTo q, w'' = p'.w :=
  h.mono fun _ w' ⟨he, hk⟩ => ⟨he, p, hk.symm⟩

end Go.Proofs.Ytgccipmeiceonaa
