/-
  A region that draws its order, whose operations only read and whose callees leave all that was there as it was, walked once: the class of worlds is 'of what was there at q nothing has turned'.
-/
import Derived.Test.YtgccipmeiceonaaKept
import Derived.Deep.QuietTactic
import Derived.BigQuiet
namespace Go.Proofs.Ytgccipmeiceonaa
open Go.RowKit
set_option linter.unusedVariables false

structure KptTo (q : World) where
  w : World
  h : Kpt q w
instance (q : World) : Inhabited (KptTo q) := ⟨⟨q, Kpt.refl q⟩⟩
theorem quiet_k {P : Program} {id : Nat} {Q : Exit → Act → World → Prop} {a : Act} {q : World} {l : List Oper} (hm : P.follows .mixedOrders = true) (hB : Region.lexB .any l.toArray = true)
    (h : wpQuiet P l.toArray (fun w' => ∃ p : KptTo q, w' = p.w) (fun a' => ∀ w', (∃ p : KptTo q, w' = p.w) → Q .normal a' w') l a) : (Code.region id l.toArray true).wp P Q a q :=
  wp_region_quiet (C := fun w' => ∃ p : KptTo q, w' = p.w) hm hB ⟨⟨_, (Kpt.refl q).drewN 1⟩, rfl⟩ (by simpa using h)
theorem cell_k {q : World} {a : Addr} {v : Value} (h : q.cell? a = some v) (p : KptTo q) : p.w.cell? a = some v := p.h.cell h
theorem calls_k {P : Program} {f : FuncId} {args : Array Value} {q : World} {p : KptTo q} {v : Value} (h : Calls P f args p.w fun e w' => e = .returned v ∧ Kpt p.w w') : Calls P f args p.w fun e w'' => e = .returned v ∧ ∃ p' : KptTo q, w'' = p'.w :=
  h.mono fun _ w' ⟨he, hk⟩ => ⟨he, ⟨w', ktr p.h hk⟩, rfl⟩
theorem calls_same {P : Program} {f : FuncId} {args : Array Value} {q : World} {p : KptTo q} {v : Value} (h : Calls P f args p.w fun e w' => e = .returned v ∧ p.w = w') : Calls P f args p.w fun e w'' => e = .returned v ∧ ∃ p' : KptTo q, w'' = p'.w :=
  h.mono fun _ w' ⟨he, hk⟩ => ⟨he, p, hk.symm⟩

end Go.Proofs.Ytgccipmeiceonaa
