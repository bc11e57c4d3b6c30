/-
  A region that draws its order and only reads, in a round of a range over a function.
-/
import Derived.Sort.BigQuietIn
import Derived.RangeFuncWrites
import Derived.Shelf.RegionOpen
import Derived.OwnWalkIn
import Derived.Test.YtklaojahocjeiaaKept
namespace Go.Proofs.Ytklaojahocjeiaa
open Go.RowKit Go.Shelf
set_option linter.unusedVariables false

/-- an operation that is no defer statement -/
def noDefer (o : Oper) : Bool := match o.op with | .defer _ => false | _ => true
theorem noDefer_ne {o : Oper} (h : noDefer o = true) : ∀ c, o.op ≠ .defer c := fun c e => by unfold noDefer at h; rw [e] at h; cases h
theorem wpIn_opRound {F : Fence} {n l : Nat} {P : Program} {o : Oper} {a : Act} {w : World} {K : Act → World → Prop} {Q : Exit → Act → World → Prop} (hd : noDefer o = true) (h : o.wpIn F n P a w K Q) : o.wpIn (F.inRound l) n P a w K Q := by
  unfold Oper.wpIn at h ⊢
  refine ⟨h.1, ?_⟩
  have h2 := h.2
  rw [Oper.semAt_plain F _ _ (noDefer_ne hd)] at h2
  rw [Oper.semAt_plain (F.inRound l) _ _ (noDefer_ne hd)]
  exact h2
theorem wpAnyIn_round {F : Fence} {n l : Nat} {P : Program} {md : Region.Mode} {ops : Array Oper} {Q : Exit → Act → World → Prop} (hd : ∀ (i : Nat) (o : Oper), ops[i]? = some o → noDefer o = true) : ∀ (fuel : Nat) (listed : Array Bool) (a : Act) (w : World), wpAnyIn F n P md ops Q fuel listed a w → wpAnyIn (F.inRound l) n P md ops Q fuel listed a w
  | 0, _, _, _, h => h
  | fuel + 1, listed, a, w, h => by
    have ih := wpAnyIn_round (F := F) (n := n) (l := l) (P := P) (md := md) (Q := Q) hd fuel
    refine ⟨h.1, fun i hi => ?_⟩
    have h2 := h.2 i hi
    unfold wpOpIn at h2 ⊢
    split
    · next ho => simp only [ho] at h2; exact ih _ _ _ h2
    · next o ho =>
      simp only [ho] at h2
      split
      · next hw =>
        simp only [hw, if_true] at h2
        exact wpIn_opRound (hd i o ho) (Oper.wpIn_mono (fun a' w' => ih _ a' w') h2)
      · next hw =>
        simp only [hw] at h2
        exact ⟨h2.1, ih _ _ _ h2.2⟩
/-- a region that draws and only reads, in a round: one walk, in the text's order -/
theorem wpIn_region_quiet_round {F : Fence} {n l : Nat} {P : Program} {id : Nat} {Q : Exit → Act → World → Prop} {a : Act} {w : World} {ops : List Oper} (hro : F.round = none) (hnd : ops.all noDefer = true) (hm : P.follows .mixedOrders = true) (hB : Region.lexB .any ops.toArray = true)
    (h : wpQuietIn F n P ops.toArray (fun w' => ∃ k, w' = w.drewN k) (fun a' => ∀ w', (∃ k, w' = w.drewN k) → Q .normal a' w') ops a) : (Code.region id ops.toArray true).wpIn (F.inRound l) n P Q a w := by
  simp only [Region.lexB, Bool.and_eq_true] at hB
  refine wpIn_region_any hm (wpAnyIn_round (fun i o ho => ?_) _ _ _ _ (wpAnyIn_of_quiet (C := fun w' => ∃ k, w' = w.drewN k) (Q := fun a' => ∀ w', (∃ k, w' = w.drewN k) → Q .normal a' w') hro (fun _ w' hw' h => h w' hw') _ _ _ _ ⟨1, rfl⟩ ?_))
  · exact List.all_eq_true.1 hnd o (List.mem_of_getElem? (by simpa using ho))
  · have := wpAnyQIn_lex (F := F) (n := n) (C := fun w' => ∃ k, w' = w.drewN k) (md := .any) hB.1 ops 0 (Array.replicate ops.toArray.size false) a (by simp) (by simpa using hB.2) h
    simpa using this

theorem kpt_drewN (w : World) (k : Nat) : Kpt w (w.drewN k) := Kpt.drewN (Kpt.refl w) k

end Go.Proofs.Ytklaojahocjeiaa
