/-
  No cell of these rows narrows 'for every input' (looked for: loops, veiled, ifaces, maps, wideKeys, modest, calm, conditions, laid).
  DERIVED. THE GIVEN ROWS OF THIS SEAT. 5 by the template 'for every input the law returns true; each argument reads behind the call as it read before'; 0 by the template 'total and deterministic' (their statements: YtmoanndonfmihaaTotals.lean).
  GIVEN WITH THE SEED: the statements are not yours to turn. If you find one false, say at which input.
  Laid BY PROGRAM, IN A SANDBOX (cutbox-rows.mjs): the forced cells as the released guide's own fill.sh prints them over the translation b0367171be421820… (all of the seat's roots in one cut). By AI agents, Wed Nov 11 2026. No macro, syntax, notation, axiom, sorry.
-/
import Derived.Test.YtmoanndonfmihaaChecked
import GoSem.Claim
import GoSem.ClaimJoined
import GoSem.ClaimMapViews
import Derived.JoinedTies
import Derived.KernelRfl
namespace Go.Proofs.Ytmoanndonfmihaa
/- THE CELL 'sum', in the pinned program and in every row, IS THE sha256 OF THE DUMP (.gsa) THAT YtmoanndonfmihaaProg.lean LOADS. Nothing in Lean hashes anything: it is a label: what it is worth is what the hold of that sum in a sandbox is worth. -/
noncomputable def Try.pinned : Pinned := { name := "ytmoanndonfmihaa", sum := "b0367171be4218209ce47221dd93a76e487dda2e714dad5b242d90e6d31b1128", checked := Try.checked }
namespace Rows
def none {H : Type} : Left H := { results := [], args := [] }

/-- 'demurragelaw.PenaltyEach': WHATEVER THE INPUT: true; the input reads as it did. -/
def penaltyEachSpec : ChangeSpec := { name := "penaltyEach", fn := fun _ => fun
  | [d1, d2, d3, d4, d5, d6] => { results := [.lit (.bool true)], args := [d1, d2, d3, d4, d5, d6] }
  | _ => none }
def penaltyEachRow : OpenClaim := { program := "ytmoanndonfmihaa", sum := "b0367171be4218209ce47221dd93a76e487dda2e714dad5b242d90e6d31b1128", func := "demurrage/demurragelaw.PenaltyEach", spec := "penaltyEach", inPlace := ["math/bits.Add64"], unfollowed := true, recurses := true, named := ["math/bits.divideError", "math/bits.overflowError"], apart := false }
def PenaltyEachSaid : Prop := penaltyEachRow.holds Try.pinned (OpenSpec.ofChange penaltyEachSpec)

/-- ITS FALSE NEIGHBOUR: 'it returns false'. Refute it at one input. -/
def penaltyEachWrong : ChangeSpec := { name := "penaltyEach", fn := fun _ => fun
  | [d1, d2, d3, d4, d5, d6] => { results := [.lit (.bool false)], args := [d1, d2, d3, d4, d5, d6] }
  | _ => none }
def PenaltyEachWrongFalsely : Prop := penaltyEachRow.holds Try.pinned (OpenSpec.ofChange penaltyEachWrong)

/-- 'demurragelaw.PenaltyOnly': WHATEVER THE INPUT: true; the input reads as it did. -/
def penaltyOnlySpec : ChangeSpec := { name := "penaltyOnly", fn := fun _ => fun
  | [d1, d2, d3, d4, d5] => { results := [.lit (.bool true)], args := [d1, d2, d3, d4, d5] }
  | _ => none }
def penaltyOnlyRow : OpenClaim := { program := "ytmoanndonfmihaa", sum := "b0367171be4218209ce47221dd93a76e487dda2e714dad5b242d90e6d31b1128", func := "demurrage/demurragelaw.PenaltyOnly", spec := "penaltyOnly", inPlace := ["math/bits.Add64"], unfollowed := true, recurses := true, named := ["math/bits.divideError", "math/bits.overflowError"], apart := false }
def PenaltyOnlySaid : Prop := penaltyOnlyRow.holds Try.pinned (OpenSpec.ofChange penaltyOnlySpec)

/-- ITS FALSE NEIGHBOUR: 'it returns false'. Refute it at one input. -/
def penaltyOnlyWrong : ChangeSpec := { name := "penaltyOnly", fn := fun _ => fun
  | [d1, d2, d3, d4, d5] => { results := [.lit (.bool false)], args := [d1, d2, d3, d4, d5] }
  | _ => none }
def PenaltyOnlyWrongFalsely : Prop := penaltyOnlyRow.holds Try.pinned (OpenSpec.ofChange penaltyOnlyWrong)

/-- 'demurragelaw.PenaltyLess': WHATEVER THE INPUT: true; the input reads as it did. -/
def penaltyLessSpec : ChangeSpec := { name := "penaltyLess", fn := fun _ => fun
  | [d1, d2, d3, d4, d5, d6] => { results := [.lit (.bool true)], args := [d1, d2, d3, d4, d5, d6] }
  | _ => none }
def penaltyLessRow : OpenClaim := { program := "ytmoanndonfmihaa", sum := "b0367171be4218209ce47221dd93a76e487dda2e714dad5b242d90e6d31b1128", func := "demurrage/demurragelaw.PenaltyLess", spec := "penaltyLess", inPlace := ["math/bits.Add64"], unfollowed := true, recurses := true, named := ["math/bits.divideError", "math/bits.overflowError"], apart := false }
def PenaltyLessSaid : Prop := penaltyLessRow.holds Try.pinned (OpenSpec.ofChange penaltyLessSpec)

/-- ITS FALSE NEIGHBOUR: 'it returns false'. Refute it at one input. -/
def penaltyLessWrong : ChangeSpec := { name := "penaltyLess", fn := fun _ => fun
  | [d1, d2, d3, d4, d5, d6] => { results := [.lit (.bool false)], args := [d1, d2, d3, d4, d5, d6] }
  | _ => none }
def PenaltyLessWrongFalsely : Prop := penaltyLessRow.holds Try.pinned (OpenSpec.ofChange penaltyLessWrong)

/-- 'demurragelaw.BuyinOrder': WHATEVER THE INPUT: true; the input reads as it did. -/
def buyinOrderSpec : ChangeSpec := { name := "buyinOrder", fn := fun _ => fun
  | [d] => { results := [.lit (.bool true)], args := [d] }
  | _ => none }
def buyinOrderRow : OpenClaim := { program := "ytmoanndonfmihaa", sum := "b0367171be4218209ce47221dd93a76e487dda2e714dad5b242d90e6d31b1128", func := "demurrage/demurragelaw.BuyinOrder", spec := "buyinOrder", unfollowed := true, recurses := true, named := ["math/bits.divideError", "math/bits.overflowError"], apart := false }
def BuyinOrderSaid : Prop := buyinOrderRow.holds Try.pinned (OpenSpec.ofChange buyinOrderSpec)

/-- ITS FALSE NEIGHBOUR: 'it returns false'. Refute it at one input. -/
def buyinOrderWrong : ChangeSpec := { name := "buyinOrder", fn := fun _ => fun
  | [d] => { results := [.lit (.bool false)], args := [d] }
  | _ => none }
def BuyinOrderWrongFalsely : Prop := buyinOrderRow.holds Try.pinned (OpenSpec.ofChange buyinOrderWrong)

/-- 'demurragelaw.CompPays': WHATEVER THE INPUT: true; the input reads as it did. -/
def compPaysSpec : ChangeSpec := { name := "compPays", fn := fun _ => fun
  | [d1, d2, d3] => { results := [.lit (.bool true)], args := [d1, d2, d3] }
  | _ => none }
def compPaysRow : OpenClaim := { program := "ytmoanndonfmihaa", sum := "b0367171be4218209ce47221dd93a76e487dda2e714dad5b242d90e6d31b1128", func := "demurrage/demurragelaw.CompPays", spec := "compPays", inPlace := ["math/bits.Add64"], unfollowed := true, recurses := true, named := ["math/bits.divideError", "math/bits.overflowError"], apart := false }
def CompPaysSaid : Prop := compPaysRow.holds Try.pinned (OpenSpec.ofChange compPaysSpec)

/-- ITS FALSE NEIGHBOUR: 'it returns false'. Refute it at one input. -/
def compPaysWrong : ChangeSpec := { name := "compPays", fn := fun _ => fun
  | [d1, d2, d3] => { results := [.lit (.bool false)], args := [d1, d2, d3] }
  | _ => none }
def CompPaysWrongFalsely : Prop := compPaysRow.holds Try.pinned (OpenSpec.ofChange compPaysWrong)

/- THE SECOND FORM. 'bulk': how many values and letters a reading holds, each counted each time it is reached (what is shared counts as often as it is met; a slice's spare places count too). A statement '..UptoSaid' is the law's where the arguments, and the package variables that the reading takes, are together of bulk at most 1048576: NARROWER than '..Said'. Prove '..Said' where nothing that the law and all that it calls make is longer than what came in: it says more and counts as full. Else prove '..UptoSaid'. A law counts once. -/
mutual
def uptoBulk {H : Type} : DataW H → Nat
  | .lit (.string bytes) => bytes.length + 1
  | .lit _ => 1
  | .nil => 1
  | .ptr d => uptoBulk d + 1
  | .slice elems spare => uptoBulkAll elems + uptoBulkAll spare + 1
  | .agg parts => uptoBulkAll parts + 1
  | .iface _ d => uptoBulk d + 1
  | .map entries => uptoBulkEntries entries + 1
  | .held _ => 1
def uptoBulkAll {H : Type} : List (DataW H) → Nat
  | [] => 0
  | d :: r => uptoBulk d + uptoBulkAll r
def uptoBulkEntries {H : Type} : List (Lit × DataW H) → Nat
  | [] => 0
  | x :: r => uptoBulkEntry x + uptoBulkEntries r
def uptoBulkEntry {H : Type} : Lit × DataW H → Nat
  | (.string bytes, d) => bytes.length + uptoBulk d + 1
  | (_, d) => uptoBulk d + 1
 end
def uptoSmall : (H : Type) → List (DataW H) → Bool := fun _ ds => decide (uptoBulkAll ds ≤ 1048576)
def OpenSpec.upto (s : _root_.Go.ChangeSpec) : _root_.Go.OpenSpec := { _root_.Go.OpenSpec.ofChange s with cond := some uptoSmall }

/-- 'demurragelaw.PenaltyEach', WHERE WHAT IT READS IS OF BULK AT MOST 1048576: true; the input reads as it did. -/
def penaltyEachUptoRow : OpenClaim := { program := "ytmoanndonfmihaa", sum := "b0367171be4218209ce47221dd93a76e487dda2e714dad5b242d90e6d31b1128", func := "demurrage/demurragelaw.PenaltyEach", spec := "penaltyEach", inPlace := ["math/bits.Add64"], unfollowed := true, recurses := true, named := ["math/bits.divideError", "math/bits.overflowError"], apart := false, narrowed := true }
def PenaltyEachUptoSaid : Prop := penaltyEachUptoRow.holds Try.pinned (OpenSpec.upto penaltyEachSpec)

/-- 'demurragelaw.PenaltyOnly', WHERE WHAT IT READS IS OF BULK AT MOST 1048576: true; the input reads as it did. -/
def penaltyOnlyUptoRow : OpenClaim := { program := "ytmoanndonfmihaa", sum := "b0367171be4218209ce47221dd93a76e487dda2e714dad5b242d90e6d31b1128", func := "demurrage/demurragelaw.PenaltyOnly", spec := "penaltyOnly", inPlace := ["math/bits.Add64"], unfollowed := true, recurses := true, named := ["math/bits.divideError", "math/bits.overflowError"], apart := false, narrowed := true }
def PenaltyOnlyUptoSaid : Prop := penaltyOnlyUptoRow.holds Try.pinned (OpenSpec.upto penaltyOnlySpec)

/-- 'demurragelaw.PenaltyLess', WHERE WHAT IT READS IS OF BULK AT MOST 1048576: true; the input reads as it did. -/
def penaltyLessUptoRow : OpenClaim := { program := "ytmoanndonfmihaa", sum := "b0367171be4218209ce47221dd93a76e487dda2e714dad5b242d90e6d31b1128", func := "demurrage/demurragelaw.PenaltyLess", spec := "penaltyLess", inPlace := ["math/bits.Add64"], unfollowed := true, recurses := true, named := ["math/bits.divideError", "math/bits.overflowError"], apart := false, narrowed := true }
def PenaltyLessUptoSaid : Prop := penaltyLessUptoRow.holds Try.pinned (OpenSpec.upto penaltyLessSpec)

/-- 'demurragelaw.BuyinOrder', WHERE WHAT IT READS IS OF BULK AT MOST 1048576: true; the input reads as it did. -/
def buyinOrderUptoRow : OpenClaim := { program := "ytmoanndonfmihaa", sum := "b0367171be4218209ce47221dd93a76e487dda2e714dad5b242d90e6d31b1128", func := "demurrage/demurragelaw.BuyinOrder", spec := "buyinOrder", unfollowed := true, recurses := true, named := ["math/bits.divideError", "math/bits.overflowError"], apart := false, narrowed := true }
def BuyinOrderUptoSaid : Prop := buyinOrderUptoRow.holds Try.pinned (OpenSpec.upto buyinOrderSpec)

/-- 'demurragelaw.CompPays', WHERE WHAT IT READS IS OF BULK AT MOST 1048576: true; the input reads as it did. -/
def compPaysUptoRow : OpenClaim := { program := "ytmoanndonfmihaa", sum := "b0367171be4218209ce47221dd93a76e487dda2e714dad5b242d90e6d31b1128", func := "demurrage/demurragelaw.CompPays", spec := "compPays", inPlace := ["math/bits.Add64"], unfollowed := true, recurses := true, named := ["math/bits.divideError", "math/bits.overflowError"], apart := false, narrowed := true }
def CompPaysUptoSaid : Prop := compPaysUptoRow.holds Try.pinned (OpenSpec.upto compPaysSpec)

end Rows
end Go.Proofs.Ytmoanndonfmihaa
