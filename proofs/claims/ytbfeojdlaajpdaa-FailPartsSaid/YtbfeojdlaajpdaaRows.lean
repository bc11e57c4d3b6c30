/-
  No cell of these rows narrows 'for every input' (looked for: loops, veiled, ifaces, maps, wideKeys, modest, calm, conditions, laid).
  DERIVED. THE GIVEN ROWS OF THIS SEAT. 11 by the template 'for every input the law returns true; each argument reads behind the call as it read before'; 0 by the template 'total and deterministic' (their statements: YtbfeojdlaajpdaaTotals.lean).
  GIVEN WITH THE SEED: the statements are not yours to turn. If you find one false, say at which input.
  Laid BY PROGRAM, IN A SANDBOX (cutbox-rows.mjs): the forced cells as the released guide's own fill.sh prints them over the translation caed33e850f31247… (all of the seat's roots in one cut). By AI agents, Wed Nov 11 2026. No macro, syntax, notation, axiom, sorry.
-/
import Derived.Test.YtbfeojdlaajpdaaChecked
import GoSem.Claim
import GoSem.ClaimJoined
import GoSem.ClaimMapViews
import Derived.JoinedTies
import Derived.KernelRfl
namespace Go.Proofs.Ytbfeojdlaajpdaa
/- THE CELL 'sum', in the pinned program and in every row, IS THE sha256 OF THE DUMP (.gsa) THAT YtbfeojdlaajpdaaProg.lean LOADS. Nothing in Lean hashes anything: it is a label: what it is worth is what the hold of that sum in a sandbox is worth. -/
noncomputable def Try.pinned : Pinned := { name := "ytbfeojdlaajpdaa", sum := "caed33e850f312476c8b824060ad8bb8e9adc6d5ae0f94dee653f9c53d6ad56c", checked := Try.checked }
namespace Rows
def none {H : Type} : Left H := { results := [], args := [] }

/-- 'demurragelaw.GridTells': WHATEVER THE INPUT: true; the input reads as it did. -/
def gridTellsSpec : ChangeSpec := { name := "gridTells", fn := fun _ => fun
  | [d1, d2, d3] => { results := [.lit (.bool true)], args := [d1, d2, d3] }
  | _ => none }
def gridTellsRow : OpenClaim := { program := "ytbfeojdlaajpdaa", sum := "caed33e850f312476c8b824060ad8bb8e9adc6d5ae0f94dee653f9c53d6ad56c", func := "demurrage/demurragelaw.GridTells", spec := "gridTells", inPlace := ["math/bits.Add64"], unfollowed := true, recurses := true, apart := false }
def GridTellsSaid : Prop := gridTellsRow.holds Try.pinned (OpenSpec.ofChange gridTellsSpec)

/-- ITS FALSE NEIGHBOUR: 'it returns false'. Refute it at one input. -/
def gridTellsWrong : ChangeSpec := { name := "gridTells", fn := fun _ => fun
  | [d1, d2, d3] => { results := [.lit (.bool false)], args := [d1, d2, d3] }
  | _ => none }
def GridTellsWrongFalsely : Prop := gridTellsRow.holds Try.pinned (OpenSpec.ofChange gridTellsWrong)

/-- 'demurragelaw.GridFair': WHATEVER THE INPUT: true; the input reads as it did. -/
def gridFairSpec : ChangeSpec := { name := "gridFair", fn := fun _ => fun
  | [d1, d2] => { results := [.lit (.bool true)], args := [d1, d2] }
  | _ => none }
def gridFairRow : OpenClaim := { program := "ytbfeojdlaajpdaa", sum := "caed33e850f312476c8b824060ad8bb8e9adc6d5ae0f94dee653f9c53d6ad56c", func := "demurrage/demurragelaw.GridFair", spec := "gridFair", inPlace := ["math/bits.Add64"], unfollowed := true, recurses := true, apart := false }
def GridFairSaid : Prop := gridFairRow.holds Try.pinned (OpenSpec.ofChange gridFairSpec)

/-- ITS FALSE NEIGHBOUR: 'it returns false'. Refute it at one input. -/
def gridFairWrong : ChangeSpec := { name := "gridFair", fn := fun _ => fun
  | [d1, d2] => { results := [.lit (.bool false)], args := [d1, d2] }
  | _ => none }
def GridFairWrongFalsely : Prop := gridFairRow.holds Try.pinned (OpenSpec.ofChange gridFairWrong)

/-- 'demurragelaw.GridMost': WHATEVER THE INPUT: true; the input reads as it did. -/
def gridMostSpec : ChangeSpec := { name := "gridMost", fn := fun _ => fun
  | [d1, d2, d3] => { results := [.lit (.bool true)], args := [d1, d2, d3] }
  | _ => none }
def gridMostRow : OpenClaim := { program := "ytbfeojdlaajpdaa", sum := "caed33e850f312476c8b824060ad8bb8e9adc6d5ae0f94dee653f9c53d6ad56c", func := "demurrage/demurragelaw.GridMost", spec := "gridMost", inPlace := ["math/bits.Add64"], unfollowed := true, recurses := true, apart := false }
def GridMostSaid : Prop := gridMostRow.holds Try.pinned (OpenSpec.ofChange gridMostSpec)

/-- ITS FALSE NEIGHBOUR: 'it returns false'. Refute it at one input. -/
def gridMostWrong : ChangeSpec := { name := "gridMost", fn := fun _ => fun
  | [d1, d2, d3] => { results := [.lit (.bool false)], args := [d1, d2, d3] }
  | _ => none }
def GridMostWrongFalsely : Prop := gridMostRow.holds Try.pinned (OpenSpec.ofChange gridMostWrong)

/-- 'demurragelaw.GridRing': WHATEVER THE INPUT: true; the input reads as it did. -/
def gridRingSpec : ChangeSpec := { name := "gridRing", fn := fun _ => fun
  | [d1, d2, d3] => { results := [.lit (.bool true)], args := [d1, d2, d3] }
  | _ => none }
def gridRingRow : OpenClaim := { program := "ytbfeojdlaajpdaa", sum := "caed33e850f312476c8b824060ad8bb8e9adc6d5ae0f94dee653f9c53d6ad56c", func := "demurrage/demurragelaw.GridRing", spec := "gridRing", inPlace := ["math/bits.Add64"], unfollowed := true, recurses := true, apart := false }
def GridRingSaid : Prop := gridRingRow.holds Try.pinned (OpenSpec.ofChange gridRingSpec)

/-- ITS FALSE NEIGHBOUR: 'it returns false'. Refute it at one input. -/
def gridRingWrong : ChangeSpec := { name := "gridRing", fn := fun _ => fun
  | [d1, d2, d3] => { results := [.lit (.bool false)], args := [d1, d2, d3] }
  | _ => none }
def GridRingWrongFalsely : Prop := gridRingRow.holds Try.pinned (OpenSpec.ofChange gridRingWrong)

/-- 'demurragelaw.GridRich': WHATEVER THE INPUT: true; the input reads as it did. -/
def gridRichSpec : ChangeSpec := { name := "gridRich", fn := fun _ => fun
  | [d] => { results := [.lit (.bool true)], args := [d] }
  | _ => none }
def gridRichRow : OpenClaim := { program := "ytbfeojdlaajpdaa", sum := "caed33e850f312476c8b824060ad8bb8e9adc6d5ae0f94dee653f9c53d6ad56c", func := "demurrage/demurragelaw.GridRich", spec := "gridRich", inPlace := ["math/bits.Add64"], unfollowed := true, recurses := true, apart := false }
def GridRichSaid : Prop := gridRichRow.holds Try.pinned (OpenSpec.ofChange gridRichSpec)

/-- ITS FALSE NEIGHBOUR: 'it returns false'. Refute it at one input. -/
def gridRichWrong : ChangeSpec := { name := "gridRich", fn := fun _ => fun
  | [d] => { results := [.lit (.bool false)], args := [d] }
  | _ => none }
def GridRichWrongFalsely : Prop := gridRichRow.holds Try.pinned (OpenSpec.ofChange gridRichWrong)

/-- 'demurragelaw.LotsTell': WHATEVER THE INPUT: true; the input reads as it did. -/
def lotsTellSpec : ChangeSpec := { name := "lotsTell", fn := fun _ => fun
  | [d1, d2, d3, d4] => { results := [.lit (.bool true)], args := [d1, d2, d3, d4] }
  | _ => none }
def lotsTellRow : OpenClaim := { program := "ytbfeojdlaajpdaa", sum := "caed33e850f312476c8b824060ad8bb8e9adc6d5ae0f94dee653f9c53d6ad56c", func := "demurrage/demurragelaw.LotsTell", spec := "lotsTell", unfollowed := true, recurses := true, named := ["math/bits.divideError", "math/bits.overflowError"], apart := false }
def LotsTellSaid : Prop := lotsTellRow.holds Try.pinned (OpenSpec.ofChange lotsTellSpec)

/-- ITS FALSE NEIGHBOUR: 'it returns false'. Refute it at one input. -/
def lotsTellWrong : ChangeSpec := { name := "lotsTell", fn := fun _ => fun
  | [d1, d2, d3, d4] => { results := [.lit (.bool false)], args := [d1, d2, d3, d4] }
  | _ => none }
def LotsTellWrongFalsely : Prop := lotsTellRow.holds Try.pinned (OpenSpec.ofChange lotsTellWrong)

/-- 'demurragelaw.FailTells': WHATEVER THE INPUT: true; the input reads as it did. -/
def failTellsSpec : ChangeSpec := { name := "failTells", fn := fun _ => fun
  | [d1, d2, d3, d4] => { results := [.lit (.bool true)], args := [d1, d2, d3, d4] }
  | _ => none }
def failTellsRow : OpenClaim := { program := "ytbfeojdlaajpdaa", sum := "caed33e850f312476c8b824060ad8bb8e9adc6d5ae0f94dee653f9c53d6ad56c", func := "demurrage/demurragelaw.FailTells", spec := "failTells", unfollowed := true, recurses := true, apart := false }
def FailTellsSaid : Prop := failTellsRow.holds Try.pinned (OpenSpec.ofChange failTellsSpec)

/-- ITS FALSE NEIGHBOUR: 'it returns false'. Refute it at one input. -/
def failTellsWrong : ChangeSpec := { name := "failTells", fn := fun _ => fun
  | [d1, d2, d3, d4] => { results := [.lit (.bool false)], args := [d1, d2, d3, d4] }
  | _ => none }
def FailTellsWrongFalsely : Prop := failTellsRow.holds Try.pinned (OpenSpec.ofChange failTellsWrong)

/-- 'demurragelaw.FailKeeps': WHATEVER THE INPUT: true; the input reads as it did. -/
def failKeepsSpec : ChangeSpec := { name := "failKeeps", fn := fun _ => fun
  | [d1, d2, d3] => { results := [.lit (.bool true)], args := [d1, d2, d3] }
  | _ => none }
def failKeepsRow : OpenClaim := { program := "ytbfeojdlaajpdaa", sum := "caed33e850f312476c8b824060ad8bb8e9adc6d5ae0f94dee653f9c53d6ad56c", func := "demurrage/demurragelaw.FailKeeps", spec := "failKeeps", unfollowed := true, recurses := true, apart := false }
def FailKeepsSaid : Prop := failKeepsRow.holds Try.pinned (OpenSpec.ofChange failKeepsSpec)

/-- ITS FALSE NEIGHBOUR: 'it returns false'. Refute it at one input. -/
def failKeepsWrong : ChangeSpec := { name := "failKeeps", fn := fun _ => fun
  | [d1, d2, d3] => { results := [.lit (.bool false)], args := [d1, d2, d3] }
  | _ => none }
def FailKeepsWrongFalsely : Prop := failKeepsRow.holds Try.pinned (OpenSpec.ofChange failKeepsWrong)

/-- 'demurragelaw.FailParts': WHATEVER THE INPUT: true; the input reads as it did. -/
def failPartsSpec : ChangeSpec := { name := "failParts", fn := fun _ => fun
  | [d1, d2, d3] => { results := [.lit (.bool true)], args := [d1, d2, d3] }
  | _ => none }
def failPartsRow : OpenClaim := { program := "ytbfeojdlaajpdaa", sum := "caed33e850f312476c8b824060ad8bb8e9adc6d5ae0f94dee653f9c53d6ad56c", func := "demurrage/demurragelaw.FailParts", spec := "failParts", unfollowed := true, recurses := true, apart := false }
def FailPartsSaid : Prop := failPartsRow.holds Try.pinned (OpenSpec.ofChange failPartsSpec)

/-- ITS FALSE NEIGHBOUR: 'it returns false'. Refute it at one input. -/
def failPartsWrong : ChangeSpec := { name := "failParts", fn := fun _ => fun
  | [d1, d2, d3] => { results := [.lit (.bool false)], args := [d1, d2, d3] }
  | _ => none }
def FailPartsWrongFalsely : Prop := failPartsRow.holds Try.pinned (OpenSpec.ofChange failPartsWrong)

/-- 'demurragelaw.FailFinds': WHATEVER THE INPUT: true; the input reads as it did. -/
def failFindsSpec : ChangeSpec := { name := "failFinds", fn := fun _ => fun
  | [d1, d2] => { results := [.lit (.bool true)], args := [d1, d2] }
  | _ => none }
def failFindsRow : OpenClaim := { program := "ytbfeojdlaajpdaa", sum := "caed33e850f312476c8b824060ad8bb8e9adc6d5ae0f94dee653f9c53d6ad56c", func := "demurrage/demurragelaw.FailFinds", spec := "failFinds", unfollowed := true, recurses := true, apart := false }
def FailFindsSaid : Prop := failFindsRow.holds Try.pinned (OpenSpec.ofChange failFindsSpec)

/-- ITS FALSE NEIGHBOUR: 'it returns false'. Refute it at one input. -/
def failFindsWrong : ChangeSpec := { name := "failFinds", fn := fun _ => fun
  | [d1, d2] => { results := [.lit (.bool false)], args := [d1, d2] }
  | _ => none }
def FailFindsWrongFalsely : Prop := failFindsRow.holds Try.pinned (OpenSpec.ofChange failFindsWrong)

/-- 'demurragelaw.FailDone': WHATEVER THE INPUT: true; the input reads as it did. -/
def failDoneSpec : ChangeSpec := { name := "failDone", fn := fun _ => fun
  | [d1, d2] => { results := [.lit (.bool true)], args := [d1, d2] }
  | _ => none }
def failDoneRow : OpenClaim := { program := "ytbfeojdlaajpdaa", sum := "caed33e850f312476c8b824060ad8bb8e9adc6d5ae0f94dee653f9c53d6ad56c", func := "demurrage/demurragelaw.FailDone", spec := "failDone", unfollowed := true, recurses := true, apart := false }
def FailDoneSaid : Prop := failDoneRow.holds Try.pinned (OpenSpec.ofChange failDoneSpec)

/-- ITS FALSE NEIGHBOUR: 'it returns false'. Refute it at one input. -/
def failDoneWrong : ChangeSpec := { name := "failDone", fn := fun _ => fun
  | [d1, d2] => { results := [.lit (.bool false)], args := [d1, d2] }
  | _ => none }
def FailDoneWrongFalsely : Prop := failDoneRow.holds Try.pinned (OpenSpec.ofChange failDoneWrong)

/- THE SECOND FORM. 'bulk': how many values and letters a reading holds, each counted each time it is reached (what is shared counts as often as it is met; a slice's spare places count too). A statement '..UptoSaid' is the law's where the arguments, and the package variables that the reading takes, are together of bulk at most 1048576: NARROWER than '..Said'. Prove '..Said' where nothing that the law and all that it calls make is longer than what came in: it says more and counts as full. Else prove '..UptoSaid'. A law counts once. -/
mutual
def uptoBulk {H : Type} : DataW H → Nat
  | .lit (.string bytes) => bytes.length + 1
  | .lit _ => 1
  | .nil => 1
  | .ptr d => uptoBulk d + 1
  | .slice elems spare => uptoBulkAll elems + uptoBulkAll spare + 1
  | .agg parts => uptoBulkAll parts + 1
  | .iface _ d => uptoBulk d + 1
  | .map entries => uptoBulkEntries entries + 1
  | .held _ => 1
def uptoBulkAll {H : Type} : List (DataW H) → Nat
  | [] => 0
  | d :: r => uptoBulk d + uptoBulkAll r
def uptoBulkEntries {H : Type} : List (Lit × DataW H) → Nat
  | [] => 0
  | x :: r => uptoBulkEntry x + uptoBulkEntries r
def uptoBulkEntry {H : Type} : Lit × DataW H → Nat
  | (.string bytes, d) => bytes.length + uptoBulk d + 1
  | (_, d) => uptoBulk d + 1
 end
def uptoSmall : (H : Type) → List (DataW H) → Bool := fun _ ds => decide (uptoBulkAll ds ≤ 1048576)
def OpenSpec.upto (s : _root_.Go.ChangeSpec) : _root_.Go.OpenSpec := { _root_.Go.OpenSpec.ofChange s with cond := some uptoSmall }

/-- 'demurragelaw.GridTells', WHERE WHAT IT READS IS OF BULK AT MOST 1048576: true; the input reads as it did. -/
def gridTellsUptoRow : OpenClaim := { program := "ytbfeojdlaajpdaa", sum := "caed33e850f312476c8b824060ad8bb8e9adc6d5ae0f94dee653f9c53d6ad56c", func := "demurrage/demurragelaw.GridTells", spec := "gridTells", inPlace := ["math/bits.Add64"], unfollowed := true, recurses := true, apart := false, narrowed := true }
def GridTellsUptoSaid : Prop := gridTellsUptoRow.holds Try.pinned (OpenSpec.upto gridTellsSpec)

/-- 'demurragelaw.GridFair', WHERE WHAT IT READS IS OF BULK AT MOST 1048576: true; the input reads as it did. -/
def gridFairUptoRow : OpenClaim := { program := "ytbfeojdlaajpdaa", sum := "caed33e850f312476c8b824060ad8bb8e9adc6d5ae0f94dee653f9c53d6ad56c", func := "demurrage/demurragelaw.GridFair", spec := "gridFair", inPlace := ["math/bits.Add64"], unfollowed := true, recurses := true, apart := false, narrowed := true }
def GridFairUptoSaid : Prop := gridFairUptoRow.holds Try.pinned (OpenSpec.upto gridFairSpec)

/-- 'demurragelaw.GridMost', WHERE WHAT IT READS IS OF BULK AT MOST 1048576: true; the input reads as it did. -/
def gridMostUptoRow : OpenClaim := { program := "ytbfeojdlaajpdaa", sum := "caed33e850f312476c8b824060ad8bb8e9adc6d5ae0f94dee653f9c53d6ad56c", func := "demurrage/demurragelaw.GridMost", spec := "gridMost", inPlace := ["math/bits.Add64"], unfollowed := true, recurses := true, apart := false, narrowed := true }
def GridMostUptoSaid : Prop := gridMostUptoRow.holds Try.pinned (OpenSpec.upto gridMostSpec)

/-- 'demurragelaw.GridRing', WHERE WHAT IT READS IS OF BULK AT MOST 1048576: true; the input reads as it did. -/
def gridRingUptoRow : OpenClaim := { program := "ytbfeojdlaajpdaa", sum := "caed33e850f312476c8b824060ad8bb8e9adc6d5ae0f94dee653f9c53d6ad56c", func := "demurrage/demurragelaw.GridRing", spec := "gridRing", inPlace := ["math/bits.Add64"], unfollowed := true, recurses := true, apart := false, narrowed := true }
def GridRingUptoSaid : Prop := gridRingUptoRow.holds Try.pinned (OpenSpec.upto gridRingSpec)

/-- 'demurragelaw.GridRich', WHERE WHAT IT READS IS OF BULK AT MOST 1048576: true; the input reads as it did. -/
def gridRichUptoRow : OpenClaim := { program := "ytbfeojdlaajpdaa", sum := "caed33e850f312476c8b824060ad8bb8e9adc6d5ae0f94dee653f9c53d6ad56c", func := "demurrage/demurragelaw.GridRich", spec := "gridRich", inPlace := ["math/bits.Add64"], unfollowed := true, recurses := true, apart := false, narrowed := true }
def GridRichUptoSaid : Prop := gridRichUptoRow.holds Try.pinned (OpenSpec.upto gridRichSpec)

/-- 'demurragelaw.LotsTell', WHERE WHAT IT READS IS OF BULK AT MOST 1048576: true; the input reads as it did. -/
def lotsTellUptoRow : OpenClaim := { program := "ytbfeojdlaajpdaa", sum := "caed33e850f312476c8b824060ad8bb8e9adc6d5ae0f94dee653f9c53d6ad56c", func := "demurrage/demurragelaw.LotsTell", spec := "lotsTell", unfollowed := true, recurses := true, named := ["math/bits.divideError", "math/bits.overflowError"], apart := false, narrowed := true }
def LotsTellUptoSaid : Prop := lotsTellUptoRow.holds Try.pinned (OpenSpec.upto lotsTellSpec)

/-- 'demurragelaw.FailTells', WHERE WHAT IT READS IS OF BULK AT MOST 1048576: true; the input reads as it did. -/
def failTellsUptoRow : OpenClaim := { program := "ytbfeojdlaajpdaa", sum := "caed33e850f312476c8b824060ad8bb8e9adc6d5ae0f94dee653f9c53d6ad56c", func := "demurrage/demurragelaw.FailTells", spec := "failTells", unfollowed := true, recurses := true, apart := false, narrowed := true }
def FailTellsUptoSaid : Prop := failTellsUptoRow.holds Try.pinned (OpenSpec.upto failTellsSpec)

/-- 'demurragelaw.FailKeeps', WHERE WHAT IT READS IS OF BULK AT MOST 1048576: true; the input reads as it did. -/
def failKeepsUptoRow : OpenClaim := { program := "ytbfeojdlaajpdaa", sum := "caed33e850f312476c8b824060ad8bb8e9adc6d5ae0f94dee653f9c53d6ad56c", func := "demurrage/demurragelaw.FailKeeps", spec := "failKeeps", unfollowed := true, recurses := true, apart := false, narrowed := true }
def FailKeepsUptoSaid : Prop := failKeepsUptoRow.holds Try.pinned (OpenSpec.upto failKeepsSpec)

/-- 'demurragelaw.FailParts', WHERE WHAT IT READS IS OF BULK AT MOST 1048576: true; the input reads as it did. -/
def failPartsUptoRow : OpenClaim := { program := "ytbfeojdlaajpdaa", sum := "caed33e850f312476c8b824060ad8bb8e9adc6d5ae0f94dee653f9c53d6ad56c", func := "demurrage/demurragelaw.FailParts", spec := "failParts", unfollowed := true, recurses := true, apart := false, narrowed := true }
def FailPartsUptoSaid : Prop := failPartsUptoRow.holds Try.pinned (OpenSpec.upto failPartsSpec)

/-- 'demurragelaw.FailFinds', WHERE WHAT IT READS IS OF BULK AT MOST 1048576: true; the input reads as it did. -/
def failFindsUptoRow : OpenClaim := { program := "ytbfeojdlaajpdaa", sum := "caed33e850f312476c8b824060ad8bb8e9adc6d5ae0f94dee653f9c53d6ad56c", func := "demurrage/demurragelaw.FailFinds", spec := "failFinds", unfollowed := true, recurses := true, apart := false, narrowed := true }
def FailFindsUptoSaid : Prop := failFindsUptoRow.holds Try.pinned (OpenSpec.upto failFindsSpec)

/-- 'demurragelaw.FailDone', WHERE WHAT IT READS IS OF BULK AT MOST 1048576: true; the input reads as it did. -/
def failDoneUptoRow : OpenClaim := { program := "ytbfeojdlaajpdaa", sum := "caed33e850f312476c8b824060ad8bb8e9adc6d5ae0f94dee653f9c53d6ad56c", func := "demurrage/demurragelaw.FailDone", spec := "failDone", unfollowed := true, recurses := true, apart := false, narrowed := true }
def FailDoneUptoSaid : Prop := failDoneUptoRow.holds Try.pinned (OpenSpec.upto failDoneSpec)

end Rows
end Go.Proofs.Ytbfeojdlaajpdaa
