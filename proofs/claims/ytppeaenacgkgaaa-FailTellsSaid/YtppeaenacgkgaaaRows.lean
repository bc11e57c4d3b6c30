/-
  No cell of these rows narrows 'for every input' (looked for: loops, veiled, ifaces, maps, wideKeys, modest, calm, conditions, laid).
  DERIVED. THE GIVEN ROWS OF THIS SEAT. 4 by the template 'for every input the law returns true; each argument reads behind the call as it read before'; 0 by the template 'total and deterministic' (their statements: YtppeaenacgkgaaaTotals.lean).
  GIVEN WITH THE SEED: the statements are not yours to turn. If you find one false, say at which input.
  Laid BY PROGRAM, IN A SANDBOX (cutbox-rows.mjs): the forced cells as the released guide's own fill.sh prints them over the translation b6b7ef3328972b0b… (all of the seat's roots in one cut). By AI agents, Wed Nov 11 2026. No macro, syntax, notation, axiom, sorry.
-/
import Derived.Test.YtppeaenacgkgaaaChecked
import GoSem.Claim
import GoSem.ClaimJoined
import GoSem.ClaimMapViews
import Derived.JoinedTies
import Derived.KernelRfl
namespace Go.Proofs.Ytppeaenacgkgaaa
/- THE CELL 'sum', in the pinned program and in every row, IS THE sha256 OF THE DUMP (.gsa) THAT YtppeaenacgkgaaaProg.lean LOADS. Nothing in Lean hashes anything: it is a label: what it is worth is what the hold of that sum in a sandbox is worth. -/
noncomputable def Try.pinned : Pinned := { name := "ytppeaenacgkgaaa", sum := "b6b7ef3328972b0b070f561b3bfcbd02f928b521ae03921c94ef24cd82888f9b", checked := Try.checked }
namespace Rows
def none {H : Type} : Left H := { results := [], args := [] }

/-- 'demurragelaw.FailTells': WHATEVER THE INPUT: true; the input reads as it did. -/
def failTellsSpec : ChangeSpec := { name := "failTells", fn := fun _ => fun
  | [d1, d2, d3, d4] => { results := [.lit (.bool true)], args := [d1, d2, d3, d4] }
  | _ => none }
def failTellsRow : OpenClaim := { program := "ytppeaenacgkgaaa", sum := "b6b7ef3328972b0b070f561b3bfcbd02f928b521ae03921c94ef24cd82888f9b", func := "demurrage/demurragelaw.FailTells", spec := "failTells", unfollowed := true, recurses := true, apart := false }
def FailTellsSaid : Prop := failTellsRow.holds Try.pinned (OpenSpec.ofChange failTellsSpec)

/-- ITS FALSE NEIGHBOUR: 'it returns false'. Refute it at one input. -/
def failTellsWrong : ChangeSpec := { name := "failTells", fn := fun _ => fun
  | [d1, d2, d3, d4] => { results := [.lit (.bool false)], args := [d1, d2, d3, d4] }
  | _ => none }
def FailTellsWrongFalsely : Prop := failTellsRow.holds Try.pinned (OpenSpec.ofChange failTellsWrong)

/-- 'demurragelaw.FailFinds': WHATEVER THE INPUT: true; the input reads as it did. -/
def failFindsSpec : ChangeSpec := { name := "failFinds", fn := fun _ => fun
  | [d1, d2] => { results := [.lit (.bool true)], args := [d1, d2] }
  | _ => none }
def failFindsRow : OpenClaim := { program := "ytppeaenacgkgaaa", sum := "b6b7ef3328972b0b070f561b3bfcbd02f928b521ae03921c94ef24cd82888f9b", func := "demurrage/demurragelaw.FailFinds", spec := "failFinds", unfollowed := true, recurses := true, apart := false }
def FailFindsSaid : Prop := failFindsRow.holds Try.pinned (OpenSpec.ofChange failFindsSpec)

/-- ITS FALSE NEIGHBOUR: 'it returns false'. Refute it at one input. -/
def failFindsWrong : ChangeSpec := { name := "failFinds", fn := fun _ => fun
  | [d1, d2] => { results := [.lit (.bool false)], args := [d1, d2] }
  | _ => none }
def FailFindsWrongFalsely : Prop := failFindsRow.holds Try.pinned (OpenSpec.ofChange failFindsWrong)

/-- 'demurragelaw.GridTells': WHATEVER THE INPUT: true; the input reads as it did. -/
def gridTellsSpec : ChangeSpec := { name := "gridTells", fn := fun _ => fun
  | [d1, d2, d3] => { results := [.lit (.bool true)], args := [d1, d2, d3] }
  | _ => none }
def gridTellsRow : OpenClaim := { program := "ytppeaenacgkgaaa", sum := "b6b7ef3328972b0b070f561b3bfcbd02f928b521ae03921c94ef24cd82888f9b", func := "demurrage/demurragelaw.GridTells", spec := "gridTells", inPlace := ["math/bits.Add64"], unfollowed := true, recurses := true, apart := false }
def GridTellsSaid : Prop := gridTellsRow.holds Try.pinned (OpenSpec.ofChange gridTellsSpec)

/-- ITS FALSE NEIGHBOUR: 'it returns false'. Refute it at one input. -/
def gridTellsWrong : ChangeSpec := { name := "gridTells", fn := fun _ => fun
  | [d1, d2, d3] => { results := [.lit (.bool false)], args := [d1, d2, d3] }
  | _ => none }
def GridTellsWrongFalsely : Prop := gridTellsRow.holds Try.pinned (OpenSpec.ofChange gridTellsWrong)

/-- 'demurragelaw.LotsTell': WHATEVER THE INPUT: true; the input reads as it did. -/
def lotsTellSpec : ChangeSpec := { name := "lotsTell", fn := fun _ => fun
  | [d1, d2, d3, d4] => { results := [.lit (.bool true)], args := [d1, d2, d3, d4] }
  | _ => none }
def lotsTellRow : OpenClaim := { program := "ytppeaenacgkgaaa", sum := "b6b7ef3328972b0b070f561b3bfcbd02f928b521ae03921c94ef24cd82888f9b", func := "demurrage/demurragelaw.LotsTell", spec := "lotsTell", unfollowed := true, recurses := true, named := ["math/bits.divideError", "math/bits.overflowError"], apart := false }
def LotsTellSaid : Prop := lotsTellRow.holds Try.pinned (OpenSpec.ofChange lotsTellSpec)

/-- ITS FALSE NEIGHBOUR: 'it returns false'. Refute it at one input. -/
def lotsTellWrong : ChangeSpec := { name := "lotsTell", fn := fun _ => fun
  | [d1, d2, d3, d4] => { results := [.lit (.bool false)], args := [d1, d2, d3, d4] }
  | _ => none }
def LotsTellWrongFalsely : Prop := lotsTellRow.holds Try.pinned (OpenSpec.ofChange lotsTellWrong)

/- THE SECOND FORM. 'bulk': how many values and letters a reading holds, each counted each time it is reached (what is shared counts as often as it is met; a slice's spare places count too). A statement '..UptoSaid' is the law's where the arguments, and the package variables that the reading takes, are together of bulk at most 1048576: NARROWER than '..Said'. Prove '..Said' where nothing that the law and all that it calls make is longer than what came in: it says more and counts as full. Else prove '..UptoSaid'. A law counts once. -/
mutual
def uptoBulk {H : Type} : DataW H → Nat
  | .lit (.string bytes) => bytes.length + 1
  | .lit _ => 1
  | .nil => 1
  | .ptr d => uptoBulk d + 1
  | .slice elems spare => uptoBulkAll elems + uptoBulkAll spare + 1
  | .agg parts => uptoBulkAll parts + 1
  | .iface _ d => uptoBulk d + 1
  | .map entries => uptoBulkEntries entries + 1
  | .held _ => 1
def uptoBulkAll {H : Type} : List (DataW H) → Nat
  | [] => 0
  | d :: r => uptoBulk d + uptoBulkAll r
def uptoBulkEntries {H : Type} : List (Lit × DataW H) → Nat
  | [] => 0
  | x :: r => uptoBulkEntry x + uptoBulkEntries r
def uptoBulkEntry {H : Type} : Lit × DataW H → Nat
  | (.string bytes, d) => bytes.length + uptoBulk d + 1
  | (_, d) => uptoBulk d + 1
 end
def uptoSmall : (H : Type) → List (DataW H) → Bool := fun _ ds => decide (uptoBulkAll ds ≤ 1048576)
def OpenSpec.upto (s : _root_.Go.ChangeSpec) : _root_.Go.OpenSpec := { _root_.Go.OpenSpec.ofChange s with cond := some uptoSmall }

/-- 'demurragelaw.FailTells', WHERE WHAT IT READS IS OF BULK AT MOST 1048576: true; the input reads as it did. -/
def failTellsUptoRow : OpenClaim := { program := "ytppeaenacgkgaaa", sum := "b6b7ef3328972b0b070f561b3bfcbd02f928b521ae03921c94ef24cd82888f9b", func := "demurrage/demurragelaw.FailTells", spec := "failTells", unfollowed := true, recurses := true, apart := false, narrowed := true }
def FailTellsUptoSaid : Prop := failTellsUptoRow.holds Try.pinned (OpenSpec.upto failTellsSpec)

/-- 'demurragelaw.FailFinds', WHERE WHAT IT READS IS OF BULK AT MOST 1048576: true; the input reads as it did. -/
def failFindsUptoRow : OpenClaim := { program := "ytppeaenacgkgaaa", sum := "b6b7ef3328972b0b070f561b3bfcbd02f928b521ae03921c94ef24cd82888f9b", func := "demurrage/demurragelaw.FailFinds", spec := "failFinds", unfollowed := true, recurses := true, apart := false, narrowed := true }
def FailFindsUptoSaid : Prop := failFindsUptoRow.holds Try.pinned (OpenSpec.upto failFindsSpec)

/-- 'demurragelaw.GridTells', WHERE WHAT IT READS IS OF BULK AT MOST 1048576: true; the input reads as it did. -/
def gridTellsUptoRow : OpenClaim := { program := "ytppeaenacgkgaaa", sum := "b6b7ef3328972b0b070f561b3bfcbd02f928b521ae03921c94ef24cd82888f9b", func := "demurrage/demurragelaw.GridTells", spec := "gridTells", inPlace := ["math/bits.Add64"], unfollowed := true, recurses := true, apart := false, narrowed := true }
def GridTellsUptoSaid : Prop := gridTellsUptoRow.holds Try.pinned (OpenSpec.upto gridTellsSpec)

/-- 'demurragelaw.LotsTell', WHERE WHAT IT READS IS OF BULK AT MOST 1048576: true; the input reads as it did. -/
def lotsTellUptoRow : OpenClaim := { program := "ytppeaenacgkgaaa", sum := "b6b7ef3328972b0b070f561b3bfcbd02f928b521ae03921c94ef24cd82888f9b", func := "demurrage/demurragelaw.LotsTell", spec := "lotsTell", unfollowed := true, recurses := true, named := ["math/bits.divideError", "math/bits.overflowError"], apart := false, narrowed := true }
def LotsTellUptoSaid : Prop := lotsTellUptoRow.holds Try.pinned (OpenSpec.upto lotsTellSpec)

end Rows
end Go.Proofs.Ytppeaenacgkgaaa
