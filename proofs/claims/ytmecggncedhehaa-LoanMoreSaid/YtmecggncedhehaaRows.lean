/-
  No cell of these rows narrows 'for every input' (looked for: loops, veiled, ifaces, maps, wideKeys, modest, calm, conditions, laid).
  DERIVED. THE GIVEN ROWS OF THIS SEAT. 10 by the template 'for every input the law returns true; each argument reads behind the call as it read before'; 0 by the template 'total and deterministic' (their statements: YtmecggncedhehaaTotals.lean).
  GIVEN WITH THE SEED: the statements are not yours to turn. If you find one false, say at which input.
  Laid BY PROGRAM, IN A SANDBOX (cutbox-rows.mjs): the forced cells as the released guide's own fill.sh prints them over the translation 8420cda9275d3205… (all of the seat's roots in one cut). By AI agents, Wed Nov 11 2026. No macro, syntax, notation, axiom, sorry.
-/
import Derived.Test.YtmecggncedhehaaChecked
import GoSem.Claim
import GoSem.ClaimJoined
import GoSem.ClaimMapViews
import Derived.JoinedTies
import Derived.KernelRfl
namespace Go.Proofs.Ytmecggncedhehaa
/- THE CELL 'sum', in the pinned program and in every row, IS THE sha256 OF THE DUMP (.gsa) THAT YtmecggncedhehaaProg.lean LOADS. Nothing in Lean hashes anything: it is a label: what it is worth is what the hold of that sum in a sandbox is worth. -/
noncomputable def Try.pinned : Pinned := { name := "ytmecggncedhehaa", sum := "8420cda9275d3205e5560e36dedc7b0262114a3dfaf8b75ef0991c10e40df5b2", checked := Try.checked }
namespace Rows
def none {H : Type} : Left H := { results := [], args := [] }

/-- 'demurragelaw.PenaltyTells': WHATEVER THE INPUT: true; the input reads as it did. -/
def penaltyTellsSpec : ChangeSpec := { name := "penaltyTells", fn := fun _ => fun
  | [d1, d2, d3, d4, d5, d6, d7, d8] => { results := [.lit (.bool true)], args := [d1, d2, d3, d4, d5, d6, d7, d8] }
  | _ => none }
def penaltyTellsRow : OpenClaim := { program := "ytmecggncedhehaa", sum := "8420cda9275d3205e5560e36dedc7b0262114a3dfaf8b75ef0991c10e40df5b2", func := "demurrage/demurragelaw.PenaltyTells", spec := "penaltyTells", inPlace := ["math/bits.Add64"], unfollowed := true, recurses := true, named := ["math/bits.divideError", "math/bits.overflowError"], apart := false }
def PenaltyTellsSaid : Prop := penaltyTellsRow.holds Try.pinned (OpenSpec.ofChange penaltyTellsSpec)

/-- ITS FALSE NEIGHBOUR: 'it returns false'. Refute it at one input. -/
def penaltyTellsWrong : ChangeSpec := { name := "penaltyTells", fn := fun _ => fun
  | [d1, d2, d3, d4, d5, d6, d7, d8] => { results := [.lit (.bool false)], args := [d1, d2, d3, d4, d5, d6, d7, d8] }
  | _ => none }
def PenaltyTellsWrongFalsely : Prop := penaltyTellsRow.holds Try.pinned (OpenSpec.ofChange penaltyTellsWrong)

/-- 'demurragelaw.PenaltyEach': WHATEVER THE INPUT: true; the input reads as it did. -/
def penaltyEachSpec : ChangeSpec := { name := "penaltyEach", fn := fun _ => fun
  | [d1, d2, d3, d4, d5, d6] => { results := [.lit (.bool true)], args := [d1, d2, d3, d4, d5, d6] }
  | _ => none }
def penaltyEachRow : OpenClaim := { program := "ytmecggncedhehaa", sum := "8420cda9275d3205e5560e36dedc7b0262114a3dfaf8b75ef0991c10e40df5b2", func := "demurrage/demurragelaw.PenaltyEach", spec := "penaltyEach", inPlace := ["math/bits.Add64"], unfollowed := true, recurses := true, named := ["math/bits.divideError", "math/bits.overflowError"], apart := false }
def PenaltyEachSaid : Prop := penaltyEachRow.holds Try.pinned (OpenSpec.ofChange penaltyEachSpec)

/-- ITS FALSE NEIGHBOUR: 'it returns false'. Refute it at one input. -/
def penaltyEachWrong : ChangeSpec := { name := "penaltyEach", fn := fun _ => fun
  | [d1, d2, d3, d4, d5, d6] => { results := [.lit (.bool false)], args := [d1, d2, d3, d4, d5, d6] }
  | _ => none }
def PenaltyEachWrongFalsely : Prop := penaltyEachRow.holds Try.pinned (OpenSpec.ofChange penaltyEachWrong)

/-- 'demurragelaw.PenaltyOnly': WHATEVER THE INPUT: true; the input reads as it did. -/
def penaltyOnlySpec : ChangeSpec := { name := "penaltyOnly", fn := fun _ => fun
  | [d1, d2, d3, d4, d5] => { results := [.lit (.bool true)], args := [d1, d2, d3, d4, d5] }
  | _ => none }
def penaltyOnlyRow : OpenClaim := { program := "ytmecggncedhehaa", sum := "8420cda9275d3205e5560e36dedc7b0262114a3dfaf8b75ef0991c10e40df5b2", func := "demurrage/demurragelaw.PenaltyOnly", spec := "penaltyOnly", inPlace := ["math/bits.Add64"], unfollowed := true, recurses := true, named := ["math/bits.divideError", "math/bits.overflowError"], apart := false }
def PenaltyOnlySaid : Prop := penaltyOnlyRow.holds Try.pinned (OpenSpec.ofChange penaltyOnlySpec)

/-- ITS FALSE NEIGHBOUR: 'it returns false'. Refute it at one input. -/
def penaltyOnlyWrong : ChangeSpec := { name := "penaltyOnly", fn := fun _ => fun
  | [d1, d2, d3, d4, d5] => { results := [.lit (.bool false)], args := [d1, d2, d3, d4, d5] }
  | _ => none }
def PenaltyOnlyWrongFalsely : Prop := penaltyOnlyRow.holds Try.pinned (OpenSpec.ofChange penaltyOnlyWrong)

/-- 'demurragelaw.PenaltyLess': WHATEVER THE INPUT: true; the input reads as it did. -/
def penaltyLessSpec : ChangeSpec := { name := "penaltyLess", fn := fun _ => fun
  | [d1, d2, d3, d4, d5, d6] => { results := [.lit (.bool true)], args := [d1, d2, d3, d4, d5, d6] }
  | _ => none }
def penaltyLessRow : OpenClaim := { program := "ytmecggncedhehaa", sum := "8420cda9275d3205e5560e36dedc7b0262114a3dfaf8b75ef0991c10e40df5b2", func := "demurrage/demurragelaw.PenaltyLess", spec := "penaltyLess", inPlace := ["math/bits.Add64"], unfollowed := true, recurses := true, named := ["math/bits.divideError", "math/bits.overflowError"], apart := false }
def PenaltyLessSaid : Prop := penaltyLessRow.holds Try.pinned (OpenSpec.ofChange penaltyLessSpec)

/-- ITS FALSE NEIGHBOUR: 'it returns false'. Refute it at one input. -/
def penaltyLessWrong : ChangeSpec := { name := "penaltyLess", fn := fun _ => fun
  | [d1, d2, d3, d4, d5, d6] => { results := [.lit (.bool false)], args := [d1, d2, d3, d4, d5, d6] }
  | _ => none }
def PenaltyLessWrongFalsely : Prop := penaltyLessRow.holds Try.pinned (OpenSpec.ofChange penaltyLessWrong)

/-- 'demurragelaw.LoanTells': WHATEVER THE INPUT: true; the input reads as it did. -/
def loanTellsSpec : ChangeSpec := { name := "loanTells", fn := fun _ => fun
  | [d1, d2, d3] => { results := [.lit (.bool true)], args := [d1, d2, d3] }
  | _ => none }
def loanTellsRow : OpenClaim := { program := "ytmecggncedhehaa", sum := "8420cda9275d3205e5560e36dedc7b0262114a3dfaf8b75ef0991c10e40df5b2", func := "demurrage/demurragelaw.LoanTells", spec := "loanTells", inPlace := ["math/bits.Add64"], unfollowed := true, recurses := true, named := ["math/bits.divideError", "math/bits.overflowError"], apart := false }
def LoanTellsSaid : Prop := loanTellsRow.holds Try.pinned (OpenSpec.ofChange loanTellsSpec)

/-- ITS FALSE NEIGHBOUR: 'it returns false'. Refute it at one input. -/
def loanTellsWrong : ChangeSpec := { name := "loanTells", fn := fun _ => fun
  | [d1, d2, d3] => { results := [.lit (.bool false)], args := [d1, d2, d3] }
  | _ => none }
def LoanTellsWrongFalsely : Prop := loanTellsRow.holds Try.pinned (OpenSpec.ofChange loanTellsWrong)

/-- 'demurragelaw.LoanFits': WHATEVER THE INPUT: true; the input reads as it did. -/
def loanFitsSpec : ChangeSpec := { name := "loanFits", fn := fun _ => fun
  | [d1, d2] => { results := [.lit (.bool true)], args := [d1, d2] }
  | _ => none }
def loanFitsRow : OpenClaim := { program := "ytmecggncedhehaa", sum := "8420cda9275d3205e5560e36dedc7b0262114a3dfaf8b75ef0991c10e40df5b2", func := "demurrage/demurragelaw.LoanFits", spec := "loanFits", inPlace := ["math/bits.Add64"], unfollowed := true, recurses := true, named := ["math/bits.divideError", "math/bits.overflowError"], apart := false }
def LoanFitsSaid : Prop := loanFitsRow.holds Try.pinned (OpenSpec.ofChange loanFitsSpec)

/-- ITS FALSE NEIGHBOUR: 'it returns false'. Refute it at one input. -/
def loanFitsWrong : ChangeSpec := { name := "loanFits", fn := fun _ => fun
  | [d1, d2] => { results := [.lit (.bool false)], args := [d1, d2] }
  | _ => none }
def LoanFitsWrongFalsely : Prop := loanFitsRow.holds Try.pinned (OpenSpec.ofChange loanFitsWrong)

/-- 'demurragelaw.LoanBest': WHATEVER THE INPUT: true; the input reads as it did. -/
def loanBestSpec : ChangeSpec := { name := "loanBest", fn := fun _ => fun
  | [d1, d2, d3] => { results := [.lit (.bool true)], args := [d1, d2, d3] }
  | _ => none }
def loanBestRow : OpenClaim := { program := "ytmecggncedhehaa", sum := "8420cda9275d3205e5560e36dedc7b0262114a3dfaf8b75ef0991c10e40df5b2", func := "demurrage/demurragelaw.LoanBest", spec := "loanBest", inPlace := ["math/bits.Add64"], unfollowed := true, recurses := true, named := ["math/bits.divideError", "math/bits.overflowError"], apart := false }
def LoanBestSaid : Prop := loanBestRow.holds Try.pinned (OpenSpec.ofChange loanBestSpec)

/-- ITS FALSE NEIGHBOUR: 'it returns false'. Refute it at one input. -/
def loanBestWrong : ChangeSpec := { name := "loanBest", fn := fun _ => fun
  | [d1, d2, d3] => { results := [.lit (.bool false)], args := [d1, d2, d3] }
  | _ => none }
def LoanBestWrongFalsely : Prop := loanBestRow.holds Try.pinned (OpenSpec.ofChange loanBestWrong)

/-- 'demurragelaw.LoanBack': WHATEVER THE INPUT: true; the input reads as it did. -/
def loanBackSpec : ChangeSpec := { name := "loanBack", fn := fun _ => fun
  | [d1, d2, d3, d4] => { results := [.lit (.bool true)], args := [d1, d2, d3, d4] }
  | _ => none }
def loanBackRow : OpenClaim := { program := "ytmecggncedhehaa", sum := "8420cda9275d3205e5560e36dedc7b0262114a3dfaf8b75ef0991c10e40df5b2", func := "demurrage/demurragelaw.LoanBack", spec := "loanBack", inPlace := ["math/bits.Add64"], unfollowed := true, recurses := true, named := ["math/bits.divideError", "math/bits.overflowError"], apart := false }
def LoanBackSaid : Prop := loanBackRow.holds Try.pinned (OpenSpec.ofChange loanBackSpec)

/-- ITS FALSE NEIGHBOUR: 'it returns false'. Refute it at one input. -/
def loanBackWrong : ChangeSpec := { name := "loanBack", fn := fun _ => fun
  | [d1, d2, d3, d4] => { results := [.lit (.bool false)], args := [d1, d2, d3, d4] }
  | _ => none }
def LoanBackWrongFalsely : Prop := loanBackRow.holds Try.pinned (OpenSpec.ofChange loanBackWrong)

/-- 'demurragelaw.LoanMore': WHATEVER THE INPUT: true; the input reads as it did. -/
def loanMoreSpec : ChangeSpec := { name := "loanMore", fn := fun _ => fun
  | [d1, d2, d3] => { results := [.lit (.bool true)], args := [d1, d2, d3] }
  | _ => none }
def loanMoreRow : OpenClaim := { program := "ytmecggncedhehaa", sum := "8420cda9275d3205e5560e36dedc7b0262114a3dfaf8b75ef0991c10e40df5b2", func := "demurrage/demurragelaw.LoanMore", spec := "loanMore", inPlace := ["math/bits.Add64"], unfollowed := true, recurses := true, named := ["math/bits.divideError", "math/bits.overflowError"], apart := false }
def LoanMoreSaid : Prop := loanMoreRow.holds Try.pinned (OpenSpec.ofChange loanMoreSpec)

/-- ITS FALSE NEIGHBOUR: 'it returns false'. Refute it at one input. -/
def loanMoreWrong : ChangeSpec := { name := "loanMore", fn := fun _ => fun
  | [d1, d2, d3] => { results := [.lit (.bool false)], args := [d1, d2, d3] }
  | _ => none }
def LoanMoreWrongFalsely : Prop := loanMoreRow.holds Try.pinned (OpenSpec.ofChange loanMoreWrong)

/-- 'demurragelaw.LoanOne': WHATEVER THE INPUT: true; the input reads as it did. -/
def loanOneSpec : ChangeSpec := { name := "loanOne", fn := fun _ => fun
  | [d1, d2] => { results := [.lit (.bool true)], args := [d1, d2] }
  | _ => none }
def loanOneRow : OpenClaim := { program := "ytmecggncedhehaa", sum := "8420cda9275d3205e5560e36dedc7b0262114a3dfaf8b75ef0991c10e40df5b2", func := "demurrage/demurragelaw.LoanOne", spec := "loanOne", inPlace := ["math/bits.Add64"], unfollowed := true, recurses := true, named := ["math/bits.divideError", "math/bits.overflowError"], apart := false }
def LoanOneSaid : Prop := loanOneRow.holds Try.pinned (OpenSpec.ofChange loanOneSpec)

/-- ITS FALSE NEIGHBOUR: 'it returns false'. Refute it at one input. -/
def loanOneWrong : ChangeSpec := { name := "loanOne", fn := fun _ => fun
  | [d1, d2] => { results := [.lit (.bool false)], args := [d1, d2] }
  | _ => none }
def LoanOneWrongFalsely : Prop := loanOneRow.holds Try.pinned (OpenSpec.ofChange loanOneWrong)

/- THE SECOND FORM. 'bulk': how many values and letters a reading holds, each counted each time it is reached (what is shared counts as often as it is met; a slice's spare places count too). A statement '..UptoSaid' is the law's where the arguments, and the package variables that the reading takes, are together of bulk at most 1048576: NARROWER than '..Said'. Prove '..Said' where nothing that the law and all that it calls make is longer than what came in: it says more and counts as full. Else prove '..UptoSaid'. A law counts once. -/
mutual
def uptoBulk {H : Type} : DataW H → Nat
  | .lit (.string bytes) => bytes.length + 1
  | .lit _ => 1
  | .nil => 1
  | .ptr d => uptoBulk d + 1
  | .slice elems spare => uptoBulkAll elems + uptoBulkAll spare + 1
  | .agg parts => uptoBulkAll parts + 1
  | .iface _ d => uptoBulk d + 1
  | .map entries => uptoBulkEntries entries + 1
  | .held _ => 1
def uptoBulkAll {H : Type} : List (DataW H) → Nat
  | [] => 0
  | d :: r => uptoBulk d + uptoBulkAll r
def uptoBulkEntries {H : Type} : List (Lit × DataW H) → Nat
  | [] => 0
  | x :: r => uptoBulkEntry x + uptoBulkEntries r
def uptoBulkEntry {H : Type} : Lit × DataW H → Nat
  | (.string bytes, d) => bytes.length + uptoBulk d + 1
  | (_, d) => uptoBulk d + 1
 end
def uptoSmall : (H : Type) → List (DataW H) → Bool := fun _ ds => decide (uptoBulkAll ds ≤ 1048576)
def OpenSpec.upto (s : _root_.Go.ChangeSpec) : _root_.Go.OpenSpec := { _root_.Go.OpenSpec.ofChange s with cond := some uptoSmall }

/-- 'demurragelaw.PenaltyTells', WHERE WHAT IT READS IS OF BULK AT MOST 1048576: true; the input reads as it did. -/
def penaltyTellsUptoRow : OpenClaim := { program := "ytmecggncedhehaa", sum := "8420cda9275d3205e5560e36dedc7b0262114a3dfaf8b75ef0991c10e40df5b2", func := "demurrage/demurragelaw.PenaltyTells", spec := "penaltyTells", inPlace := ["math/bits.Add64"], unfollowed := true, recurses := true, named := ["math/bits.divideError", "math/bits.overflowError"], apart := false, narrowed := true }
def PenaltyTellsUptoSaid : Prop := penaltyTellsUptoRow.holds Try.pinned (OpenSpec.upto penaltyTellsSpec)

/-- 'demurragelaw.PenaltyEach', WHERE WHAT IT READS IS OF BULK AT MOST 1048576: true; the input reads as it did. -/
def penaltyEachUptoRow : OpenClaim := { program := "ytmecggncedhehaa", sum := "8420cda9275d3205e5560e36dedc7b0262114a3dfaf8b75ef0991c10e40df5b2", func := "demurrage/demurragelaw.PenaltyEach", spec := "penaltyEach", inPlace := ["math/bits.Add64"], unfollowed := true, recurses := true, named := ["math/bits.divideError", "math/bits.overflowError"], apart := false, narrowed := true }
def PenaltyEachUptoSaid : Prop := penaltyEachUptoRow.holds Try.pinned (OpenSpec.upto penaltyEachSpec)

/-- 'demurragelaw.PenaltyOnly', WHERE WHAT IT READS IS OF BULK AT MOST 1048576: true; the input reads as it did. -/
def penaltyOnlyUptoRow : OpenClaim := { program := "ytmecggncedhehaa", sum := "8420cda9275d3205e5560e36dedc7b0262114a3dfaf8b75ef0991c10e40df5b2", func := "demurrage/demurragelaw.PenaltyOnly", spec := "penaltyOnly", inPlace := ["math/bits.Add64"], unfollowed := true, recurses := true, named := ["math/bits.divideError", "math/bits.overflowError"], apart := false, narrowed := true }
def PenaltyOnlyUptoSaid : Prop := penaltyOnlyUptoRow.holds Try.pinned (OpenSpec.upto penaltyOnlySpec)

/-- 'demurragelaw.PenaltyLess', WHERE WHAT IT READS IS OF BULK AT MOST 1048576: true; the input reads as it did. -/
def penaltyLessUptoRow : OpenClaim := { program := "ytmecggncedhehaa", sum := "8420cda9275d3205e5560e36dedc7b0262114a3dfaf8b75ef0991c10e40df5b2", func := "demurrage/demurragelaw.PenaltyLess", spec := "penaltyLess", inPlace := ["math/bits.Add64"], unfollowed := true, recurses := true, named := ["math/bits.divideError", "math/bits.overflowError"], apart := false, narrowed := true }
def PenaltyLessUptoSaid : Prop := penaltyLessUptoRow.holds Try.pinned (OpenSpec.upto penaltyLessSpec)

/-- 'demurragelaw.LoanTells', WHERE WHAT IT READS IS OF BULK AT MOST 1048576: true; the input reads as it did. -/
def loanTellsUptoRow : OpenClaim := { program := "ytmecggncedhehaa", sum := "8420cda9275d3205e5560e36dedc7b0262114a3dfaf8b75ef0991c10e40df5b2", func := "demurrage/demurragelaw.LoanTells", spec := "loanTells", inPlace := ["math/bits.Add64"], unfollowed := true, recurses := true, named := ["math/bits.divideError", "math/bits.overflowError"], apart := false, narrowed := true }
def LoanTellsUptoSaid : Prop := loanTellsUptoRow.holds Try.pinned (OpenSpec.upto loanTellsSpec)

/-- 'demurragelaw.LoanFits', WHERE WHAT IT READS IS OF BULK AT MOST 1048576: true; the input reads as it did. -/
def loanFitsUptoRow : OpenClaim := { program := "ytmecggncedhehaa", sum := "8420cda9275d3205e5560e36dedc7b0262114a3dfaf8b75ef0991c10e40df5b2", func := "demurrage/demurragelaw.LoanFits", spec := "loanFits", inPlace := ["math/bits.Add64"], unfollowed := true, recurses := true, named := ["math/bits.divideError", "math/bits.overflowError"], apart := false, narrowed := true }
def LoanFitsUptoSaid : Prop := loanFitsUptoRow.holds Try.pinned (OpenSpec.upto loanFitsSpec)

/-- 'demurragelaw.LoanBest', WHERE WHAT IT READS IS OF BULK AT MOST 1048576: true; the input reads as it did. -/
def loanBestUptoRow : OpenClaim := { program := "ytmecggncedhehaa", sum := "8420cda9275d3205e5560e36dedc7b0262114a3dfaf8b75ef0991c10e40df5b2", func := "demurrage/demurragelaw.LoanBest", spec := "loanBest", inPlace := ["math/bits.Add64"], unfollowed := true, recurses := true, named := ["math/bits.divideError", "math/bits.overflowError"], apart := false, narrowed := true }
def LoanBestUptoSaid : Prop := loanBestUptoRow.holds Try.pinned (OpenSpec.upto loanBestSpec)

/-- 'demurragelaw.LoanBack', WHERE WHAT IT READS IS OF BULK AT MOST 1048576: true; the input reads as it did. -/
def loanBackUptoRow : OpenClaim := { program := "ytmecggncedhehaa", sum := "8420cda9275d3205e5560e36dedc7b0262114a3dfaf8b75ef0991c10e40df5b2", func := "demurrage/demurragelaw.LoanBack", spec := "loanBack", inPlace := ["math/bits.Add64"], unfollowed := true, recurses := true, named := ["math/bits.divideError", "math/bits.overflowError"], apart := false, narrowed := true }
def LoanBackUptoSaid : Prop := loanBackUptoRow.holds Try.pinned (OpenSpec.upto loanBackSpec)

/-- 'demurragelaw.LoanMore', WHERE WHAT IT READS IS OF BULK AT MOST 1048576: true; the input reads as it did. -/
def loanMoreUptoRow : OpenClaim := { program := "ytmecggncedhehaa", sum := "8420cda9275d3205e5560e36dedc7b0262114a3dfaf8b75ef0991c10e40df5b2", func := "demurrage/demurragelaw.LoanMore", spec := "loanMore", inPlace := ["math/bits.Add64"], unfollowed := true, recurses := true, named := ["math/bits.divideError", "math/bits.overflowError"], apart := false, narrowed := true }
def LoanMoreUptoSaid : Prop := loanMoreUptoRow.holds Try.pinned (OpenSpec.upto loanMoreSpec)

/-- 'demurragelaw.LoanOne', WHERE WHAT IT READS IS OF BULK AT MOST 1048576: true; the input reads as it did. -/
def loanOneUptoRow : OpenClaim := { program := "ytmecggncedhehaa", sum := "8420cda9275d3205e5560e36dedc7b0262114a3dfaf8b75ef0991c10e40df5b2", func := "demurrage/demurragelaw.LoanOne", spec := "loanOne", inPlace := ["math/bits.Add64"], unfollowed := true, recurses := true, named := ["math/bits.divideError", "math/bits.overflowError"], apart := false, narrowed := true }
def LoanOneUptoSaid : Prop := loanOneUptoRow.holds Try.pinned (OpenSpec.upto loanOneSpec)

end Rows
end Go.Proofs.Ytmecggncedhehaa
