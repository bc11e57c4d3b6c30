/-
  Merged: RefFail2.
-/
import Derived.Test.YtgccipmeiceonaaMk8
-- RefFail2
namespace Go.Proofs.Ytgccipmeiceonaa
open Go.RowKit
set_option linter.unusedVariables false

end Go.Proofs.Ytgccipmeiceonaa
