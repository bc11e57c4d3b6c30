/-
  Fails in memory: a fail is read whole and stored whole.
-/
import Derived.Test.YtpkhhbplabfeaaaDoorFailC
import Derived.Laws.Rows
import Derived.Laws.Tables
import Derived.Laws.CopyOwn
namespace Go.Proofs.YtpkhhbplabfeaaaDoor
open Go.RowKit
set_option linter.unusedVariables false

end Go.Proofs.YtpkhhbplabfeaaaDoor
