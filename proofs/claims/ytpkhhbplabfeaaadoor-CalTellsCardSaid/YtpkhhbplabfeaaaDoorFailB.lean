/-
  What isDue of package fail does.
-/
import Derived.Test.YtpkhhbplabfeaaaDoorFailA
namespace Go.Proofs.YtpkhhbplabfeaaaDoor
open Go.RowKit
set_option linter.unusedVariables false

end Go.Proofs.YtpkhhbplabfeaaaDoor
