/-
  What FailLess of the reference does.
-/
import Derived.Test.YtmcbebjipiojoaaRefFail
namespace Go.Proofs.Ytmcbebjipiojoaa
open Go.RowKit
set_option linter.unusedVariables false

end Go.Proofs.Ytmcbebjipiojoaa
