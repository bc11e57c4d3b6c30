/-
  What a call of Part answers.
-/
import Derived.Test.YtloeeepmmicpjaaAddRes
import Derived.Test.YtloeeepmmicpjaaPartRes
namespace Go.Proofs.Ytloeeepmmicpjaa
open Go.RowKit
set_option linter.unusedVariables false

theorem parts_here : True := trivial

end Go.Proofs.Ytloeeepmmicpjaa
