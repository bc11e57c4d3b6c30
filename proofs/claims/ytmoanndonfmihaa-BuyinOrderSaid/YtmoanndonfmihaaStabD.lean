/-
  What symMergeCmpFunc of package slices does where both sides have two elements or more, and the second one begins ahead of the middle, or there.
-/
import Derived.Test.YtmoanndonfmihaaStabM
namespace Go.Proofs.Ytmoanndonfmihaa
open Go.RowKit
set_option linter.unusedVariables false

end Go.Proofs.Ytmoanndonfmihaa
