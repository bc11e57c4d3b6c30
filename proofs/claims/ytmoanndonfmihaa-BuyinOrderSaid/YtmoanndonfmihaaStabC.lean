/-
  What symMergeCmpFunc of package slices does where both sides have two elements or more, and the second one begins behind the middle.
-/
import Derived.Test.YtmoanndonfmihaaStabM
namespace Go.Proofs.Ytmoanndonfmihaa
open Go.RowKit
set_option linter.unusedVariables false

end Go.Proofs.Ytmoanndonfmihaa
