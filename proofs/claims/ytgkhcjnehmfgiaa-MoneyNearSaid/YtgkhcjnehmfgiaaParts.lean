/-
  What a call of Part answers.
-/
import Derived.Test.YtgkhcjnehmfgiaaAddRes
import Derived.Test.YtgkhcjnehmfgiaaPartRes
namespace Go.Proofs.Ytgkhcjnehmfgiaa
open Go.RowKit
set_option linter.unusedVariables false

theorem parts_here : True := trivial

end Go.Proofs.Ytgkhcjnehmfgiaa
