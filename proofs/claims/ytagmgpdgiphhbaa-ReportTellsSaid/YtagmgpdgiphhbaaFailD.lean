/-
  What Deliver, Buy and Pay of package fail do.
-/
import Derived.Test.YtagmgpdgiphhbaaFailS
namespace Go.Proofs.Ytagmgpdgiphhbaa
open Go.RowKit
set_option linter.unusedVariables false


end Go.Proofs.Ytagmgpdgiphhbaa
