/-
  What SortStableFunc of package slices does with forty places or fewer, in a row of the call's own, whatever compares them by a key.
-/
import Derived.Test.YtmoanndonfmihaaStabF0
namespace Go.Proofs.Ytmoanndonfmihaa
open Go.RowKit Go.Lib
set_option linter.unusedVariables false



end Go.Proofs.Ytmoanndonfmihaa
