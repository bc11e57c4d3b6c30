/-
  What Check, Open, checkTaken, Deliver, Buy and Pay of package fail do.
-/
import Derived.Test.YtpkhhbplabfeaaaDoorFailB
namespace Go.Proofs.YtpkhhbplabfeaaaDoor
open Go.RowKit
set_option linter.unusedVariables false

/-- what Open gives: how many are open, or an error -/
def openV (i f t c p d u x b y : Int) : Int := if failE i f t c p d u x b y = 0 then u - x - b - y else 0
/-- the error of what is taken from a fail of which l are open -/
def takeE (E l n : Int) : Int := if E = 0 then (if n < 1 ∨ 1073741824 < n then 3 else if l = 0 then 5 else if l < n then 8 else 0) else E
end Go.Proofs.YtpkhhbplabfeaaaDoor
