/-
  DERIVED. GIVEN WITH THE SEED: THE CARDS: each row of YtgkhcjnehmfgiaaDoorRows.lean that lists a variable, with what it lists TIED to the program's text (the seventh form; the later family's looks); each row that meets fmt, with fmt's text TOLD by the authors' own Lean function (tested against real Go, not proved from fmt's source: count such statements apart). THE CARD IS WHAT COUNTS. Prove the row's statement (the work); the ties are given (YtgkhcjnehmfgiaaDoorTie.lean); close each card by the builder's one call (the guide's Derived/Test/ToyasCard.lean, 'card_holds'). Laid BY PROGRAM, IN A SANDBOX (cutbox-door.mjs). By AI agents, Wed Nov 11 2026. No macro, syntax, notation, axiom, sorry.
-/
import Derived.Test.YtgkhcjnehmfgiaaDoorRows
import GoSem.ClaimSeven
namespace Go.Proofs.YtgkhcjnehmfgiaaDoor
namespace Rows

/-- THE TIED CARD OF 'demurragelaw.CalTells'. -/
def calTellsCard : Claim7 := { stood := { row := calTellsRow, standIns := [], harness := (true, "62adc61f36e90222e333ba47d7a5329a3c6b497b5027190d5c8335dd3e97e23a"), looks := false }, kinds := [], alts := [], laidByText := true, laidKinds := [.data], laidTests := true, laidLooks := .later }
def CalTellsCardSaid : Prop := Claim7.holds Tryd.pinned (.plain (OpenSpec.ofChange calTellsSpec)) calTellsCard

/-- THE TIED CARD OF 'demurragelaw.CalHoliday'. -/
def calHolidayCard : Claim7 := { stood := { row := calHolidayRow, standIns := [], harness := (true, "62adc61f36e90222e333ba47d7a5329a3c6b497b5027190d5c8335dd3e97e23a"), looks := false }, kinds := [], alts := [], laidByText := true, laidKinds := [.data], laidTests := true, laidLooks := .later }
def CalHolidayCardSaid : Prop := Claim7.holds Tryd.pinned (.plain (OpenSpec.ofChange calHolidaySpec)) calHolidayCard

/-- THE SECOND FORM's CARD OF 'demurragelaw.CalTells'. -/
def calTellsUptoCard : Claim7 := { stood := { row := calTellsUptoRow, standIns := [], harness := (true, "62adc61f36e90222e333ba47d7a5329a3c6b497b5027190d5c8335dd3e97e23a"), looks := false }, kinds := [], alts := [], laidByText := true, laidKinds := [.data], laidTests := true, laidLooks := .later }
def CalTellsUptoCardSaid : Prop := Claim7.holds Tryd.pinned (.plain (OpenSpec.upto calTellsSpec)) calTellsUptoCard

/-- THE SECOND FORM's CARD OF 'demurragelaw.CalHoliday'. -/
def calHolidayUptoCard : Claim7 := { stood := { row := calHolidayUptoRow, standIns := [], harness := (true, "62adc61f36e90222e333ba47d7a5329a3c6b497b5027190d5c8335dd3e97e23a"), looks := false }, kinds := [], alts := [], laidByText := true, laidKinds := [.data], laidTests := true, laidLooks := .later }
def CalHolidayUptoCardSaid : Prop := Claim7.holds Tryd.pinned (.plain (OpenSpec.upto calHolidaySpec)) calHolidayUptoCard
end Rows
end Go.Proofs.YtgkhcjnehmfgiaaDoor
