/-
  DERIVED. GIVEN WITH THE SEED: THE CARDS: each row of YteidcplhneiaoaaDoorRows.lean that lists a variable, with what it lists TIED to the program's text (the seventh form; the later family's looks); each row that meets fmt, with fmt's text TOLD by the authors' own Lean function (tested against real Go, not proved from fmt's source: count such statements apart). THE CARD IS WHAT COUNTS. Prove the row's statement (the work); the ties are given (YteidcplhneiaoaaDoorTie.lean); close each card by the builder's one call (the guide's Derived/Test/ToyasCard.lean, 'card_holds'). Laid BY PROGRAM, IN A SANDBOX (cutbox-door.mjs). By AI agents, Wed Nov 11 2026. No macro, syntax, notation, axiom, sorry.
-/
import Derived.Test.YteidcplhneiaoaaDoorRows
import GoSem.ClaimSeven
namespace Go.Proofs.YteidcplhneiaoaaDoor
namespace Rows

/-- THE TIED CARD OF 'demurragelaw.DateTells'. -/
def dateTellsCard : Claim7 := { stood := { row := dateTellsRow, standIns := [], harness := (true, "994bc9a71381461ab544d29d31979123cf8fb37a300bc26a5e571d9594d499d5"), looks := false }, kinds := [], alts := [], laidByText := true, laidKinds := [.data], laidTests := true, laidLooks := .later }
def DateTellsCardSaid : Prop := Claim7.holds Tryd.pinned (.plain (OpenSpec.ofChange dateTellsSpec)) dateTellsCard

/-- THE TIED CARD OF 'demurragelaw.DateBack'. -/
def dateBackCard : Claim7 := { stood := { row := dateBackRow, standIns := [], harness := (true, "994bc9a71381461ab544d29d31979123cf8fb37a300bc26a5e571d9594d499d5"), looks := false }, kinds := [], alts := [], laidByText := true, laidKinds := [.data], laidTests := true, laidLooks := .later }
def DateBackCardSaid : Prop := Claim7.holds Tryd.pinned (.plain (OpenSpec.ofChange dateBackSpec)) dateBackCard

/-- THE TIED CARD OF 'demurragelaw.DateRound'. -/
def dateRoundCard : Claim7 := { stood := { row := dateRoundRow, standIns := [], harness := (true, "994bc9a71381461ab544d29d31979123cf8fb37a300bc26a5e571d9594d499d5"), looks := false }, kinds := [], alts := [], laidByText := true, laidKinds := [.data], laidTests := true, laidLooks := .later }
def DateRoundCardSaid : Prop := Claim7.holds Tryd.pinned (.plain (OpenSpec.ofChange dateRoundSpec)) dateRoundCard

/-- THE TIED CARD OF 'demurragelaw.DateOrder'. -/
def dateOrderCard : Claim7 := { stood := { row := dateOrderRow, standIns := [], harness := (true, "994bc9a71381461ab544d29d31979123cf8fb37a300bc26a5e571d9594d499d5"), looks := false }, kinds := [], alts := [], laidByText := true, laidKinds := [.data], laidTests := true, laidLooks := .later }
def DateOrderCardSaid : Prop := Claim7.holds Tryd.pinned (.plain (OpenSpec.ofChange dateOrderSpec)) dateOrderCard

/-- THE TIED CARD OF 'demurragelaw.DateMonths'. -/
def dateMonthsCard : Claim7 := { stood := { row := dateMonthsRow, standIns := [], harness := (true, "994bc9a71381461ab544d29d31979123cf8fb37a300bc26a5e571d9594d499d5"), looks := false }, kinds := [], alts := [], laidByText := true, laidKinds := [.data], laidTests := true, laidLooks := .later }
def DateMonthsCardSaid : Prop := Claim7.holds Tryd.pinned (.plain (OpenSpec.ofChange dateMonthsSpec)) dateMonthsCard

/-- THE TIED CARD OF 'demurragelaw.DateLong'. -/
def dateLongCard : Claim7 := { stood := { row := dateLongRow, standIns := [], harness := (true, "994bc9a71381461ab544d29d31979123cf8fb37a300bc26a5e571d9594d499d5"), looks := false }, kinds := [], alts := [], laidByText := true, laidKinds := [.data], laidTests := true, laidLooks := .later }
def DateLongCardSaid : Prop := Claim7.holds Tryd.pinned (.plain (OpenSpec.ofChange dateLongSpec)) dateLongCard

/-- THE TIED CARD OF 'demurragelaw.CalTells'. -/
def calTellsCard : Claim7 := { stood := { row := calTellsRow, standIns := [], harness := (true, "994bc9a71381461ab544d29d31979123cf8fb37a300bc26a5e571d9594d499d5"), looks := false }, kinds := [], alts := [], laidByText := true, laidKinds := [.data], laidTests := true, laidLooks := .later }
def CalTellsCardSaid : Prop := Claim7.holds Tryd.pinned (.plain (OpenSpec.ofChange calTellsSpec)) calTellsCard

/-- THE TIED CARD OF 'demurragelaw.CalBack'. -/
def calBackCard : Claim7 := { stood := { row := calBackRow, standIns := [], harness := (true, "994bc9a71381461ab544d29d31979123cf8fb37a300bc26a5e571d9594d499d5"), looks := false }, kinds := [], alts := [], laidByText := true, laidKinds := [.data], laidTests := true, laidLooks := .later }
def CalBackCardSaid : Prop := Claim7.holds Tryd.pinned (.plain (OpenSpec.ofChange calBackSpec)) calBackCard

/-- THE TIED CARD OF 'demurragelaw.CalParts'. -/
def calPartsCard : Claim7 := { stood := { row := calPartsRow, standIns := [], harness := (true, "994bc9a71381461ab544d29d31979123cf8fb37a300bc26a5e571d9594d499d5"), looks := false }, kinds := [], alts := [], laidByText := true, laidKinds := [.data], laidTests := true, laidLooks := .later }
def CalPartsCardSaid : Prop := Claim7.holds Tryd.pinned (.plain (OpenSpec.ofChange calPartsSpec)) calPartsCard

/-- THE TIED CARD OF 'demurragelaw.CalNext'. -/
def calNextCard : Claim7 := { stood := { row := calNextRow, standIns := [], harness := (true, "994bc9a71381461ab544d29d31979123cf8fb37a300bc26a5e571d9594d499d5"), looks := false }, kinds := [], alts := [], laidByText := true, laidKinds := [.data], laidTests := true, laidLooks := .later }
def CalNextCardSaid : Prop := Claim7.holds Tryd.pinned (.plain (OpenSpec.ofChange calNextSpec)) calNextCard

/-- THE TIED CARD OF 'demurragelaw.CalFit'. -/
def calFitCard : Claim7 := { stood := { row := calFitRow, standIns := [], harness := (true, "994bc9a71381461ab544d29d31979123cf8fb37a300bc26a5e571d9594d499d5"), looks := false }, kinds := [], alts := [], laidByText := true, laidKinds := [.data], laidTests := true, laidLooks := .later }
def CalFitCardSaid : Prop := Claim7.holds Tryd.pinned (.plain (OpenSpec.ofChange calFitSpec)) calFitCard

/-- THE TIED CARD OF 'demurragelaw.CalHoliday'. -/
def calHolidayCard : Claim7 := { stood := { row := calHolidayRow, standIns := [], harness := (true, "994bc9a71381461ab544d29d31979123cf8fb37a300bc26a5e571d9594d499d5"), looks := false }, kinds := [], alts := [], laidByText := true, laidKinds := [.data], laidTests := true, laidLooks := .later }
def CalHolidayCardSaid : Prop := Claim7.holds Tryd.pinned (.plain (OpenSpec.ofChange calHolidaySpec)) calHolidayCard

/-- THE SECOND FORM's CARD OF 'demurragelaw.DateTells'. -/
def dateTellsUptoCard : Claim7 := { stood := { row := dateTellsUptoRow, standIns := [], harness := (true, "994bc9a71381461ab544d29d31979123cf8fb37a300bc26a5e571d9594d499d5"), looks := false }, kinds := [], alts := [], laidByText := true, laidKinds := [.data], laidTests := true, laidLooks := .later }
def DateTellsUptoCardSaid : Prop := Claim7.holds Tryd.pinned (.plain (OpenSpec.upto dateTellsSpec)) dateTellsUptoCard

/-- THE SECOND FORM's CARD OF 'demurragelaw.DateBack'. -/
def dateBackUptoCard : Claim7 := { stood := { row := dateBackUptoRow, standIns := [], harness := (true, "994bc9a71381461ab544d29d31979123cf8fb37a300bc26a5e571d9594d499d5"), looks := false }, kinds := [], alts := [], laidByText := true, laidKinds := [.data], laidTests := true, laidLooks := .later }
def DateBackUptoCardSaid : Prop := Claim7.holds Tryd.pinned (.plain (OpenSpec.upto dateBackSpec)) dateBackUptoCard

/-- THE SECOND FORM's CARD OF 'demurragelaw.DateRound'. -/
def dateRoundUptoCard : Claim7 := { stood := { row := dateRoundUptoRow, standIns := [], harness := (true, "994bc9a71381461ab544d29d31979123cf8fb37a300bc26a5e571d9594d499d5"), looks := false }, kinds := [], alts := [], laidByText := true, laidKinds := [.data], laidTests := true, laidLooks := .later }
def DateRoundUptoCardSaid : Prop := Claim7.holds Tryd.pinned (.plain (OpenSpec.upto dateRoundSpec)) dateRoundUptoCard

/-- THE SECOND FORM's CARD OF 'demurragelaw.DateOrder'. -/
def dateOrderUptoCard : Claim7 := { stood := { row := dateOrderUptoRow, standIns := [], harness := (true, "994bc9a71381461ab544d29d31979123cf8fb37a300bc26a5e571d9594d499d5"), looks := false }, kinds := [], alts := [], laidByText := true, laidKinds := [.data], laidTests := true, laidLooks := .later }
def DateOrderUptoCardSaid : Prop := Claim7.holds Tryd.pinned (.plain (OpenSpec.upto dateOrderSpec)) dateOrderUptoCard

/-- THE SECOND FORM's CARD OF 'demurragelaw.DateMonths'. -/
def dateMonthsUptoCard : Claim7 := { stood := { row := dateMonthsUptoRow, standIns := [], harness := (true, "994bc9a71381461ab544d29d31979123cf8fb37a300bc26a5e571d9594d499d5"), looks := false }, kinds := [], alts := [], laidByText := true, laidKinds := [.data], laidTests := true, laidLooks := .later }
def DateMonthsUptoCardSaid : Prop := Claim7.holds Tryd.pinned (.plain (OpenSpec.upto dateMonthsSpec)) dateMonthsUptoCard

/-- THE SECOND FORM's CARD OF 'demurragelaw.DateLong'. -/
def dateLongUptoCard : Claim7 := { stood := { row := dateLongUptoRow, standIns := [], harness := (true, "994bc9a71381461ab544d29d31979123cf8fb37a300bc26a5e571d9594d499d5"), looks := false }, kinds := [], alts := [], laidByText := true, laidKinds := [.data], laidTests := true, laidLooks := .later }
def DateLongUptoCardSaid : Prop := Claim7.holds Tryd.pinned (.plain (OpenSpec.upto dateLongSpec)) dateLongUptoCard

/-- THE SECOND FORM's CARD OF 'demurragelaw.CalTells'. -/
def calTellsUptoCard : Claim7 := { stood := { row := calTellsUptoRow, standIns := [], harness := (true, "994bc9a71381461ab544d29d31979123cf8fb37a300bc26a5e571d9594d499d5"), looks := false }, kinds := [], alts := [], laidByText := true, laidKinds := [.data], laidTests := true, laidLooks := .later }
def CalTellsUptoCardSaid : Prop := Claim7.holds Tryd.pinned (.plain (OpenSpec.upto calTellsSpec)) calTellsUptoCard

/-- THE SECOND FORM's CARD OF 'demurragelaw.CalBack'. -/
def calBackUptoCard : Claim7 := { stood := { row := calBackUptoRow, standIns := [], harness := (true, "994bc9a71381461ab544d29d31979123cf8fb37a300bc26a5e571d9594d499d5"), looks := false }, kinds := [], alts := [], laidByText := true, laidKinds := [.data], laidTests := true, laidLooks := .later }
def CalBackUptoCardSaid : Prop := Claim7.holds Tryd.pinned (.plain (OpenSpec.upto calBackSpec)) calBackUptoCard

/-- THE SECOND FORM's CARD OF 'demurragelaw.CalParts'. -/
def calPartsUptoCard : Claim7 := { stood := { row := calPartsUptoRow, standIns := [], harness := (true, "994bc9a71381461ab544d29d31979123cf8fb37a300bc26a5e571d9594d499d5"), looks := false }, kinds := [], alts := [], laidByText := true, laidKinds := [.data], laidTests := true, laidLooks := .later }
def CalPartsUptoCardSaid : Prop := Claim7.holds Tryd.pinned (.plain (OpenSpec.upto calPartsSpec)) calPartsUptoCard

/-- THE SECOND FORM's CARD OF 'demurragelaw.CalNext'. -/
def calNextUptoCard : Claim7 := { stood := { row := calNextUptoRow, standIns := [], harness := (true, "994bc9a71381461ab544d29d31979123cf8fb37a300bc26a5e571d9594d499d5"), looks := false }, kinds := [], alts := [], laidByText := true, laidKinds := [.data], laidTests := true, laidLooks := .later }
def CalNextUptoCardSaid : Prop := Claim7.holds Tryd.pinned (.plain (OpenSpec.upto calNextSpec)) calNextUptoCard

/-- THE SECOND FORM's CARD OF 'demurragelaw.CalFit'. -/
def calFitUptoCard : Claim7 := { stood := { row := calFitUptoRow, standIns := [], harness := (true, "994bc9a71381461ab544d29d31979123cf8fb37a300bc26a5e571d9594d499d5"), looks := false }, kinds := [], alts := [], laidByText := true, laidKinds := [.data], laidTests := true, laidLooks := .later }
def CalFitUptoCardSaid : Prop := Claim7.holds Tryd.pinned (.plain (OpenSpec.upto calFitSpec)) calFitUptoCard

/-- THE SECOND FORM's CARD OF 'demurragelaw.CalHoliday'. -/
def calHolidayUptoCard : Claim7 := { stood := { row := calHolidayUptoRow, standIns := [], harness := (true, "994bc9a71381461ab544d29d31979123cf8fb37a300bc26a5e571d9594d499d5"), looks := false }, kinds := [], alts := [], laidByText := true, laidKinds := [.data], laidTests := true, laidLooks := .later }
def CalHolidayUptoCardSaid : Prop := Claim7.holds Tryd.pinned (.plain (OpenSpec.upto calHolidaySpec)) calHolidayUptoCard
end Rows
end Go.Proofs.YteidcplhneiaoaaDoor
