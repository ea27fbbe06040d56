/-
  DERIVED. GIVEN WITH THE SEED: THE CARDS: each row of YtgdkekacalmjoaaDoorRows.lean that lists a variable, with what it lists TIED to the program's text (the seventh form; the later family's looks); each row that meets fmt, with fmt's text TOLD by the authors' own Lean function (tested against real Go, not proved from fmt's source: count such statements apart). THE CARD IS WHAT COUNTS. Prove the row's statement (the work); the ties are given (YtgdkekacalmjoaaDoorTie.lean); close each card by the builder's one call (the guide's Derived/Test/ToyasCard.lean, 'card_holds'). Laid BY PROGRAM, IN A SANDBOX (cutbox-door.mjs). By AI agents, Wed Nov 11 2026. No macro, syntax, notation, axiom, sorry.
-/
import Derived.Test.YtgdkekacalmjoaaDoorRows
import GoSem.ClaimSeven
namespace Go.Proofs.YtgdkekacalmjoaaDoor
namespace Rows

/-- THE TIED CARD OF 'postriderlaw06.PathTells'. -/
def pathTellsCard : Claim7 := { stood := { row := pathTellsRow, standIns := [], harness := (true, "2b3067ed4e49150d8a23d3240f491fcde3fab4726303bc171ff46b58e687268c"), looks := false }, kinds := [], alts := [], laidByText := true, laidKinds := [.data, .data, .pinned], laidTests := true, laidLooks := .later }
def PathTellsCardSaid : Prop := Claim7.holds Tryd.pinned (.plain (OpenSpec.ofChange pathTellsSpec)) pathTellsCard

/-- THE TIED CARD OF 'postriderlaw06.PathBack'. -/
def pathBackCard : Claim7 := { stood := { row := pathBackRow, standIns := [], harness := (true, "2b3067ed4e49150d8a23d3240f491fcde3fab4726303bc171ff46b58e687268c"), looks := false }, kinds := [], alts := [], laidByText := true, laidKinds := [.data, .data, .pinned], laidTests := true, laidLooks := .later }
def PathBackCardSaid : Prop := Claim7.holds Tryd.pinned (.plain (OpenSpec.ofChange pathBackSpec)) pathBackCard

/-- THE TIED CARD OF 'postriderlaw06.PathRoutes'. -/
def pathRoutesCard : Claim7 := { stood := { row := pathRoutesRow, standIns := [], harness := (true, "2b3067ed4e49150d8a23d3240f491fcde3fab4726303bc171ff46b58e687268c"), looks := false }, kinds := [], alts := [], laidByText := true, laidKinds := [.data, .data, .pinned], laidTests := true, laidLooks := .later }
def PathRoutesCardSaid : Prop := Claim7.holds Tryd.pinned (.plain (OpenSpec.ofChange pathRoutesSpec)) pathRoutesCard

/-- THE TIED CARD OF 'postriderlaw06.PathParams'. -/
def pathParamsCard : Claim7 := { stood := { row := pathParamsRow, standIns := [], harness := (true, "2b3067ed4e49150d8a23d3240f491fcde3fab4726303bc171ff46b58e687268c"), looks := false }, kinds := [], alts := [], laidByText := true, laidKinds := [.data, .data, .pinned, .pinned], laidTests := true, laidLooks := .later }
def PathParamsCardSaid : Prop := Claim7.holds Tryd.pinned (.plain (OpenSpec.ofChange pathParamsSpec)) pathParamsCard

/-- THE TIED CARD OF 'postriderlaw06.PathKnown'. -/
def pathKnownCard : Claim7 := { stood := { row := pathKnownRow, standIns := [], harness := (true, "2b3067ed4e49150d8a23d3240f491fcde3fab4726303bc171ff46b58e687268c"), looks := false }, kinds := [], alts := [], laidByText := true, laidKinds := [.data, .data, .pinned], laidTests := true, laidLooks := .later }
def PathKnownCardSaid : Prop := Claim7.holds Tryd.pinned (.plain (OpenSpec.ofChange pathKnownSpec)) pathKnownCard

/-- THE SECOND FORM's CARD OF 'postriderlaw06.PathTells'. -/
def pathTellsUptoCard : Claim7 := { stood := { row := pathTellsUptoRow, standIns := [], harness := (true, "2b3067ed4e49150d8a23d3240f491fcde3fab4726303bc171ff46b58e687268c"), looks := false }, kinds := [], alts := [], laidByText := true, laidKinds := [.data, .data, .pinned], laidTests := true, laidLooks := .later }
def PathTellsUptoCardSaid : Prop := Claim7.holds Tryd.pinned (.plain (OpenSpec.upto pathTellsSpec)) pathTellsUptoCard

/-- THE SECOND FORM's CARD OF 'postriderlaw06.PathBack'. -/
def pathBackUptoCard : Claim7 := { stood := { row := pathBackUptoRow, standIns := [], harness := (true, "2b3067ed4e49150d8a23d3240f491fcde3fab4726303bc171ff46b58e687268c"), looks := false }, kinds := [], alts := [], laidByText := true, laidKinds := [.data, .data, .pinned], laidTests := true, laidLooks := .later }
def PathBackUptoCardSaid : Prop := Claim7.holds Tryd.pinned (.plain (OpenSpec.upto pathBackSpec)) pathBackUptoCard

/-- THE SECOND FORM's CARD OF 'postriderlaw06.PathRoutes'. -/
def pathRoutesUptoCard : Claim7 := { stood := { row := pathRoutesUptoRow, standIns := [], harness := (true, "2b3067ed4e49150d8a23d3240f491fcde3fab4726303bc171ff46b58e687268c"), looks := false }, kinds := [], alts := [], laidByText := true, laidKinds := [.data, .data, .pinned], laidTests := true, laidLooks := .later }
def PathRoutesUptoCardSaid : Prop := Claim7.holds Tryd.pinned (.plain (OpenSpec.upto pathRoutesSpec)) pathRoutesUptoCard

/-- THE SECOND FORM's CARD OF 'postriderlaw06.PathParams'. -/
def pathParamsUptoCard : Claim7 := { stood := { row := pathParamsUptoRow, standIns := [], harness := (true, "2b3067ed4e49150d8a23d3240f491fcde3fab4726303bc171ff46b58e687268c"), looks := false }, kinds := [], alts := [], laidByText := true, laidKinds := [.data, .data, .pinned, .pinned], laidTests := true, laidLooks := .later }
def PathParamsUptoCardSaid : Prop := Claim7.holds Tryd.pinned (.plain (OpenSpec.upto pathParamsSpec)) pathParamsUptoCard

/-- THE SECOND FORM's CARD OF 'postriderlaw06.PathKnown'. -/
def pathKnownUptoCard : Claim7 := { stood := { row := pathKnownUptoRow, standIns := [], harness := (true, "2b3067ed4e49150d8a23d3240f491fcde3fab4726303bc171ff46b58e687268c"), looks := false }, kinds := [], alts := [], laidByText := true, laidKinds := [.data, .data, .pinned], laidTests := true, laidLooks := .later }
def PathKnownUptoCardSaid : Prop := Claim7.holds Tryd.pinned (.plain (OpenSpec.upto pathKnownSpec)) pathKnownUptoCard
end Rows
end Go.Proofs.YtgdkekacalmjoaaDoor
