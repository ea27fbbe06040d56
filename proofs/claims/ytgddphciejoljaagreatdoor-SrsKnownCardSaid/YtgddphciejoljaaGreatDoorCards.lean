/-
  DERIVED. GIVEN WITH THE SEED: THE CARDS: each row of YtgddphciejoljaaGreatDoorRows.lean that lists a variable, with what it lists TIED to the program's text (the seventh form; the later family's looks); each row that meets fmt, with fmt's text TOLD by the authors' own Lean function (tested against real Go, not proved from fmt's source: count such statements apart). THE CARD IS WHAT COUNTS. Prove the row's statement (the work); the ties are given (YtgddphciejoljaaGreatDoorTie.lean); close each card by the builder's one call (the guide's Derived/Test/ToyasCard.lean, 'card_holds'). Laid BY PROGRAM, IN A SANDBOX (cutbox-door.mjs). By AI agents, Wed Nov 11 2026. No macro, syntax, notation, axiom, sorry.
-/
import Derived.Test.YtgddphciejoljaaGreatDoorRows
import GoSem.ClaimSeven
namespace Go.Proofs.YtgddphciejoljaaGreatDoor
namespace Rows

/-- THE TIED CARD OF 'postriderlaw12.SrsBack'. -/
def srsBackCard : Claim7 := { stood := { row := srsBackRow, standIns := [], harness := (true, "437b21ae6126db0682e7c0f2320de168c90d4f22a37b3671f3605a4890dfa293"), looks := false }, kinds := [], alts := [], laidByText := true, laidKinds := [.data, .wider, .pinned, .pinned], laidTests := true, laidLooks := .later }
def SrsBackCardSaid : Prop := Claim7.holds Tryz.pinned (.plain (OpenSpec.ofChange srsBackSpec)) srsBackCard

/-- THE TIED CARD OF 'postriderlaw12.SrsTwo'. -/
def srsTwoCard : Claim7 := { stood := { row := srsTwoRow, standIns := [], harness := (true, "437b21ae6126db0682e7c0f2320de168c90d4f22a37b3671f3605a4890dfa293"), looks := false }, kinds := [], alts := [], laidByText := true, laidKinds := [.data, .wider, .pinned], laidTests := true, laidLooks := .later }
def SrsTwoCardSaid : Prop := Claim7.holds Tryz.pinned (.plain (OpenSpec.ofChange srsTwoSpec)) srsTwoCard

/-- THE TIED CARD OF 'postriderlaw12.SrsStays'. -/
def srsStaysCard : Claim7 := { stood := { row := srsStaysRow, standIns := [], harness := (true, "437b21ae6126db0682e7c0f2320de168c90d4f22a37b3671f3605a4890dfa293"), looks := false }, kinds := [], alts := [], laidByText := true, laidKinds := [.data, .wider, .pinned], laidTests := true, laidLooks := .later }
def SrsStaysCardSaid : Prop := Claim7.holds Tryz.pinned (.plain (OpenSpec.ofChange srsStaysSpec)) srsStaysCard

/-- THE TIED CARD OF 'postriderlaw12.SrsKnown'. -/
def srsKnownCard : Claim7 := { stood := { row := srsKnownRow, standIns := [], harness := (true, "437b21ae6126db0682e7c0f2320de168c90d4f22a37b3671f3605a4890dfa293"), looks := false }, kinds := [], alts := [], laidByText := true, laidKinds := [.data, .wider, .pinned], laidTests := true, laidLooks := .later }
def SrsKnownCardSaid : Prop := Claim7.holds Tryz.pinned (.plain (OpenSpec.ofChange srsKnownSpec)) srsKnownCard

/-- THE SECOND FORM's CARD OF 'postriderlaw12.SrsBack'. -/
def srsBackUptoCard : Claim7 := { stood := { row := srsBackUptoRow, standIns := [], harness := (true, "437b21ae6126db0682e7c0f2320de168c90d4f22a37b3671f3605a4890dfa293"), looks := false }, kinds := [], alts := [], laidByText := true, laidKinds := [.data, .wider, .pinned, .pinned], laidTests := true, laidLooks := .later }
def SrsBackUptoCardSaid : Prop := Claim7.holds Tryz.pinned (.plain (OpenSpec.upto srsBackSpec)) srsBackUptoCard

/-- THE SECOND FORM's CARD OF 'postriderlaw12.SrsTwo'. -/
def srsTwoUptoCard : Claim7 := { stood := { row := srsTwoUptoRow, standIns := [], harness := (true, "437b21ae6126db0682e7c0f2320de168c90d4f22a37b3671f3605a4890dfa293"), looks := false }, kinds := [], alts := [], laidByText := true, laidKinds := [.data, .wider, .pinned], laidTests := true, laidLooks := .later }
def SrsTwoUptoCardSaid : Prop := Claim7.holds Tryz.pinned (.plain (OpenSpec.upto srsTwoSpec)) srsTwoUptoCard

/-- THE SECOND FORM's CARD OF 'postriderlaw12.SrsStays'. -/
def srsStaysUptoCard : Claim7 := { stood := { row := srsStaysUptoRow, standIns := [], harness := (true, "437b21ae6126db0682e7c0f2320de168c90d4f22a37b3671f3605a4890dfa293"), looks := false }, kinds := [], alts := [], laidByText := true, laidKinds := [.data, .wider, .pinned], laidTests := true, laidLooks := .later }
def SrsStaysUptoCardSaid : Prop := Claim7.holds Tryz.pinned (.plain (OpenSpec.upto srsStaysSpec)) srsStaysUptoCard

/-- THE SECOND FORM's CARD OF 'postriderlaw12.SrsKnown'. -/
def srsKnownUptoCard : Claim7 := { stood := { row := srsKnownUptoRow, standIns := [], harness := (true, "437b21ae6126db0682e7c0f2320de168c90d4f22a37b3671f3605a4890dfa293"), looks := false }, kinds := [], alts := [], laidByText := true, laidKinds := [.data, .wider, .pinned], laidTests := true, laidLooks := .later }
def SrsKnownUptoCardSaid : Prop := Claim7.holds Tryz.pinned (.plain (OpenSpec.upto srsKnownSpec)) srsKnownUptoCard
end Rows
end Go.Proofs.YtgddphciejoljaaGreatDoor
