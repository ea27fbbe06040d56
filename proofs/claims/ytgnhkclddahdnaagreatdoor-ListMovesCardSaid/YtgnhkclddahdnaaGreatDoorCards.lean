/-
  DERIVED. GIVEN WITH THE SEED: THE CARDS: each row of YtgnhkclddahdnaaGreatDoorRows.lean that lists a variable, with what it lists TIED to the program's text (the seventh form; the later family's looks); each row that meets fmt, with fmt's text TOLD by the authors' own Lean function (tested against real Go, not proved from fmt's source: count such statements apart). THE CARD IS WHAT COUNTS. Prove the row's statement (the work); the ties are given (YtgnhkclddahdnaaGreatDoorTie.lean); close each card by the builder's one call (the guide's Derived/Test/ToyasCard.lean, 'card_holds'). Laid BY PROGRAM, IN A SANDBOX (cutbox-door.mjs). By AI agents, Wed Nov 11 2026. No macro, syntax, notation, axiom, sorry.
-/
import Derived.Test.YtgnhkclddahdnaaGreatDoorRows
import GoSem.ClaimSeven
namespace Go.Proofs.YtgnhkclddahdnaaGreatDoor
namespace Rows

/-- THE TIED CARD OF 'postriderlaw08.ListPuts'. -/
def listPutsCard : Claim7 := { stood := { row := listPutsRow, standIns := [], harness := (true, "34d92bd2673475e23546debdf71dd15cb89b557f6ba57970d1d05f040c4c187d"), looks := false }, kinds := [], alts := [], laidByText := true, laidKinds := [.data, .data, .pinned], laidTests := true, laidLooks := .later }
def ListPutsCardSaid : Prop := Claim7.holds Tryz.pinned (.plain (OpenSpec.ofChange listPutsSpec)) listPutsCard

/-- THE TIED CARD OF 'postriderlaw08.ListMoves'. -/
def listMovesCard : Claim7 := { stood := { row := listMovesRow, standIns := [], harness := (true, "34d92bd2673475e23546debdf71dd15cb89b557f6ba57970d1d05f040c4c187d"), looks := false }, kinds := [], alts := [], laidByText := true, laidKinds := [.data, .data, .pinned], laidTests := true, laidLooks := .later }
def ListMovesCardSaid : Prop := Claim7.holds Tryz.pinned (.plain (OpenSpec.ofChange listMovesSpec)) listMovesCard

/-- THE TIED CARD OF 'postriderlaw08.ListKnown'. -/
def listKnownCard : Claim7 := { stood := { row := listKnownRow, standIns := [], harness := (true, "34d92bd2673475e23546debdf71dd15cb89b557f6ba57970d1d05f040c4c187d"), looks := false }, kinds := [], alts := [], laidByText := true, laidKinds := [.data, .data, .pinned], laidTests := true, laidLooks := .later }
def ListKnownCardSaid : Prop := Claim7.holds Tryz.pinned (.plain (OpenSpec.ofChange listKnownSpec)) listKnownCard

/-- THE SECOND FORM's CARD OF 'postriderlaw08.ListPuts'. -/
def listPutsUptoCard : Claim7 := { stood := { row := listPutsUptoRow, standIns := [], harness := (true, "34d92bd2673475e23546debdf71dd15cb89b557f6ba57970d1d05f040c4c187d"), looks := false }, kinds := [], alts := [], laidByText := true, laidKinds := [.data, .data, .pinned], laidTests := true, laidLooks := .later }
def ListPutsUptoCardSaid : Prop := Claim7.holds Tryz.pinned (.plain (OpenSpec.upto listPutsSpec)) listPutsUptoCard

/-- THE SECOND FORM's CARD OF 'postriderlaw08.ListMoves'. -/
def listMovesUptoCard : Claim7 := { stood := { row := listMovesUptoRow, standIns := [], harness := (true, "34d92bd2673475e23546debdf71dd15cb89b557f6ba57970d1d05f040c4c187d"), looks := false }, kinds := [], alts := [], laidByText := true, laidKinds := [.data, .data, .pinned], laidTests := true, laidLooks := .later }
def ListMovesUptoCardSaid : Prop := Claim7.holds Tryz.pinned (.plain (OpenSpec.upto listMovesSpec)) listMovesUptoCard

/-- THE SECOND FORM's CARD OF 'postriderlaw08.ListKnown'. -/
def listKnownUptoCard : Claim7 := { stood := { row := listKnownUptoRow, standIns := [], harness := (true, "34d92bd2673475e23546debdf71dd15cb89b557f6ba57970d1d05f040c4c187d"), looks := false }, kinds := [], alts := [], laidByText := true, laidKinds := [.data, .data, .pinned], laidTests := true, laidLooks := .later }
def ListKnownUptoCardSaid : Prop := Claim7.holds Tryz.pinned (.plain (OpenSpec.upto listKnownSpec)) listKnownUptoCard
end Rows
end Go.Proofs.YtgnhkclddahdnaaGreatDoor
