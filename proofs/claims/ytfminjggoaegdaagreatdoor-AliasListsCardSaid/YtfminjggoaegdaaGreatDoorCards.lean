/-
  DERIVED. GIVEN WITH THE SEED: THE CARDS: each row of YtfminjggoaegdaaGreatDoorRows.lean that lists a variable, with what it lists TIED to the program's text (the seventh form; the later family's looks); each row that meets fmt, with fmt's text TOLD by the authors' own Lean function (tested against real Go, not proved from fmt's source: count such statements apart). THE CARD IS WHAT COUNTS. Prove the row's statement (the work); the ties are given (YtfminjggoaegdaaGreatDoorTie.lean); close each card by the builder's one call (the guide's Derived/Test/ToyasCard.lean, 'card_holds'). Laid BY PROGRAM, IN A SANDBOX (cutbox-door.mjs). By AI agents, Wed Nov 11 2026. No macro, syntax, notation, axiom, sorry.
-/
import Derived.Test.YtfminjggoaegdaaGreatDoorRows
import GoSem.ClaimSeven
namespace Go.Proofs.YtfminjggoaegdaaGreatDoor
namespace Rows

/-- THE TIED CARD OF 'postriderlaw14.AliasLines'. -/
def aliasLinesCard : Claim7 := { stood := { row := aliasLinesRow, standIns := [], harness := (true, "3ef127b5be90139d0c33a0ddadd00745d81e82b1214debbda2e43e16e4d47b02"), looks := false }, kinds := [], alts := [], laidByText := true, laidKinds := [.data, .data, .data, .data, .data, .pinned, .pinned], laidTests := true, laidLooks := .later }
def AliasLinesCardSaid : Prop := Claim7.holds Tryz.pinned (.plain (OpenSpec.ofChange aliasLinesSpec)) aliasLinesCard

/-- THE TIED CARD OF 'postriderlaw14.AliasLists'. -/
def aliasListsCard : Claim7 := { stood := { row := aliasListsRow, standIns := [], harness := (true, "3ef127b5be90139d0c33a0ddadd00745d81e82b1214debbda2e43e16e4d47b02"), looks := false }, kinds := [], alts := [], laidByText := true, laidKinds := [.data, .data, .data, .data, .data, .pinned, .pinned], laidTests := true, laidLooks := .later }
def AliasListsCardSaid : Prop := Claim7.holds Tryz.pinned (.plain (OpenSpec.ofChange aliasListsSpec)) aliasListsCard

/-- THE SECOND FORM's CARD OF 'postriderlaw14.AliasLines'. -/
def aliasLinesUptoCard : Claim7 := { stood := { row := aliasLinesUptoRow, standIns := [], harness := (true, "3ef127b5be90139d0c33a0ddadd00745d81e82b1214debbda2e43e16e4d47b02"), looks := false }, kinds := [], alts := [], laidByText := true, laidKinds := [.data, .data, .data, .data, .data, .pinned, .pinned], laidTests := true, laidLooks := .later }
def AliasLinesUptoCardSaid : Prop := Claim7.holds Tryz.pinned (.plain (OpenSpec.upto aliasLinesSpec)) aliasLinesUptoCard

/-- THE SECOND FORM's CARD OF 'postriderlaw14.AliasLists'. -/
def aliasListsUptoCard : Claim7 := { stood := { row := aliasListsUptoRow, standIns := [], harness := (true, "3ef127b5be90139d0c33a0ddadd00745d81e82b1214debbda2e43e16e4d47b02"), looks := false }, kinds := [], alts := [], laidByText := true, laidKinds := [.data, .data, .data, .data, .data, .pinned, .pinned], laidTests := true, laidLooks := .later }
def AliasListsUptoCardSaid : Prop := Claim7.holds Tryz.pinned (.plain (OpenSpec.upto aliasListsSpec)) aliasListsUptoCard
end Rows
end Go.Proofs.YtfminjggoaegdaaGreatDoor
