/-
  DERIVED. GIVEN WITH THE SEED: THE CARDS: each row of YtgnhkclddahdnaaDoorRows.lean that lists a variable, with what it lists TIED to the program's text (the seventh form; the later family's looks); each row that meets fmt, with fmt's text TOLD by the authors' own Lean function (tested against real Go, not proved from fmt's source: count such statements apart). THE CARD IS WHAT COUNTS. Prove the row's statement (the work); the ties are given (YtgnhkclddahdnaaDoorTie.lean); close each card by the builder's one call (the guide's Derived/Test/ToyasCard.lean, 'card_holds'). Laid BY PROGRAM, IN A SANDBOX (cutbox-door.mjs). By AI agents, Wed Nov 11 2026. No macro, syntax, notation, axiom, sorry.
-/
import Derived.Test.YtgnhkclddahdnaaDoorRows
import GoSem.ClaimSeven
namespace Go.Proofs.YtgnhkclddahdnaaDoor
namespace Rows

/-- THE TIED CARD OF 'postriderlaw08.ListFinds'. -/
def listFindsCard : Claim7 := { stood := { row := listFindsRow, standIns := [], harness := (true, "1a49e150781c4e70761589ee061b1b2a6909a36126546bb5053068a699be9dae"), looks := false }, kinds := [], alts := [], laidByText := true, laidKinds := [.data, .data, .pinned], laidTests := true, laidLooks := .later }
def ListFindsCardSaid : Prop := Claim7.holds Tryd.pinned (.plain (OpenSpec.ofChange listFindsSpec)) listFindsCard

/-- THE TIED CARD OF 'postriderlaw08.ListForms'. -/
def listFormsCard : Claim7 := { stood := { row := listFormsRow, standIns := [], harness := (true, "1a49e150781c4e70761589ee061b1b2a6909a36126546bb5053068a699be9dae"), looks := false }, kinds := [], alts := [], laidByText := true, laidKinds := [.data, .data, .pinned], laidTests := true, laidLooks := .later }
def ListFormsCardSaid : Prop := Claim7.holds Tryd.pinned (.plain (OpenSpec.ofChange listFormsSpec)) listFormsCard

/-- THE TIED CARD OF 'postriderlaw08.ListJoins'. -/
def listJoinsCard : Claim7 := { stood := { row := listJoinsRow, standIns := [], harness := (true, "1a49e150781c4e70761589ee061b1b2a6909a36126546bb5053068a699be9dae"), looks := false }, kinds := [], alts := [], laidByText := true, laidKinds := [.data, .data, .pinned], laidTests := true, laidLooks := .later }
def ListJoinsCardSaid : Prop := Claim7.holds Tryd.pinned (.plain (OpenSpec.ofChange listJoinsSpec)) listJoinsCard

/-- THE SECOND FORM's CARD OF 'postriderlaw08.ListFinds'. -/
def listFindsUptoCard : Claim7 := { stood := { row := listFindsUptoRow, standIns := [], harness := (true, "1a49e150781c4e70761589ee061b1b2a6909a36126546bb5053068a699be9dae"), looks := false }, kinds := [], alts := [], laidByText := true, laidKinds := [.data, .data, .pinned], laidTests := true, laidLooks := .later }
def ListFindsUptoCardSaid : Prop := Claim7.holds Tryd.pinned (.plain (OpenSpec.upto listFindsSpec)) listFindsUptoCard

/-- THE SECOND FORM's CARD OF 'postriderlaw08.ListForms'. -/
def listFormsUptoCard : Claim7 := { stood := { row := listFormsUptoRow, standIns := [], harness := (true, "1a49e150781c4e70761589ee061b1b2a6909a36126546bb5053068a699be9dae"), looks := false }, kinds := [], alts := [], laidByText := true, laidKinds := [.data, .data, .pinned], laidTests := true, laidLooks := .later }
def ListFormsUptoCardSaid : Prop := Claim7.holds Tryd.pinned (.plain (OpenSpec.upto listFormsSpec)) listFormsUptoCard

/-- THE SECOND FORM's CARD OF 'postriderlaw08.ListJoins'. -/
def listJoinsUptoCard : Claim7 := { stood := { row := listJoinsUptoRow, standIns := [], harness := (true, "1a49e150781c4e70761589ee061b1b2a6909a36126546bb5053068a699be9dae"), looks := false }, kinds := [], alts := [], laidByText := true, laidKinds := [.data, .data, .pinned], laidTests := true, laidLooks := .later }
def ListJoinsUptoCardSaid : Prop := Claim7.holds Tryd.pinned (.plain (OpenSpec.upto listJoinsSpec)) listJoinsUptoCard
end Rows
end Go.Proofs.YtgnhkclddahdnaaDoor
