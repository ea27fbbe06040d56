/-
  DERIVED. GIVEN WITH THE SEED: THE CARDS: each row of YtioildcpkcijkaaDoorRows.lean that lists a variable, with what it lists TIED to the program's text (the seventh form; the later family's looks); each row that meets fmt, with fmt's text TOLD by the authors' own Lean function (tested against real Go, not proved from fmt's source: count such statements apart). THE CARD IS WHAT COUNTS. Prove the row's statement (the work); the ties are given (YtioildcpkcijkaaDoorTie.lean); close each card by the builder's one call (the guide's Derived/Test/ToyasCard.lean, 'card_holds'). Laid BY PROGRAM, IN A SANDBOX (cutbox-door.mjs). By AI agents, Wed Nov 11 2026. No macro, syntax, notation, axiom, sorry.
-/
import Derived.Test.YtioildcpkcijkaaDoorRows
import GoSem.ClaimSeven
namespace Go.Proofs.YtioildcpkcijkaaDoor
namespace Rows

/-- THE TIED CARD OF 'postriderlaw03.LogPlays'. -/
def logPlaysCard : Claim7 := { stood := { row := logPlaysRow, standIns := [], harness := (true, "d0bb8cabd021cc51a8f2c0fc5832e02b619c34900fb6d5d48294e47a98735ea5"), looks := false }, kinds := [], alts := [], laidByText := true, laidKinds := [.data], laidTests := true, laidLooks := .later }
def LogPlaysCardSaid : Prop := Claim7.holds Tryd.pinned (.plain (OpenSpec.ofChange logPlaysSpec)) logPlaysCard

/-- THE TIED CARD OF 'postriderlaw03.LogSure'. -/
def logSureCard : Claim7 := { stood := { row := logSureRow, standIns := [], harness := (true, "d0bb8cabd021cc51a8f2c0fc5832e02b619c34900fb6d5d48294e47a98735ea5"), looks := false }, kinds := [], alts := [], laidByText := true, laidKinds := [.data], laidTests := true, laidLooks := .later }
def LogSureCardSaid : Prop := Claim7.holds Tryd.pinned (.plain (OpenSpec.ofChange logSureSpec)) logSureCard

/-- THE TIED CARD OF 'postriderlaw03.LogAgain'. -/
def logAgainCard : Claim7 := { stood := { row := logAgainRow, standIns := [], harness := (true, "d0bb8cabd021cc51a8f2c0fc5832e02b619c34900fb6d5d48294e47a98735ea5"), looks := false }, kinds := [], alts := [], laidByText := true, laidKinds := [.data], laidTests := true, laidLooks := .later }
def LogAgainCardSaid : Prop := Claim7.holds Tryd.pinned (.plain (OpenSpec.ofChange logAgainSpec)) logAgainCard

/-- THE TIED CARD OF 'postriderlaw03.LogFull'. -/
def logFullCard : Claim7 := { stood := { row := logFullRow, standIns := [], harness := (true, "d0bb8cabd021cc51a8f2c0fc5832e02b619c34900fb6d5d48294e47a98735ea5"), looks := false }, kinds := [], alts := [], laidByText := true, laidKinds := [.data], laidTests := true, laidLooks := .later }
def LogFullCardSaid : Prop := Claim7.holds Tryd.pinned (.plain (OpenSpec.ofChange logFullSpec)) logFullCard

/-- THE TIED CARD OF 'postriderlaw03.LogKnown'. -/
def logKnownCard : Claim7 := { stood := { row := logKnownRow, standIns := [], harness := (true, "d0bb8cabd021cc51a8f2c0fc5832e02b619c34900fb6d5d48294e47a98735ea5"), looks := false }, kinds := [], alts := [], laidByText := true, laidKinds := [.data], laidTests := true, laidLooks := .later }
def LogKnownCardSaid : Prop := Claim7.holds Tryd.pinned (.plain (OpenSpec.ofChange logKnownSpec)) logKnownCard

/-- THE TIED CARD OF 'postriderlaw06.PathTells'. -/
def pathTellsCard : Claim7 := { stood := { row := pathTellsRow, standIns := [], harness := (true, "d0bb8cabd021cc51a8f2c0fc5832e02b619c34900fb6d5d48294e47a98735ea5"), looks := false }, kinds := [], alts := [], laidByText := true, laidKinds := [.data, .data, .pinned], laidTests := true, laidLooks := .later }
def PathTellsCardSaid : Prop := Claim7.holds Tryd.pinned (.plain (OpenSpec.ofChange pathTellsSpec)) pathTellsCard

/-- THE TIED CARD OF 'postriderlaw06.PathBack'. -/
def pathBackCard : Claim7 := { stood := { row := pathBackRow, standIns := [], harness := (true, "d0bb8cabd021cc51a8f2c0fc5832e02b619c34900fb6d5d48294e47a98735ea5"), looks := false }, kinds := [], alts := [], laidByText := true, laidKinds := [.data, .data, .pinned], laidTests := true, laidLooks := .later }
def PathBackCardSaid : Prop := Claim7.holds Tryd.pinned (.plain (OpenSpec.ofChange pathBackSpec)) pathBackCard

/-- THE TIED CARD OF 'postriderlaw06.PathRoutes'. -/
def pathRoutesCard : Claim7 := { stood := { row := pathRoutesRow, standIns := [], harness := (true, "d0bb8cabd021cc51a8f2c0fc5832e02b619c34900fb6d5d48294e47a98735ea5"), looks := false }, kinds := [], alts := [], laidByText := true, laidKinds := [.data, .data, .pinned], laidTests := true, laidLooks := .later }
def PathRoutesCardSaid : Prop := Claim7.holds Tryd.pinned (.plain (OpenSpec.ofChange pathRoutesSpec)) pathRoutesCard

/-- THE TIED CARD OF 'postriderlaw06.PathParams'. -/
def pathParamsCard : Claim7 := { stood := { row := pathParamsRow, standIns := [], harness := (true, "d0bb8cabd021cc51a8f2c0fc5832e02b619c34900fb6d5d48294e47a98735ea5"), looks := false }, kinds := [], alts := [], laidByText := true, laidKinds := [.data, .data, .pinned, .pinned], laidTests := true, laidLooks := .later }
def PathParamsCardSaid : Prop := Claim7.holds Tryd.pinned (.plain (OpenSpec.ofChange pathParamsSpec)) pathParamsCard

/-- THE SECOND FORM's CARD OF 'postriderlaw03.LogPlays'. -/
def logPlaysUptoCard : Claim7 := { stood := { row := logPlaysUptoRow, standIns := [], harness := (true, "d0bb8cabd021cc51a8f2c0fc5832e02b619c34900fb6d5d48294e47a98735ea5"), looks := false }, kinds := [], alts := [], laidByText := true, laidKinds := [.data], laidTests := true, laidLooks := .later }
def LogPlaysUptoCardSaid : Prop := Claim7.holds Tryd.pinned (.plain (OpenSpec.upto logPlaysSpec)) logPlaysUptoCard

/-- THE SECOND FORM's CARD OF 'postriderlaw03.LogSure'. -/
def logSureUptoCard : Claim7 := { stood := { row := logSureUptoRow, standIns := [], harness := (true, "d0bb8cabd021cc51a8f2c0fc5832e02b619c34900fb6d5d48294e47a98735ea5"), looks := false }, kinds := [], alts := [], laidByText := true, laidKinds := [.data], laidTests := true, laidLooks := .later }
def LogSureUptoCardSaid : Prop := Claim7.holds Tryd.pinned (.plain (OpenSpec.upto logSureSpec)) logSureUptoCard

/-- THE SECOND FORM's CARD OF 'postriderlaw03.LogAgain'. -/
def logAgainUptoCard : Claim7 := { stood := { row := logAgainUptoRow, standIns := [], harness := (true, "d0bb8cabd021cc51a8f2c0fc5832e02b619c34900fb6d5d48294e47a98735ea5"), looks := false }, kinds := [], alts := [], laidByText := true, laidKinds := [.data], laidTests := true, laidLooks := .later }
def LogAgainUptoCardSaid : Prop := Claim7.holds Tryd.pinned (.plain (OpenSpec.upto logAgainSpec)) logAgainUptoCard

/-- THE SECOND FORM's CARD OF 'postriderlaw03.LogFull'. -/
def logFullUptoCard : Claim7 := { stood := { row := logFullUptoRow, standIns := [], harness := (true, "d0bb8cabd021cc51a8f2c0fc5832e02b619c34900fb6d5d48294e47a98735ea5"), looks := false }, kinds := [], alts := [], laidByText := true, laidKinds := [.data], laidTests := true, laidLooks := .later }
def LogFullUptoCardSaid : Prop := Claim7.holds Tryd.pinned (.plain (OpenSpec.upto logFullSpec)) logFullUptoCard

/-- THE SECOND FORM's CARD OF 'postriderlaw03.LogKnown'. -/
def logKnownUptoCard : Claim7 := { stood := { row := logKnownUptoRow, standIns := [], harness := (true, "d0bb8cabd021cc51a8f2c0fc5832e02b619c34900fb6d5d48294e47a98735ea5"), looks := false }, kinds := [], alts := [], laidByText := true, laidKinds := [.data], laidTests := true, laidLooks := .later }
def LogKnownUptoCardSaid : Prop := Claim7.holds Tryd.pinned (.plain (OpenSpec.upto logKnownSpec)) logKnownUptoCard

/-- THE SECOND FORM's CARD OF 'postriderlaw06.PathTells'. -/
def pathTellsUptoCard : Claim7 := { stood := { row := pathTellsUptoRow, standIns := [], harness := (true, "d0bb8cabd021cc51a8f2c0fc5832e02b619c34900fb6d5d48294e47a98735ea5"), looks := false }, kinds := [], alts := [], laidByText := true, laidKinds := [.data, .data, .pinned], laidTests := true, laidLooks := .later }
def PathTellsUptoCardSaid : Prop := Claim7.holds Tryd.pinned (.plain (OpenSpec.upto pathTellsSpec)) pathTellsUptoCard

/-- THE SECOND FORM's CARD OF 'postriderlaw06.PathBack'. -/
def pathBackUptoCard : Claim7 := { stood := { row := pathBackUptoRow, standIns := [], harness := (true, "d0bb8cabd021cc51a8f2c0fc5832e02b619c34900fb6d5d48294e47a98735ea5"), looks := false }, kinds := [], alts := [], laidByText := true, laidKinds := [.data, .data, .pinned], laidTests := true, laidLooks := .later }
def PathBackUptoCardSaid : Prop := Claim7.holds Tryd.pinned (.plain (OpenSpec.upto pathBackSpec)) pathBackUptoCard

/-- THE SECOND FORM's CARD OF 'postriderlaw06.PathRoutes'. -/
def pathRoutesUptoCard : Claim7 := { stood := { row := pathRoutesUptoRow, standIns := [], harness := (true, "d0bb8cabd021cc51a8f2c0fc5832e02b619c34900fb6d5d48294e47a98735ea5"), looks := false }, kinds := [], alts := [], laidByText := true, laidKinds := [.data, .data, .pinned], laidTests := true, laidLooks := .later }
def PathRoutesUptoCardSaid : Prop := Claim7.holds Tryd.pinned (.plain (OpenSpec.upto pathRoutesSpec)) pathRoutesUptoCard

/-- THE SECOND FORM's CARD OF 'postriderlaw06.PathParams'. -/
def pathParamsUptoCard : Claim7 := { stood := { row := pathParamsUptoRow, standIns := [], harness := (true, "d0bb8cabd021cc51a8f2c0fc5832e02b619c34900fb6d5d48294e47a98735ea5"), looks := false }, kinds := [], alts := [], laidByText := true, laidKinds := [.data, .data, .pinned, .pinned], laidTests := true, laidLooks := .later }
def PathParamsUptoCardSaid : Prop := Claim7.holds Tryd.pinned (.plain (OpenSpec.upto pathParamsSpec)) pathParamsUptoCard
end Rows
end Go.Proofs.YtioildcpkcijkaaDoor
