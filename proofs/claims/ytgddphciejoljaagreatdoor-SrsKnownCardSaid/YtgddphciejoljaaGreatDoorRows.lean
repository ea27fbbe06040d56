/-
  NARROWER THAN 'FOR EVERY INPUT', by the rows' own cells (each row's printed sentence says how): SrsBack: laid · SrsTwo: laid · SrsStays: laid · SrsKnown: laid.
  DERIVED. THE GIVEN ROWS OF THIS SEAT. 4 by the template 'for every input the law returns true; each argument reads behind the call as it read before'; 0 by the template 'total and deterministic' (their statements: YtgddphciejoljaaGreatDoorTotals.lean).
  GIVEN WITH THE SEED: the statements are not yours to turn. If you find one false, say at which input.
  Laid BY PROGRAM, IN A SANDBOX (cutbox-rows.mjs): the forced cells as the released guide's own fill.sh prints them over the translation 26cb8cb2b5c90b27… (all of the seat's roots in one cut). By AI agents, Wed Nov 11 2026. No macro, syntax, notation, axiom, sorry.
-/
import Derived.Test.YtgddphciejoljaaGreatDoorChecked
import GoSem.PinnedTables
import GoSem.Claim
import GoSem.ClaimJoined
import GoSem.ClaimMapViews
import Derived.JoinedTies
import Derived.KernelRfl
namespace Go.Proofs.YtgddphciejoljaaGreatDoor
/- THE CELL 'sum', in the pinned program and in every row, IS THE sha256 OF THE DUMP (.gsa) THAT YtgddphciejoljaaGreatDoorProg.lean LOADS. Nothing in Lean hashes anything: it is a label: what it is worth is what the hold of that sum in a sandbox is worth. -/
noncomputable def Tryz.pinned : Pinned := { name := "ytgddphciejoljaagreatdoor", sum := "26cb8cb2b5c90b277d6946abd136abdbafb6bb0e79cfa95c7eba98e7d690259d", checked := Tryz.checked }
namespace Rows
def none {H : Type} : Left H := { results := [], args := [] }

/- WHAT THE LISTED PACKAGE-LEVEL VARIABLES READ AS WHEN THE CALL BEGINS. Each datum BY PROGRAM (the guide's laid-datum.mjs) off the statement by which the dump's own 'gosem.cut.vars' lays the variable. In a bare row this is a premise. The card (YtgddphciejoljaaGreatDoorCards.lean) ties it to the program's text. -/
def laid_unicode_utf8_acceptRanges {H : Type} : DataW H := .agg [.agg [.lit (.int .u8 128), .lit (.int .u8 191)], .agg [.lit (.int .u8 160), .lit (.int .u8 191)], .agg [.lit (.int .u8 128), .lit (.int .u8 159)], .agg [.lit (.int .u8 144), .lit (.int .u8 191)], .agg [.lit (.int .u8 128), .lit (.int .u8 143)], .agg [.lit (.int .u8 0), .lit (.int .u8 0)], .agg [.lit (.int .u8 0), .lit (.int .u8 0)], .agg [.lit (.int .u8 0), .lit (.int .u8 0)], .agg [.lit (.int .u8 0), .lit (.int .u8 0)], .agg [.lit (.int .u8 0), .lit (.int .u8 0)], .agg [.lit (.int .u8 0), .lit (.int .u8 0)], .agg [.lit (.int .u8 0), .lit (.int .u8 0)], .agg [.lit (.int .u8 0), .lit (.int .u8 0)], .agg [.lit (.int .u8 0), .lit (.int .u8 0)], .agg [.lit (.int .u8 0), .lit (.int .u8 0)], .agg [.lit (.int .u8 0), .lit (.int .u8 0)]]
def laid_postrider_coding_kinds {H : Type} : DataW H := .agg [.agg [.lit (.string [65, 66, 67, 68, 69, 70, 71, 72, 73, 74, 75, 76, 77, 78, 79, 80, 81, 82, 83, 84, 85, 86, 87, 88, 89, 90, 50, 51, 52, 53, 54, 55]), .lit (.int .u64 5), .lit (.int .i64 1), .lit (.bool true)], .agg [.lit (.string [65, 66, 67, 68, 69, 70, 71, 72, 73, 74, 75, 76, 77, 78, 79, 80, 81, 82, 83, 84, 85, 86, 87, 88, 89, 90, 97, 98, 99, 100, 101, 102, 103, 104, 105, 106, 107, 108, 109, 110, 111, 112, 113, 114, 115, 116, 117, 118, 119, 120, 121, 122, 48, 49, 50, 51, 52, 53, 54, 55, 56, 57, 43, 47]), .lit (.int .u64 6), .lit (.int .i64 4), .lit (.bool false)], .agg [.lit (.string [48, 49, 50, 51, 52, 53, 54, 55, 56, 57, 97, 98, 99, 100, 101, 102]), .lit (.int .u64 4), .lit (.int .i64 1), .lit (.bool true)]]
/-- One of Go's own tables, pinned by name: the form's constant. -/
def laid_unicode_CaseRanges : DataW Unit := Go.Pinned.caseRanges
/-- One of Go's own tables, pinned by name: the form's constant. -/
def laid_unicode_utf8_first : DataW Unit := Go.Pinned.utf8First

/-- 'postriderlaw12.SrsBack': WHATEVER THE INPUT: true; the input reads as it did. -/
def srsBackSpec : ChangeSpec := { name := "srsBack", fn := fun _ => fun
  | [d1, d2, d3, d4] => { results := [.lit (.bool true)], args := [d1, d2, d3, d4] }
  | _ => none }
def srsBackRow : OpenClaim := { program := "ytgddphciejoljaagreatdoor", sum := "26cb8cb2b5c90b277d6946abd136abdbafb6bb0e79cfa95c7eba98e7d690259d", func := "postrider/postriderlaw12.SrsBack", spec := "srsBack", inPlace := ["internal/abi.NoEscape", "internal/bytealg.MakeNoZero", "internal/bytealg.CountString", "internal/bytealg.IndexByteString", "internal/bytealg.IndexString"], unfollowed := true, recurses := true, named := ["unicode/utf8.first", "unicode/utf8.acceptRanges", "internal/bytealg.MaxLen", "postrider/coding.kinds", "unicode.CaseRanges"], apart := false, laid := [("unicode/utf8.acceptRanges", laid_unicode_utf8_acceptRanges), ("postrider/coding.kinds", laid_postrider_coding_kinds), ("unicode.CaseRanges", laid_unicode_CaseRanges), ("unicode/utf8.first", laid_unicode_utf8_first)] }
def SrsBackSaid : Prop := srsBackRow.holds Tryz.pinned (OpenSpec.ofChange srsBackSpec)

/-- ITS FALSE NEIGHBOUR: 'it returns false'. Refute it at one input. -/
def srsBackWrong : ChangeSpec := { name := "srsBack", fn := fun _ => fun
  | [d1, d2, d3, d4] => { results := [.lit (.bool false)], args := [d1, d2, d3, d4] }
  | _ => none }
def SrsBackWrongFalsely : Prop := srsBackRow.holds Tryz.pinned (OpenSpec.ofChange srsBackWrong)

/-- 'postriderlaw12.SrsTwo': WHATEVER THE INPUT: true; the input reads as it did. -/
def srsTwoSpec : ChangeSpec := { name := "srsTwo", fn := fun _ => fun
  | [d1, d2, d3, d4] => { results := [.lit (.bool true)], args := [d1, d2, d3, d4] }
  | _ => none }
def srsTwoRow : OpenClaim := { program := "ytgddphciejoljaagreatdoor", sum := "26cb8cb2b5c90b277d6946abd136abdbafb6bb0e79cfa95c7eba98e7d690259d", func := "postrider/postriderlaw12.SrsTwo", spec := "srsTwo", inPlace := ["internal/abi.NoEscape", "internal/bytealg.MakeNoZero", "internal/bytealg.CountString", "internal/bytealg.IndexByteString", "internal/bytealg.IndexString"], unfollowed := true, recurses := true, named := ["unicode/utf8.first", "unicode/utf8.acceptRanges", "internal/bytealg.MaxLen", "postrider/coding.kinds"], apart := false, laid := [("unicode/utf8.acceptRanges", laid_unicode_utf8_acceptRanges), ("postrider/coding.kinds", laid_postrider_coding_kinds), ("unicode/utf8.first", laid_unicode_utf8_first)] }
def SrsTwoSaid : Prop := srsTwoRow.holds Tryz.pinned (OpenSpec.ofChange srsTwoSpec)

/-- ITS FALSE NEIGHBOUR: 'it returns false'. Refute it at one input. -/
def srsTwoWrong : ChangeSpec := { name := "srsTwo", fn := fun _ => fun
  | [d1, d2, d3, d4] => { results := [.lit (.bool false)], args := [d1, d2, d3, d4] }
  | _ => none }
def SrsTwoWrongFalsely : Prop := srsTwoRow.holds Tryz.pinned (OpenSpec.ofChange srsTwoWrong)

/-- 'postriderlaw12.SrsStays': WHATEVER THE INPUT: true; the input reads as it did. -/
def srsStaysSpec : ChangeSpec := { name := "srsStays", fn := fun _ => fun
  | [d1, d2, d3] => { results := [.lit (.bool true)], args := [d1, d2, d3] }
  | _ => none }
def srsStaysRow : OpenClaim := { program := "ytgddphciejoljaagreatdoor", sum := "26cb8cb2b5c90b277d6946abd136abdbafb6bb0e79cfa95c7eba98e7d690259d", func := "postrider/postriderlaw12.SrsStays", spec := "srsStays", inPlace := ["internal/bytealg.CountString", "internal/bytealg.IndexByteString", "internal/bytealg.IndexString", "internal/abi.NoEscape", "internal/bytealg.MakeNoZero"], unfollowed := true, recurses := true, named := ["unicode/utf8.first", "unicode/utf8.acceptRanges", "internal/bytealg.MaxLen", "postrider/coding.kinds"], apart := false, laid := [("unicode/utf8.acceptRanges", laid_unicode_utf8_acceptRanges), ("postrider/coding.kinds", laid_postrider_coding_kinds), ("unicode/utf8.first", laid_unicode_utf8_first)] }
def SrsStaysSaid : Prop := srsStaysRow.holds Tryz.pinned (OpenSpec.ofChange srsStaysSpec)

/-- ITS FALSE NEIGHBOUR: 'it returns false'. Refute it at one input. -/
def srsStaysWrong : ChangeSpec := { name := "srsStays", fn := fun _ => fun
  | [d1, d2, d3] => { results := [.lit (.bool false)], args := [d1, d2, d3] }
  | _ => none }
def SrsStaysWrongFalsely : Prop := srsStaysRow.holds Tryz.pinned (OpenSpec.ofChange srsStaysWrong)

/-- 'postriderlaw12.SrsKnown': WHATEVER THE INPUT: true; the input reads as it did. -/
def srsKnownSpec : ChangeSpec := { name := "srsKnown", fn := fun _ => fun
  | [] => { results := [.lit (.bool true)], args := [] }
  | _ => none }
def srsKnownRow : OpenClaim := { program := "ytgddphciejoljaagreatdoor", sum := "26cb8cb2b5c90b277d6946abd136abdbafb6bb0e79cfa95c7eba98e7d690259d", func := "postrider/postriderlaw12.SrsKnown", spec := "srsKnown", inPlace := ["internal/bytealg.CountString", "internal/bytealg.IndexByteString", "internal/bytealg.IndexString", "internal/abi.NoEscape", "internal/bytealg.MakeNoZero"], unfollowed := true, recurses := true, named := ["postrider/coding.kinds", "unicode/utf8.first", "unicode/utf8.acceptRanges", "internal/bytealg.MaxLen"], apart := false, laid := [("unicode/utf8.acceptRanges", laid_unicode_utf8_acceptRanges), ("postrider/coding.kinds", laid_postrider_coding_kinds), ("unicode/utf8.first", laid_unicode_utf8_first)] }
def SrsKnownSaid : Prop := srsKnownRow.holds Tryz.pinned (OpenSpec.ofChange srsKnownSpec)

/-- ITS FALSE NEIGHBOUR: 'it returns false'. Refute it at one input. -/
def srsKnownWrong : ChangeSpec := { name := "srsKnown", fn := fun _ => fun
  | [] => { results := [.lit (.bool false)], args := [] }
  | _ => none }
def SrsKnownWrongFalsely : Prop := srsKnownRow.holds Tryz.pinned (OpenSpec.ofChange srsKnownWrong)

/- THE SECOND FORM. 'bulk': how many values and letters a reading holds, each counted each time it is reached (what is shared counts as often as it is met; a slice's spare places count too). A statement '..UptoSaid' is the law's where the arguments, and the package variables that the reading takes, are together of bulk at most 1048576: NARROWER than '..Said'. Prove '..Said' where nothing that the law and all that it calls make is longer than what came in: it says more and counts as full. Else prove '..UptoSaid'. A law counts once. -/
mutual
def uptoBulk {H : Type} : DataW H → Nat
  | .lit (.string bytes) => bytes.length + 1
  | .lit _ => 1
  | .nil => 1
  | .ptr d => uptoBulk d + 1
  | .slice elems spare => uptoBulkAll elems + uptoBulkAll spare + 1
  | .agg parts => uptoBulkAll parts + 1
  | .iface _ d => uptoBulk d + 1
  | .map entries => uptoBulkEntries entries + 1
  | .held _ => 1
def uptoBulkAll {H : Type} : List (DataW H) → Nat
  | [] => 0
  | d :: r => uptoBulk d + uptoBulkAll r
def uptoBulkEntries {H : Type} : List (Lit × DataW H) → Nat
  | [] => 0
  | x :: r => uptoBulkEntry x + uptoBulkEntries r
def uptoBulkEntry {H : Type} : Lit × DataW H → Nat
  | (.string bytes, d) => bytes.length + uptoBulk d + 1
  | (_, d) => uptoBulk d + 1
 end
def uptoSmall : (H : Type) → List (DataW H) → Bool := fun _ ds => decide (uptoBulkAll ds ≤ 1048576)
def OpenSpec.upto (s : _root_.Go.ChangeSpec) : _root_.Go.OpenSpec := { _root_.Go.OpenSpec.ofChange s with cond := some uptoSmall }

/-- 'postriderlaw12.SrsBack', WHERE WHAT IT READS IS OF BULK AT MOST 1048576: true; the input reads as it did. -/
def srsBackUptoRow : OpenClaim := { program := "ytgddphciejoljaagreatdoor", sum := "26cb8cb2b5c90b277d6946abd136abdbafb6bb0e79cfa95c7eba98e7d690259d", func := "postrider/postriderlaw12.SrsBack", spec := "srsBack", inPlace := ["internal/abi.NoEscape", "internal/bytealg.MakeNoZero", "internal/bytealg.CountString", "internal/bytealg.IndexByteString", "internal/bytealg.IndexString"], unfollowed := true, recurses := true, named := ["unicode/utf8.first", "unicode/utf8.acceptRanges", "internal/bytealg.MaxLen", "postrider/coding.kinds", "unicode.CaseRanges"], apart := false, laid := [("unicode/utf8.acceptRanges", laid_unicode_utf8_acceptRanges), ("postrider/coding.kinds", laid_postrider_coding_kinds), ("unicode.CaseRanges", laid_unicode_CaseRanges), ("unicode/utf8.first", laid_unicode_utf8_first)], narrowed := true }
def SrsBackUptoSaid : Prop := srsBackUptoRow.holds Tryz.pinned (OpenSpec.upto srsBackSpec)

/-- 'postriderlaw12.SrsTwo', WHERE WHAT IT READS IS OF BULK AT MOST 1048576: true; the input reads as it did. -/
def srsTwoUptoRow : OpenClaim := { program := "ytgddphciejoljaagreatdoor", sum := "26cb8cb2b5c90b277d6946abd136abdbafb6bb0e79cfa95c7eba98e7d690259d", func := "postrider/postriderlaw12.SrsTwo", spec := "srsTwo", inPlace := ["internal/abi.NoEscape", "internal/bytealg.MakeNoZero", "internal/bytealg.CountString", "internal/bytealg.IndexByteString", "internal/bytealg.IndexString"], unfollowed := true, recurses := true, named := ["unicode/utf8.first", "unicode/utf8.acceptRanges", "internal/bytealg.MaxLen", "postrider/coding.kinds"], apart := false, laid := [("unicode/utf8.acceptRanges", laid_unicode_utf8_acceptRanges), ("postrider/coding.kinds", laid_postrider_coding_kinds), ("unicode/utf8.first", laid_unicode_utf8_first)], narrowed := true }
def SrsTwoUptoSaid : Prop := srsTwoUptoRow.holds Tryz.pinned (OpenSpec.upto srsTwoSpec)

/-- 'postriderlaw12.SrsStays', WHERE WHAT IT READS IS OF BULK AT MOST 1048576: true; the input reads as it did. -/
def srsStaysUptoRow : OpenClaim := { program := "ytgddphciejoljaagreatdoor", sum := "26cb8cb2b5c90b277d6946abd136abdbafb6bb0e79cfa95c7eba98e7d690259d", func := "postrider/postriderlaw12.SrsStays", spec := "srsStays", inPlace := ["internal/bytealg.CountString", "internal/bytealg.IndexByteString", "internal/bytealg.IndexString", "internal/abi.NoEscape", "internal/bytealg.MakeNoZero"], unfollowed := true, recurses := true, named := ["unicode/utf8.first", "unicode/utf8.acceptRanges", "internal/bytealg.MaxLen", "postrider/coding.kinds"], apart := false, laid := [("unicode/utf8.acceptRanges", laid_unicode_utf8_acceptRanges), ("postrider/coding.kinds", laid_postrider_coding_kinds), ("unicode/utf8.first", laid_unicode_utf8_first)], narrowed := true }
def SrsStaysUptoSaid : Prop := srsStaysUptoRow.holds Tryz.pinned (OpenSpec.upto srsStaysSpec)

/-- 'postriderlaw12.SrsKnown', WHERE WHAT IT READS IS OF BULK AT MOST 1048576: true; the input reads as it did. -/
def srsKnownUptoRow : OpenClaim := { program := "ytgddphciejoljaagreatdoor", sum := "26cb8cb2b5c90b277d6946abd136abdbafb6bb0e79cfa95c7eba98e7d690259d", func := "postrider/postriderlaw12.SrsKnown", spec := "srsKnown", inPlace := ["internal/bytealg.CountString", "internal/bytealg.IndexByteString", "internal/bytealg.IndexString", "internal/abi.NoEscape", "internal/bytealg.MakeNoZero"], unfollowed := true, recurses := true, named := ["postrider/coding.kinds", "unicode/utf8.first", "unicode/utf8.acceptRanges", "internal/bytealg.MaxLen"], apart := false, laid := [("unicode/utf8.acceptRanges", laid_unicode_utf8_acceptRanges), ("postrider/coding.kinds", laid_postrider_coding_kinds), ("unicode/utf8.first", laid_unicode_utf8_first)], narrowed := true }
def SrsKnownUptoSaid : Prop := srsKnownUptoRow.holds Tryz.pinned (OpenSpec.upto srsKnownSpec)

end Rows
end Go.Proofs.YtgddphciejoljaaGreatDoor
