/-
  NARROWER THAN 'FOR EVERY INPUT', by the rows' own cells (each row's printed sentence says how): FrameChecks: laid · FrameOpens: laid · FrameBack: laid · FrameBits: laid · FrameChain: laid · FrameKnown: laid.
  DERIVED. THE GIVEN ROWS OF THIS SEAT. 6 by the template 'for every input the law returns true; each argument reads behind the call as it read before'; 0 by the template 'total and deterministic' (their statements: YtddjgbljpeafiaaDoorTotals.lean).
  GIVEN WITH THE SEED: the statements are not yours to turn. If you find one false, say at which input.
  Laid BY PROGRAM, IN A SANDBOX (cutbox-rows.mjs): the forced cells as the released guide's own fill.sh prints them over the translation 39456fec7f469a4f… (all of the seat's roots in one cut). By AI agents, Wed Nov 11 2026. No macro, syntax, notation, axiom, sorry.
-/
import Derived.Test.YtddjgbljpeafiaaDoorChecked
import GoSem.Claim
import GoSem.ClaimJoined
import GoSem.ClaimMapViews
import Derived.JoinedTies
import Derived.KernelRfl
namespace Go.Proofs.YtddjgbljpeafiaaDoor
/- THE CELL 'sum', in the pinned program and in every row, IS THE sha256 OF THE DUMP (.gsa) THAT YtddjgbljpeafiaaDoorProg.lean LOADS. Nothing in Lean hashes anything: it is a label: what it is worth is what the hold of that sum in a sandbox is worth. -/
noncomputable def Tryd.pinned : Pinned := { name := "ytddjgbljpeafiaadoor", sum := "39456fec7f469a4fb4e47a550e39e2a08af5b982ac3df647ad81a94fb4fcf250", checked := Tryd.checked }
namespace Rows
def none {H : Type} : Left H := { results := [], args := [] }

/- WHAT THE LISTED PACKAGE-LEVEL VARIABLES READ AS WHEN THE CALL BEGINS. Each datum BY PROGRAM (the guide's laid-datum.mjs) off the statement by which the dump's own 'gosem.cut.vars' lays the variable. In a bare row this is a premise. The card (YtddjgbljpeafiaaDoorCards.lean) ties it to the program's text. -/
def laid_postrider_frame_steps {H : Type} : DataW H := .agg [.lit (.int .u32 0), .lit (.int .u32 498536548), .lit (.int .u32 997073096), .lit (.int .u32 651767980), .lit (.int .u32 1994146192), .lit (.int .u32 1802195444), .lit (.int .u32 1303535960), .lit (.int .u32 1342533948), .lit (.int .u32 3988292384), .lit (.int .u32 4027552580), .lit (.int .u32 3604390888), .lit (.int .u32 3412177804), .lit (.int .u32 2607071920), .lit (.int .u32 2262029012), .lit (.int .u32 2685067896), .lit (.int .u32 3183342108)]

/-- 'postriderlaw02.FrameChecks': WHATEVER THE INPUT: true; the input reads as it did. -/
def frameChecksSpec : ChangeSpec := { name := "frameChecks", fn := fun _ => fun
  | [d1, d2, d3, d4] => { results := [.lit (.bool true)], args := [d1, d2, d3, d4] }
  | _ => none }
def frameChecksRow : OpenClaim := { program := "ytddjgbljpeafiaadoor", sum := "39456fec7f469a4fb4e47a550e39e2a08af5b982ac3df647ad81a94fb4fcf250", func := "postrider/postriderlaw02.FrameChecks", spec := "frameChecks", named := ["postrider/frame.steps"], apart := false, laid := [("postrider/frame.steps", laid_postrider_frame_steps)] }
def FrameChecksSaid : Prop := frameChecksRow.holds Tryd.pinned (OpenSpec.ofChange frameChecksSpec)

/-- ITS FALSE NEIGHBOUR: 'it returns false'. Refute it at one input. -/
def frameChecksWrong : ChangeSpec := { name := "frameChecks", fn := fun _ => fun
  | [d1, d2, d3, d4] => { results := [.lit (.bool false)], args := [d1, d2, d3, d4] }
  | _ => none }
def FrameChecksWrongFalsely : Prop := frameChecksRow.holds Tryd.pinned (OpenSpec.ofChange frameChecksWrong)

/-- 'postriderlaw02.FrameOpens': WHATEVER THE INPUT: true; the input reads as it did. -/
def frameOpensSpec : ChangeSpec := { name := "frameOpens", fn := fun _ => fun
  | [d1, d2, d3] => { results := [.lit (.bool true)], args := [d1, d2, d3] }
  | _ => none }
def frameOpensRow : OpenClaim := { program := "ytddjgbljpeafiaadoor", sum := "39456fec7f469a4fb4e47a550e39e2a08af5b982ac3df647ad81a94fb4fcf250", func := "postrider/postriderlaw02.FrameOpens", spec := "frameOpens", named := ["postrider/frame.steps"], apart := false, laid := [("postrider/frame.steps", laid_postrider_frame_steps)] }
def FrameOpensSaid : Prop := frameOpensRow.holds Tryd.pinned (OpenSpec.ofChange frameOpensSpec)

/-- ITS FALSE NEIGHBOUR: 'it returns false'. Refute it at one input. -/
def frameOpensWrong : ChangeSpec := { name := "frameOpens", fn := fun _ => fun
  | [d1, d2, d3] => { results := [.lit (.bool false)], args := [d1, d2, d3] }
  | _ => none }
def FrameOpensWrongFalsely : Prop := frameOpensRow.holds Tryd.pinned (OpenSpec.ofChange frameOpensWrong)

/-- 'postriderlaw02.FrameBack': WHATEVER THE INPUT: true; the input reads as it did. -/
def frameBackSpec : ChangeSpec := { name := "frameBack", fn := fun _ => fun
  | [d1, d2, d3, d4, d5] => { results := [.lit (.bool true)], args := [d1, d2, d3, d4, d5] }
  | _ => none }
def frameBackRow : OpenClaim := { program := "ytddjgbljpeafiaadoor", sum := "39456fec7f469a4fb4e47a550e39e2a08af5b982ac3df647ad81a94fb4fcf250", func := "postrider/postriderlaw02.FrameBack", spec := "frameBack", named := ["postrider/frame.steps"], apart := false, laid := [("postrider/frame.steps", laid_postrider_frame_steps)] }
def FrameBackSaid : Prop := frameBackRow.holds Tryd.pinned (OpenSpec.ofChange frameBackSpec)

/-- ITS FALSE NEIGHBOUR: 'it returns false'. Refute it at one input. -/
def frameBackWrong : ChangeSpec := { name := "frameBack", fn := fun _ => fun
  | [d1, d2, d3, d4, d5] => { results := [.lit (.bool false)], args := [d1, d2, d3, d4, d5] }
  | _ => none }
def FrameBackWrongFalsely : Prop := frameBackRow.holds Tryd.pinned (OpenSpec.ofChange frameBackWrong)

/-- 'postriderlaw02.FrameBits': WHATEVER THE INPUT: true; the input reads as it did. -/
def frameBitsSpec : ChangeSpec := { name := "frameBits", fn := fun _ => fun
  | [d1, d2, d3, d4, d5] => { results := [.lit (.bool true)], args := [d1, d2, d3, d4, d5] }
  | _ => none }
def frameBitsRow : OpenClaim := { program := "ytddjgbljpeafiaadoor", sum := "39456fec7f469a4fb4e47a550e39e2a08af5b982ac3df647ad81a94fb4fcf250", func := "postrider/postriderlaw02.FrameBits", spec := "frameBits", named := ["postrider/frame.steps"], apart := false, laid := [("postrider/frame.steps", laid_postrider_frame_steps)] }
def FrameBitsSaid : Prop := frameBitsRow.holds Tryd.pinned (OpenSpec.ofChange frameBitsSpec)

/-- ITS FALSE NEIGHBOUR: 'it returns false'. Refute it at one input. -/
def frameBitsWrong : ChangeSpec := { name := "frameBits", fn := fun _ => fun
  | [d1, d2, d3, d4, d5] => { results := [.lit (.bool false)], args := [d1, d2, d3, d4, d5] }
  | _ => none }
def FrameBitsWrongFalsely : Prop := frameBitsRow.holds Tryd.pinned (OpenSpec.ofChange frameBitsWrong)

/-- 'postriderlaw02.FrameChain': WHATEVER THE INPUT: true; the input reads as it did. -/
def frameChainSpec : ChangeSpec := { name := "frameChain", fn := fun _ => fun
  | [d] => { results := [.lit (.bool true)], args := [d] }
  | _ => none }
def frameChainRow : OpenClaim := { program := "ytddjgbljpeafiaadoor", sum := "39456fec7f469a4fb4e47a550e39e2a08af5b982ac3df647ad81a94fb4fcf250", func := "postrider/postriderlaw02.FrameChain", spec := "frameChain", named := ["postrider/frame.steps"], apart := false, laid := [("postrider/frame.steps", laid_postrider_frame_steps)] }
def FrameChainSaid : Prop := frameChainRow.holds Tryd.pinned (OpenSpec.ofChange frameChainSpec)

/-- ITS FALSE NEIGHBOUR: 'it returns false'. Refute it at one input. -/
def frameChainWrong : ChangeSpec := { name := "frameChain", fn := fun _ => fun
  | [d] => { results := [.lit (.bool false)], args := [d] }
  | _ => none }
def FrameChainWrongFalsely : Prop := frameChainRow.holds Tryd.pinned (OpenSpec.ofChange frameChainWrong)

/-- 'postriderlaw02.FrameKnown': WHATEVER THE INPUT: true; the input reads as it did. -/
def frameKnownSpec : ChangeSpec := { name := "frameKnown", fn := fun _ => fun
  | [] => { results := [.lit (.bool true)], args := [] }
  | _ => none }
def frameKnownRow : OpenClaim := { program := "ytddjgbljpeafiaadoor", sum := "39456fec7f469a4fb4e47a550e39e2a08af5b982ac3df647ad81a94fb4fcf250", func := "postrider/postriderlaw02.FrameKnown", spec := "frameKnown", named := ["postrider/frame.steps"], apart := false, laid := [("postrider/frame.steps", laid_postrider_frame_steps)] }
def FrameKnownSaid : Prop := frameKnownRow.holds Tryd.pinned (OpenSpec.ofChange frameKnownSpec)

/-- ITS FALSE NEIGHBOUR: 'it returns false'. Refute it at one input. -/
def frameKnownWrong : ChangeSpec := { name := "frameKnown", fn := fun _ => fun
  | [] => { results := [.lit (.bool false)], args := [] }
  | _ => none }
def FrameKnownWrongFalsely : Prop := frameKnownRow.holds Tryd.pinned (OpenSpec.ofChange frameKnownWrong)

/- THE SECOND FORM. 'bulk': how many values and letters a reading holds, each counted each time it is reached (what is shared counts as often as it is met; a slice's spare places count too). A statement '..UptoSaid' is the law's where the arguments, and the package variables that the reading takes, are together of bulk at most 1048576: NARROWER than '..Said'. Prove '..Said' where nothing that the law and all that it calls make is longer than what came in: it says more and counts as full. Else prove '..UptoSaid'. A law counts once. -/
mutual
def uptoBulk {H : Type} : DataW H → Nat
  | .lit (.string bytes) => bytes.length + 1
  | .lit _ => 1
  | .nil => 1
  | .ptr d => uptoBulk d + 1
  | .slice elems spare => uptoBulkAll elems + uptoBulkAll spare + 1
  | .agg parts => uptoBulkAll parts + 1
  | .iface _ d => uptoBulk d + 1
  | .map entries => uptoBulkEntries entries + 1
  | .held _ => 1
def uptoBulkAll {H : Type} : List (DataW H) → Nat
  | [] => 0
  | d :: r => uptoBulk d + uptoBulkAll r
def uptoBulkEntries {H : Type} : List (Lit × DataW H) → Nat
  | [] => 0
  | x :: r => uptoBulkEntry x + uptoBulkEntries r
def uptoBulkEntry {H : Type} : Lit × DataW H → Nat
  | (.string bytes, d) => bytes.length + uptoBulk d + 1
  | (_, d) => uptoBulk d + 1
 end
def uptoSmall : (H : Type) → List (DataW H) → Bool := fun _ ds => decide (uptoBulkAll ds ≤ 1048576)
def OpenSpec.upto (s : _root_.Go.ChangeSpec) : _root_.Go.OpenSpec := { _root_.Go.OpenSpec.ofChange s with cond := some uptoSmall }

/-- 'postriderlaw02.FrameChecks', WHERE WHAT IT READS IS OF BULK AT MOST 1048576: true; the input reads as it did. -/
def frameChecksUptoRow : OpenClaim := { program := "ytddjgbljpeafiaadoor", sum := "39456fec7f469a4fb4e47a550e39e2a08af5b982ac3df647ad81a94fb4fcf250", func := "postrider/postriderlaw02.FrameChecks", spec := "frameChecks", named := ["postrider/frame.steps"], apart := false, laid := [("postrider/frame.steps", laid_postrider_frame_steps)], narrowed := true }
def FrameChecksUptoSaid : Prop := frameChecksUptoRow.holds Tryd.pinned (OpenSpec.upto frameChecksSpec)

/-- 'postriderlaw02.FrameOpens', WHERE WHAT IT READS IS OF BULK AT MOST 1048576: true; the input reads as it did. -/
def frameOpensUptoRow : OpenClaim := { program := "ytddjgbljpeafiaadoor", sum := "39456fec7f469a4fb4e47a550e39e2a08af5b982ac3df647ad81a94fb4fcf250", func := "postrider/postriderlaw02.FrameOpens", spec := "frameOpens", named := ["postrider/frame.steps"], apart := false, laid := [("postrider/frame.steps", laid_postrider_frame_steps)], narrowed := true }
def FrameOpensUptoSaid : Prop := frameOpensUptoRow.holds Tryd.pinned (OpenSpec.upto frameOpensSpec)

/-- 'postriderlaw02.FrameBack', WHERE WHAT IT READS IS OF BULK AT MOST 1048576: true; the input reads as it did. -/
def frameBackUptoRow : OpenClaim := { program := "ytddjgbljpeafiaadoor", sum := "39456fec7f469a4fb4e47a550e39e2a08af5b982ac3df647ad81a94fb4fcf250", func := "postrider/postriderlaw02.FrameBack", spec := "frameBack", named := ["postrider/frame.steps"], apart := false, laid := [("postrider/frame.steps", laid_postrider_frame_steps)], narrowed := true }
def FrameBackUptoSaid : Prop := frameBackUptoRow.holds Tryd.pinned (OpenSpec.upto frameBackSpec)

/-- 'postriderlaw02.FrameBits', WHERE WHAT IT READS IS OF BULK AT MOST 1048576: true; the input reads as it did. -/
def frameBitsUptoRow : OpenClaim := { program := "ytddjgbljpeafiaadoor", sum := "39456fec7f469a4fb4e47a550e39e2a08af5b982ac3df647ad81a94fb4fcf250", func := "postrider/postriderlaw02.FrameBits", spec := "frameBits", named := ["postrider/frame.steps"], apart := false, laid := [("postrider/frame.steps", laid_postrider_frame_steps)], narrowed := true }
def FrameBitsUptoSaid : Prop := frameBitsUptoRow.holds Tryd.pinned (OpenSpec.upto frameBitsSpec)

/-- 'postriderlaw02.FrameChain', WHERE WHAT IT READS IS OF BULK AT MOST 1048576: true; the input reads as it did. -/
def frameChainUptoRow : OpenClaim := { program := "ytddjgbljpeafiaadoor", sum := "39456fec7f469a4fb4e47a550e39e2a08af5b982ac3df647ad81a94fb4fcf250", func := "postrider/postriderlaw02.FrameChain", spec := "frameChain", named := ["postrider/frame.steps"], apart := false, laid := [("postrider/frame.steps", laid_postrider_frame_steps)], narrowed := true }
def FrameChainUptoSaid : Prop := frameChainUptoRow.holds Tryd.pinned (OpenSpec.upto frameChainSpec)

/-- 'postriderlaw02.FrameKnown', WHERE WHAT IT READS IS OF BULK AT MOST 1048576: true; the input reads as it did. -/
def frameKnownUptoRow : OpenClaim := { program := "ytddjgbljpeafiaadoor", sum := "39456fec7f469a4fb4e47a550e39e2a08af5b982ac3df647ad81a94fb4fcf250", func := "postrider/postriderlaw02.FrameKnown", spec := "frameKnown", named := ["postrider/frame.steps"], apart := false, laid := [("postrider/frame.steps", laid_postrider_frame_steps)], narrowed := true }
def FrameKnownUptoSaid : Prop := frameKnownUptoRow.holds Tryd.pinned (OpenSpec.upto frameKnownSpec)

end Rows
end Go.Proofs.YtddjgbljpeafiaaDoor
