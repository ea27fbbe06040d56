import Derived.Test.YthhcngkblihliaaDoorFn
import Derived.Test.YthhcngkblihliaaDoorEngYl
import Derived.KernelRfl
/- Pieces of a function, made ready: as the machine prints them of the program itself. -/
namespace Go.Vf.S
open Go.Proofs
set_option maxRecDepth 100000
abbrev n_head_Message_named_1 : Nat := 93
noncomputable def body_HN : Code := bodyAt pr 93
noncomputable def nt_HN : Nat := ntAt pr 93
noncomputable def code_HN_R0 : Code := (sqL body_HN)
noncomputable def code_HN_RA : Code := (sqL (inB (inB (sqR body_HN))))
noncomputable def code_HN_CD : Code := (sqL (sqR (inB (inB (sqR body_HN)))))
noncomputable def code_HN_Rl : Code := (sqL (inB (sqL (sqR (sqR (inB (inB (sqR body_HN))))))))
noncomputable def ops_HN_Y3 : Array Oper := regOps (sqL (sqR (inB (sqL (sqR (sqR (inB (inB (sqR body_HN)))))))))
noncomputable def code_HN_CE : Code := (sqR (sqR (inB (sqL (sqR (sqR (inB (inB (sqR body_HN)))))))))
noncomputable def code_HN_RT : Code := (sqR (sqR (sqR (inB (inB (sqR body_HN))))))
theorem nt_HN_is : nt_HN = 24 := by kernel_rfl
abbrev n_HN_R0 : Nat := 0
def m_HN_R0 : MF := ⟨24, [], (.reg [⟨(some 6), none, (.faddr 0 (.tmp 1))⟩, ⟨(some 7), none, (.ld1 (.tmp 6))⟩, ⟨(some 8), none, (.lenL (.tmp 7))⟩, ⟨(some 9), none, (.mov (.const (.int .i64 0)))⟩])⟩
theorem ok_HN_R0 : comp pr 24 code_HN_R0 = some m_HN_R0.body := by kernel_rfl
abbrev n_HN_RA : Nat := 0
def m_HN_RA : MF := ⟨24, [], (.reg [⟨(some 10), none, (.bin .lss .none (.tmp 9) (.tmp 8))⟩])⟩
theorem ok_HN_RA : comp pr 24 code_HN_RA = some m_HN_RA.body := by kernel_rfl
abbrev n_HN_CD : Nat := 0
def m_HN_CD : MF := ⟨24, [], (.cond (.tmp 10) .skip (.exit 0))⟩
theorem ok_HN_CD : comp pr 24 code_HN_CD = some m_HN_CD.body := by kernel_rfl
abbrev n_HN_Rl : Nat := 0
def m_HN_Rl : MF := ⟨24, [], (.reg [⟨(some 11), none, (.ixa 3 (.tmp 7) (.tmp 9))⟩, ⟨(some 12), none, (.ldN 3 (.tmp 11))⟩, ⟨(some 5), none, (.alloc 33 [(.string ⟨#[]⟩), (.string ⟨#[]⟩), (.string ⟨#[]⟩)])⟩, ⟨none, none, (.st 3 (.tmp 5) (.tmp 12))⟩])⟩
theorem ok_HN_Rl : comp pr 24 code_HN_Rl = some m_HN_Rl.body := by kernel_rfl
def m_HN_Y3a : List MOper := [⟨(some 13), none, (.faddr 0 (.tmp 5))⟩, ⟨(some 14), none, (.ldS (.tmp 13))⟩, ⟨(some 15), none, (.ldS (.tmp 2))⟩, ⟨(some 16), none, (.call 94 [(.tmp 14), (.tmp 15)])⟩, ⟨(some 17), none, (.mov (.tmp 16))⟩, ⟨(some 18), (some (17, true)), (.mov (.tmp 0))⟩, ⟨(some 19), (some (17, true)), (.ldN 3 (.tmp 5))⟩]
theorem ok_HN_Y3a : cSeq pr 24 ops_HN_Y3 (ops_HN_Y3.toList.take 7) = some m_HN_Y3a := by kernel_rfl
def m_HN_Y3b : List MOper := [⟨(some 21), (some (17, true)), (.un .not (.tmp 20))⟩, ⟨(some 22), none, (.pick (.tmp 17) (.tmp 21) (.const (.bool false)))⟩]
theorem ok_HN_Y3b : cSeq pr 24 ops_HN_Y3 (ops_HN_Y3.toList.drop 8) = some m_HN_Y3b := by kernel_rfl
abbrev n_HN_CE : Nat := 0
def m_HN_CE : MF := ⟨24, [], (.cond (.tmp 22) .ret .skip)⟩
theorem ok_HN_CE : comp pr 24 code_HN_CE = some m_HN_CE.body := by kernel_rfl
abbrev n_HN_RT : Nat := 0
def m_HN_RT : MF := ⟨24, [], (.reg [⟨(some 23), none, (.bin .add .none (.tmp 9) (.const (.int .i64 1)))⟩, ⟨(some 9), none, (.mov (.tmp 23))⟩])⟩
theorem ok_HN_RT : comp pr 24 code_HN_RT = some m_HN_RT.body := by kernel_rfl
end Go.Vf.S
