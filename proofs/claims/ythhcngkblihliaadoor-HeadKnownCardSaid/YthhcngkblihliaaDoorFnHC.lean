import Derived.Test.YthhcngkblihliaaDoorFn
import Derived.Test.YthhcngkblihliaaDoorEngYl
import Derived.KernelRfl
/- Pieces of a function, made ready: as the machine prints them of the program itself. -/
namespace Go.Vf.S
open Go.Proofs
set_option maxRecDepth 100000
abbrev n_head_Message_Count : Nat := 32
noncomputable def body_HC : Code := bodyAt pr 32
noncomputable def nt_HC : Nat := ntAt pr 32
noncomputable def code_HC_R0 : Code := (sqL body_HC)
noncomputable def code_HC_R1 : Code := (sqL (sqR body_HC))
noncomputable def code_HC_R2 : Code := (sqL (sqL (sqR (sqR body_HC))))
noncomputable def code_HC_A3 : Code := (asB (inB (sqR (sqL (sqR (sqR body_HC))))))
noncomputable def code_HC_BD : Code := (inB (inB (sqR (sqL (sqR (sqR body_HC))))))
noncomputable def code_HC_TL : Code := (sqR (sqR (sqR body_HC)))
theorem nt_HC_is : nt_HC = 13 := by kernel_rfl
abbrev n_HC_R0 : Nat := 0
def m_HC_R0 : MF := ⟨13, [], (.reg [⟨(some 2), none, (.box 24 (.tmp 0))⟩, ⟨(some 4), none, (.mov (.const (.int .i64 0)))⟩])⟩
theorem ok_HC_R0 : comp pr 13 code_HC_R0 = some m_HC_R0.body := by kernel_rfl
abbrev n_HC_R1 : Nat := 0
def m_HC_R1 : MF := ⟨13, [], (.reg [⟨(some 5), none, (.alloc 3 [(.int .i64 0)])⟩, ⟨none, none, (.st 1 (.tmp 5) (.const (.int .i64 0)))⟩])⟩
theorem ok_HC_R1 : comp pr 13 code_HC_R1 = some m_HC_R1.body := by kernel_rfl
abbrev n_HC_R2 : Nat := 0
def m_HC_R2 : MF := ⟨13, [], (.reg [⟨(some 6), none, (.ldN 3 (.tmp 2))⟩, ⟨(some 7), none, (.mov (.tmp 1))⟩, ⟨(some 8), none, (.call 67 [(.tmp 6), (.tmp 7)])⟩])⟩
theorem ok_HC_R2 : comp pr 13 code_HC_R2 = some m_HC_R2.body := by kernel_rfl
abbrev n_HC_A3 : Nat := 0
def m_HC_A3 : MF := ⟨13, [], .skip⟩
theorem ok_HC_A3 : comp pr 13 code_HC_A3 = some m_HC_A3.body := by kernel_rfl
abbrev n_HC_BD : Nat := 0
def m_HC_BD : MF := ⟨13, [], (.block 1 (.reg [⟨(some 10), none, (.ldI .i64 (.tmp 5))⟩, ⟨(some 11), none, (.bin .add .none (.tmp 10) (.const (.int .i64 1)))⟩, ⟨none, none, (.st 1 (.tmp 5) (.tmp 11))⟩]))⟩
theorem ok_HC_BD : comp pr 13 code_HC_BD = some m_HC_BD.body := by kernel_rfl
abbrev n_HC_TL : Nat := 0
def m_HC_TL : MF := ⟨13, [], (.seq (.reg [⟨(some 12), none, (.ldI .i64 (.tmp 5))⟩, ⟨(some 4), none, (.mov (.tmp 12))⟩]) .ret)⟩
theorem ok_HC_TL : comp pr 13 code_HC_TL = some m_HC_TL.body := by kernel_rfl
end Go.Vf.S
