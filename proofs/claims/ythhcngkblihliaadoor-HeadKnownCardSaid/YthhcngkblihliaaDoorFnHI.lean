import Derived.Test.YthhcngkblihliaaDoorFn
import Derived.Test.YthhcngkblihliaaDoorEngYl
import Derived.KernelRfl
/- Pieces of a function, made ready: as the machine prints them of the program itself. -/
namespace Go.Vf.S
open Go.Proofs
set_option maxRecDepth 100000
abbrev n_head_Message_Find : Nat := 31
noncomputable def body_HI : Code := bodyAt pr 31
noncomputable def nt_HI : Nat := ntAt pr 31
noncomputable def code_HI_R0 : Code := (sqL body_HI)
noncomputable def code_HI_R1 : Code := (sqL (sqR body_HI))
noncomputable def code_HI_R2 : Code := (sqL (sqL (sqR (sqR body_HI))))
noncomputable def code_HI_A3 : Code := (asB (inB (sqR (sqL (sqR (sqR body_HI))))))
noncomputable def code_HI_BD : Code := (inB (inB (sqR (sqL (sqR (sqR body_HI))))))
noncomputable def code_HI_TL : Code := (sqR (sqR (sqR body_HI)))
theorem nt_HI_is : nt_HI = 17 := by kernel_rfl
abbrev n_HI_R0 : Nat := 0
def m_HI_R0 : MF := ⟨17, [], (.reg [⟨(some 2), none, (.box 24 (.tmp 0))⟩, ⟨(some 4), none, (.mov (.const (.slice none 0 0)))⟩])⟩
theorem ok_HI_R0 : comp pr 17 code_HI_R0 = some m_HI_R0.body := by kernel_rfl
abbrev n_HI_R1 : Nat := 0
def m_HI_R1 : MF := ⟨17, [], (.reg [⟨(some 5), none, (.alloc 52 [(.slice none 0 0)])⟩])⟩
theorem ok_HI_R1 : comp pr 17 code_HI_R1 = some m_HI_R1.body := by kernel_rfl
abbrev n_HI_R2 : Nat := 0
def m_HI_R2 : MF := ⟨17, [], (.reg [⟨(some 7), none, (.ldN 3 (.tmp 2))⟩, ⟨(some 8), none, (.mov (.tmp 1))⟩, ⟨(some 9), none, (.call 67 [(.tmp 7), (.tmp 8)])⟩])⟩
theorem ok_HI_R2 : comp pr 17 code_HI_R2 = some m_HI_R2.body := by kernel_rfl
abbrev n_HI_A3 : Nat := 0
def m_HI_A3 : MF := ⟨17, [], (.reg [⟨(some 6), none, (.alloc 33 [(.string ⟨#[]⟩), (.string ⟨#[]⟩), (.string ⟨#[]⟩)])⟩, ⟨none, none, (.st 3 (.tmp 6) (.tmp 10))⟩])⟩
theorem ok_HI_A3 : comp pr 17 code_HI_A3 = some m_HI_A3.body := by kernel_rfl
abbrev n_HI_BD : Nat := 0
def m_HI_BD : MF := ⟨17, [], (.block 1 (.reg [⟨(some 11), none, (.ld1 (.tmp 5))⟩, ⟨(some 12), none, (.faddr 1 (.tmp 6))⟩, ⟨(some 13), none, (.ldS (.tmp 12))⟩, ⟨(some 14), none, (.mkS 9 1 [(.string ⟨#[]⟩)] [(0, (1, (.tmp 13)))])⟩, ⟨(some 15), none, (.app 9 1 16 (.tmp 11) (.tmp 14))⟩, ⟨none, none, (.st 1 (.tmp 5) (.tmp 15))⟩]))⟩
theorem ok_HI_BD : comp pr 17 code_HI_BD = some m_HI_BD.body := by kernel_rfl
abbrev n_HI_TL : Nat := 0
def m_HI_TL : MF := ⟨17, [], (.seq (.reg [⟨(some 16), none, (.ld1 (.tmp 5))⟩, ⟨(some 4), none, (.mov (.tmp 16))⟩]) .ret)⟩
theorem ok_HI_TL : comp pr 17 code_HI_TL = some m_HI_TL.body := by kernel_rfl
end Go.Vf.S
