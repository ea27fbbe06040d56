import Derived.Test.YthhcngkblihliaaDoorFn
import Derived.Test.YthhcngkblihliaaDoorEngYl
import Derived.KernelRfl
/- Pieces of a function, made ready: as the machine prints them of the program itself. -/
namespace Go.Vf.S
open Go.Proofs
set_option maxRecDepth 100000
abbrev n_head_isText : Nat := 47
noncomputable def body_HT : Code := bodyAt pr 47
noncomputable def nt_HT : Nat := ntAt pr 47
noncomputable def code_HT_R0 : Code := (sqL body_HT)
noncomputable def code_HT_R1 : Code := (sqL (sqL (sqR body_HT)))
noncomputable def code_HT_A2 : Code := (asB (inB (sqR (sqL (sqR body_HT)))))
noncomputable def code_HT_BD : Code := (inB (inB (sqR (sqL (sqR body_HT)))))
noncomputable def code_HT_TL : Code := (sqR (sqR body_HT))
theorem nt_HT_is : nt_HT = 21 := by kernel_rfl
abbrev n_HT_R0 : Nat := 0
def m_HT_R0 : MF := ⟨21, [], (.reg [⟨(some 2), none, (.alloc 4 [(.bool false)])⟩])⟩
theorem ok_HT_R0 : comp pr 21 code_HT_R0 = some m_HT_R0.body := by kernel_rfl
abbrev n_HT_R1 : Nat := 0
def m_HT_R1 : MF := ⟨21, [], (.reg [⟨(some 6), none, (.mov (.tmp 0))⟩, ⟨(some 7), none, (.call 75 [(.tmp 6)])⟩])⟩
theorem ok_HT_R1 : comp pr 21 code_HT_R1 = some m_HT_R1.body := by kernel_rfl
abbrev n_HT_A2 : Nat := 0
def m_HT_A2 : MF := ⟨21, [], (.reg [⟨(some 3), none, (.mov (.tmp 8))⟩])⟩
theorem ok_HT_A2 : comp pr 21 code_HT_A2 = some m_HT_A2.body := by kernel_rfl
abbrev n_HT_BD : Nat := 0
def m_HT_BD : MF := ⟨21, [], (.block 1 (.seq (.reg [⟨(some 10), none, (.mov (.tmp 3))⟩, ⟨(some 11), none, (.call 76 [(.tmp 10), (.const (.string ⟨#[13, 10]⟩))])⟩, ⟨(some 9), none, (.mov (.tmp 11))⟩, ⟨(some 12), none, (.ext (.tmp 9) 0)⟩, ⟨(some 13), none, (.ext (.tmp 9) 1)⟩, ⟨(some 4), none, (.mov (.tmp 12))⟩, ⟨(some 5), none, (.mov (.tmp 13))⟩]) (.seq (.reg [⟨(some 14), none, (.mov (.tmp 5))⟩, ⟨(some 15), none, (.un .not (.tmp 14))⟩, ⟨(some 16), none, (.mov (.tmp 15))⟩, ⟨(some 17), (some (16, false)), (.mov (.tmp 4))⟩, ⟨(some 18), (some (16, false)), (.call 34 [(.tmp 17), (.func 35)])⟩, ⟨(some 19), (some (16, false)), (.un .not (.tmp 18))⟩, ⟨(some 20), none, (.pick (.tmp 16) (.const (.bool true)) (.tmp 19))⟩]) (.cond (.tmp 20) (.seq (.reg [⟨none, none, (.st 1 (.tmp 2) (.const (.bool false)))⟩]) .ret) .skip))))⟩
theorem ok_HT_BD : comp pr 21 code_HT_BD = some m_HT_BD.body := by kernel_rfl
abbrev n_HT_TL : Nat := 0
def m_HT_TL : MF := ⟨21, [], (.seq (.reg [⟨none, none, (.st 1 (.tmp 2) (.const (.bool true)))⟩]) .ret)⟩
theorem ok_HT_TL : comp pr 21 code_HT_TL = some m_HT_TL.body := by kernel_rfl
end Go.Vf.S
