import Derived.Test.YthhcngkblihliaaDoorFn
import Derived.Test.YthhcngkblihliaaDoorEngYl
import Derived.KernelRfl
/- Pieces of a function, made ready: as the machine prints them of the program itself. -/
namespace Go.Vf.S
open Go.Proofs
set_option maxRecDepth 100000
abbrev n_head_firstRaw : Nat := 49
noncomputable def body_HF : Code := bodyAt pr 49
noncomputable def nt_HF : Nat := ntAt pr 49
noncomputable def code_HF_R0 : Code := (sqL body_HF)
noncomputable def code_HF_R1 : Code := (sqL (sqR body_HF))
noncomputable def code_HF_R2 : Code := (sqL (sqL (sqR (sqR body_HF))))
noncomputable def code_HF_A3 : Code := (asB (inB (sqR (sqL (sqR (sqR body_HF))))))
noncomputable def code_HF_BL : Code := (sqL (inB (inB (inB (sqR (sqL (sqR (sqR body_HF))))))))
noncomputable def code_HF_BR : Code := (sqR (inB (inB (inB (sqR (sqL (sqR (sqR body_HF))))))))
noncomputable def code_HF_TL : Code := (sqR (sqR (sqR body_HF)))
theorem nt_HF_is : nt_HF = 23 := by kernel_rfl
abbrev n_HF_R0 : Nat := 0
def m_HF_R0 : MF := ⟨23, [], (.reg [⟨(some 2), none, (.mov (.const (.string ⟨#[]⟩)))⟩])⟩
theorem ok_HF_R0 : comp pr 23 code_HF_R0 = some m_HF_R0.body := by kernel_rfl
abbrev n_HF_R1 : Nat := 0
def m_HF_R1 : MF := ⟨23, [], (.reg [⟨(some 3), none, (.alloc 3 [(.int .i64 0)])⟩, ⟨none, none, (.st 1 (.tmp 3) (.const (.int .i64 0)))⟩])⟩
theorem ok_HF_R1 : comp pr 23 code_HF_R1 = some m_HF_R1.body := by kernel_rfl
abbrev n_HF_R2 : Nat := 0
def m_HF_R2 : MF := ⟨23, [], (.reg [⟨(some 5), none, (.mov (.tmp 0))⟩, ⟨(some 6), none, (.call 75 [(.tmp 5)])⟩])⟩
theorem ok_HF_R2 : comp pr 23 code_HF_R2 = some m_HF_R2.body := by kernel_rfl
abbrev n_HF_A3 : Nat := 0
def m_HF_A3 : MF := ⟨23, [], (.reg [⟨(some 4), none, (.mov (.tmp 7))⟩])⟩
theorem ok_HF_A3 : comp pr 23 code_HF_A3 = some m_HF_A3.body := by kernel_rfl
abbrev n_HF_BL : Nat := 0
def m_HF_BL : MF := ⟨23, [], (.seq (.reg [⟨(some 8), none, (.ldI .i64 (.tmp 3))⟩, ⟨(some 9), none, (.bin .gtr .none (.tmp 8) (.const (.int .i64 0)))⟩, ⟨(some 10), none, (.mov (.tmp 9))⟩, ⟨(some 11), (some (10, true)), (.mov (.tmp 4))⟩, ⟨(some 12), (some (10, true)), (.slS (.tmp 11) none (some (.const (.int .i64 1))))⟩, ⟨(some 13), (some (10, true)), (.call 28 [(.const (.string ⟨#[32, 9]⟩)), (.tmp 12)])⟩, ⟨(some 14), (some (10, true)), (.un .not (.tmp 13))⟩, ⟨(some 15), none, (.pick (.tmp 10) (.tmp 14) (.const (.bool false)))⟩]) (.cond (.tmp 15) (.exit 0) .skip))⟩
theorem ok_HF_BL : comp pr 23 code_HF_BL = some m_HF_BL.body := by kernel_rfl
abbrev n_HF_BR : Nat := 0
def m_HF_BR : MF := ⟨23, [], (.reg [⟨(some 16), none, (.ldI .i64 (.tmp 3))⟩, ⟨(some 17), none, (.mov (.tmp 4))⟩, ⟨(some 18), none, (.lenS (.tmp 17))⟩, ⟨(some 19), none, (.bin .add .none (.tmp 16) (.tmp 18))⟩, ⟨none, none, (.st 1 (.tmp 3) (.tmp 19))⟩])⟩
theorem ok_HF_BR : comp pr 23 code_HF_BR = some m_HF_BR.body := by kernel_rfl
abbrev n_HF_TL : Nat := 0
def m_HF_TL : MF := ⟨23, [], (.seq (.reg [⟨(some 20), none, (.mov (.tmp 0))⟩, ⟨(some 21), none, (.ldI .i64 (.tmp 3))⟩, ⟨(some 22), none, (.slS (.tmp 20) none (some (.tmp 21)))⟩, ⟨(some 2), none, (.mov (.tmp 22))⟩]) .ret)⟩
theorem ok_HF_TL : comp pr 23 code_HF_TL = some m_HF_TL.body := by kernel_rfl
end Go.Vf.S
