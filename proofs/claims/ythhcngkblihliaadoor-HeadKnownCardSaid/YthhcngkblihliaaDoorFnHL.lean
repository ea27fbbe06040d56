import Derived.Test.YthhcngkblihliaaDoorFn
import Derived.Test.YthhcngkblihliaaDoorEngYl
import Derived.KernelRfl
/- Pieces of a function, made ready: as the machine prints them of the program itself. -/
namespace Go.Vf.S
open Go.Proofs
set_option maxRecDepth 100000
abbrev n_strings_Lines_1 : Nat := 97
noncomputable def body_HL : Code := bodyAt pr 97
noncomputable def nt_HL : Nat := ntAt pr 97
noncomputable def code_HL_RA : Code := (sqL (inB (inB body_HL)))
noncomputable def code_HL_RB : Code := (sqL (inB (sqR (inB (inB body_HL)))))
noncomputable def code_HL_RC : Code := (sqL (sqR (inB (sqR (inB (inB body_HL))))))
noncomputable def ops_HL_Y6 : Array Oper := regOps (sqL (sqR (sqR (inB (sqR (inB (inB body_HL)))))))
noncomputable def code_HL_CD : Code := (sqR (sqR (sqR (inB (sqR (inB (inB body_HL)))))))
theorem nt_HL_is : nt_HL = 25 := by kernel_rfl
abbrev n_HL_RA : Nat := 0
def m_HL_RA : MF := ⟨25, [], (.seq (.reg [⟨(some 5), none, (.ldS (.tmp 1))⟩, ⟨(some 6), none, (.lenS (.tmp 5))⟩, ⟨(some 7), none, (.bin .gtr .none (.tmp 6) (.const (.int .i64 0)))⟩]) (.cond (.tmp 7) .skip (.exit 0)))⟩
theorem ok_HL_RA : comp pr 25 code_HL_RA = some m_HL_RA.body := by kernel_rfl
abbrev n_HL_RB : Nat := 0
def m_HL_RB : MF := ⟨25, [], (.reg [⟨(some 3), none, (.mov (.const (.string ⟨#[]⟩)))⟩])⟩
theorem ok_HL_RB : comp pr 25 code_HL_RB = some m_HL_RB.body := by kernel_rfl
abbrev n_HL_RC : Nat := 0
def m_HL_RC : MF := ⟨25, [], (.seq (.reg [⟨(some 8), none, (.ldS (.tmp 1))⟩, ⟨(some 9), none, (.call 98 [(.tmp 8), (.const (.int .u8 10))])⟩, ⟨(some 4), none, (.mov (.tmp 9))⟩]) (.seq (.reg [⟨(some 10), none, (.mov (.tmp 4))⟩, ⟨(some 11), none, (.bin .geq .none (.tmp 10) (.const (.int .i64 0)))⟩]) (.cond (.tmp 11) (.row [(⟨(some 12), none, (.ldS (.tmp 1))⟩, (false, (false, 0))), (⟨(some 13), none, (.mov (.tmp 4))⟩, (false, (false, 0))), (⟨(some 14), none, (.bin .add .none (.tmp 13) (.const (.int .i64 1)))⟩, (false, (false, 0))), (⟨(some 15), none, (.slS (.tmp 12) none (some (.tmp 14)))⟩, (false, (false, 0))), (⟨(some 16), none, (.ldS (.tmp 1))⟩, (false, (false, 0))), (⟨(some 17), none, (.mov (.tmp 4))⟩, (false, (false, 0))), (⟨(some 18), none, (.bin .add .none (.tmp 17) (.const (.int .i64 1)))⟩, (false, (false, 0))), (⟨(some 19), none, (.slS (.tmp 16) (some (.tmp 18)) none)⟩, (false, (false, 0))), (⟨(some 3), none, (.mov (.tmp 15))⟩, (false, (false, 0))), (⟨none, none, (.st 1 (.tmp 1) (.tmp 19))⟩, (true, (false, 0)))]) (.reg [⟨(some 20), none, (.ldS (.tmp 1))⟩, ⟨(some 3), none, (.mov (.tmp 20))⟩, ⟨none, none, (.st 1 (.tmp 1) (.const (.string ⟨#[]⟩)))⟩]))))⟩
theorem ok_HL_RC : comp pr 25 code_HL_RC = some m_HL_RC.body := by kernel_rfl
def m_HL_Y6a : List MOper := [⟨(some 21), none, (.mov (.tmp 0))⟩, ⟨(some 22), none, (.mov (.tmp 3))⟩]
theorem ok_HL_Y6a : cSeq pr 25 ops_HL_Y6 (ops_HL_Y6.toList.take 2) = some m_HL_Y6a := by kernel_rfl
def m_HL_Y6b : List MOper := [⟨(some 24), none, (.un .not (.tmp 23))⟩]
theorem ok_HL_Y6b : cSeq pr 25 ops_HL_Y6 (ops_HL_Y6.toList.drop 3) = some m_HL_Y6b := by kernel_rfl
abbrev n_HL_CD : Nat := 0
def m_HL_CD : MF := ⟨25, [], (.cond (.tmp 24) .ret .skip)⟩
theorem ok_HL_CD : comp pr 25 code_HL_CD = some m_HL_CD.body := by kernel_rfl
end Go.Vf.S
