import Derived.Test.YtioildcpkcijkaaDoorFn
import Derived.Test.YtioildcpkcijkaaDoorEngYl
import Derived.KernelRfl
/- Pieces of a function, made ready: as the machine prints them of the program itself. -/
namespace Go.Vf.S
open Go.Proofs
set_option maxRecDepth 100000
noncomputable def body_K03 : Code := bodyAt pr 98
noncomputable def nt_K03 : Nat := ntAt pr 98
noncomputable def code_K03_R0 : Code := (sqL body_K03)
noncomputable def code_K03_R1 : Code := (sqL (sqR body_K03))
noncomputable def code_K03_R3 : Code := (sqL (inB (sqL (inB (inB (sqR (sqR body_K03)))))))
noncomputable def ops_K03_Y4 : Array Oper := regOps (sqL (sqL (sqR (inB (sqL (inB (inB (sqR (sqR body_K03)))))))))
noncomputable def code_K03_C4 : Code := (sqR (sqL (sqR (inB (sqL (inB (inB (sqR (sqR body_K03)))))))))
noncomputable def code_K03_R5 : Code := (sqR (sqR (inB (sqL (inB (inB (sqR (sqR body_K03))))))))
noncomputable def code_K03_R2 : Code := (sqR (inB (inB (sqR (sqR body_K03)))))
theorem nt_K03_is : nt_K03 = 35 := by kernel_rfl
abbrev n_K03_R0 : Nat := 0
def m_K03_R0 : MF := ⟨35, [], (.reg [⟨(some 3), none, (.mov (.const (.int .u32 0)))⟩])⟩
theorem ok_K03_R0 : comp pr 35 code_K03_R0 = some m_K03_R0.body := by kernel_rfl
abbrev n_K03_R1 : Nat := 0
def m_K03_R1 : MF := ⟨35, [], (.reg [⟨(some 4), none, (.mov (.const (.int .u32 1)))⟩])⟩
theorem ok_K03_R1 : comp pr 35 code_K03_R1 = some m_K03_R1.body := by kernel_rfl
abbrev n_K03_R3 : Nat := 0
def m_K03_R3 : MF := ⟨35, [], (.reg [⟨(some 12), none, (.mov (.tmp 3))⟩, ⟨(some 13), none, (.mov (.tmp 4))⟩, ⟨(some 14), none, (.ld1 (.tmp 1))⟩, ⟨(some 15), none, (.call 70 [(.tmp 12), (.tmp 13), (.tmp 14)])⟩, ⟨(some 11), none, (.mov (.tmp 15))⟩, ⟨(some 16), none, (.ext (.tmp 11) 0)⟩, ⟨(some 17), none, (.ext (.tmp 11) 1)⟩, ⟨(some 18), none, (.ext (.tmp 11) 2)⟩, ⟨(some 19), none, (.ext (.tmp 11) 3)⟩, ⟨(some 5), none, (.mov (.tmp 16))⟩, ⟨(some 6), none, (.mov (.tmp 17))⟩, ⟨(some 7), none, (.mov (.tmp 18))⟩, ⟨(some 8), none, (.mov (.tmp 19))⟩])⟩
theorem ok_K03_R3 : comp pr 35 code_K03_R3 = some m_K03_R3.body := by kernel_rfl
def m_K03_Y4a : List MOper := [⟨(some 20), none, (.mov (.tmp 8))⟩, ⟨(some 21), none, (.bin .neq .none (.tmp 20) (.const (.int .i64 0)))⟩, ⟨(some 22), none, (.mov (.tmp 21))⟩, ⟨(some 23), (some (22, false)), (.mov (.tmp 0))⟩, ⟨(some 24), (some (22, false)), (.mov (.tmp 5))⟩, ⟨(some 25), (some (22, false)), (.mov (.tmp 6))⟩, ⟨(some 26), (some (22, false)), (.mov (.tmp 7))⟩, ⟨(some 27), (some (22, false)), (.agg [(.slice none 0 0), (.int .i64 0), (.int .u32 0)] [(0, (1, (.tmp 24))), (1, (1, (.tmp 25))), (2, (1, (.tmp 26)))])⟩]
theorem ok_K03_Y4a : cSeq pr 35 ops_K03_Y4 (ops_K03_Y4.toList.take 8) = some m_K03_Y4a := by kernel_rfl
def m_K03_Y4b : List MOper := [⟨(some 29), (some (22, false)), (.un .not (.tmp 28))⟩, ⟨(some 30), none, (.pick (.tmp 22) (.const (.bool true)) (.tmp 29))⟩]
theorem ok_K03_Y4b : cSeq pr 35 ops_K03_Y4 (ops_K03_Y4.toList.drop 9) = some m_K03_Y4b := by kernel_rfl
abbrev n_K03_C4 : Nat := 0
def m_K03_C4 : MF := ⟨35, [], (.cond (.tmp 30) .ret .skip)⟩
theorem ok_K03_C4 : comp pr 35 code_K03_C4 = some m_K03_C4.body := by kernel_rfl
abbrev n_K03_R5 : Nat := 0
def m_K03_R5 : MF := ⟨35, [], (.reg [⟨(some 31), none, (.ld1 (.tmp 1))⟩, ⟨(some 32), none, (.mov (.tmp 6))⟩, ⟨(some 33), none, (.slL 1 (.tmp 31) (some (.tmp 32)) none)⟩, ⟨(some 34), none, (.mov (.tmp 7))⟩, ⟨none, none, (.st 1 (.tmp 1) (.tmp 33))⟩, ⟨(some 3), none, (.mov (.tmp 34))⟩])⟩
theorem ok_K03_R5 : comp pr 35 code_K03_R5 = some m_K03_R5.body := by kernel_rfl
abbrev n_K03_R2 : Nat := 0
def m_K03_R2 : MF := ⟨35, [], (.reg [⟨(some 9), none, (.mov (.tmp 4))⟩, ⟨(some 10), none, (.bin .add .none (.tmp 9) (.const (.int .u32 1)))⟩, ⟨(some 4), none, (.mov (.tmp 10))⟩])⟩
theorem ok_K03_R2 : comp pr 35 code_K03_R2 = some m_K03_R2.body := by kernel_rfl
end Go.Vf.S
