import Derived.Test.YtioildcpkcijkaaDoorFn
import Derived.Test.YtioildcpkcijkaaDoorEngYl
import Derived.KernelRfl
/- Pieces of a function, made ready: as the machine prints them of the program itself. -/
namespace Go.Vf.S
open Go.Proofs
set_option maxRecDepth 100000
abbrev n_log_Recover : Nat := 25
noncomputable def body_K25 : Code := bodyAt pr 25
noncomputable def nt_K25 : Nat := ntAt pr 25
noncomputable def code_K25_R0 : Code := (sqL body_K25)
noncomputable def code_K25_R1 : Code := (sqL (sqR body_K25))
noncomputable def code_K25_R3 : Code := (sqL (sqR (sqR body_K25)))
noncomputable def code_K25_R4 : Code := (sqL (sqR (sqR (sqR body_K25))))
noncomputable def code_K25_R5 : Code := (sqL (sqL (sqR (sqR (sqR (sqR body_K25))))))
noncomputable def code_K25_A6 : Code := (asB (inB (sqR (sqL (sqR (sqR (sqR (sqR body_K25))))))))
noncomputable def code_K25_R7 : Code := (sqL (inB (inB (inB (sqR (sqL (sqR (sqR (sqR (sqR body_K25))))))))))
noncomputable def code_K25_R8 : Code := (sqR (inB (inB (inB (sqR (sqL (sqR (sqR (sqR (sqR body_K25))))))))))
noncomputable def code_K25_TL : Code := (sqR (sqR (sqR (sqR (sqR body_K25)))))
theorem nt_K25_is : nt_K25 = 44 := by kernel_rfl
abbrev n_K25_R0 : Nat := 0
def m_K25_R0 : MF := ⟨44, [], (.reg [⟨(some 2), none, (.mov (.const (.pointer none)))⟩, ⟨(some 3), none, (.mov (.const (.slice none 0 0)))⟩, ⟨(some 4), none, (.mov (.const (.int .i64 0)))⟩])⟩
theorem ok_K25_R0 : comp pr 44 code_K25_R0 = some m_K25_R0.body := by kernel_rfl
abbrev n_K25_R1 : Nat := 0
def m_K25_R1 : MF := ⟨44, [], (.seq (.reg [⟨(some 10), none, (.mov (.tmp 0))⟩, ⟨(some 11), none, (.call 60 [(.tmp 10)])⟩]) (.cond (.tmp 11) (.seq (.reg [⟨(some 2), none, (.mov (.const (.pointer none)))⟩, ⟨(some 3), none, (.mov (.const (.slice none 0 0)))⟩, ⟨(some 4), none, (.mov (.const (.int .i64 2)))⟩]) .ret) .skip))⟩
theorem ok_K25_R1 : comp pr 44 code_K25_R1 = some m_K25_R1.body := by kernel_rfl
abbrev n_K25_R3 : Nat := 0
def m_K25_R3 : MF := ⟨44, [], (.reg [⟨(some 12), none, (.mov (.tmp 0))⟩, ⟨(some 13), none, (.agg [(.pointer none), (.int .u32 0), (.int .u32 0), (.int .u32 0), (.int .i64 0)] [(0, (1, (.tmp 12)))])⟩, ⟨(some 14), none, (.box 72 (.tmp 13))⟩, ⟨(some 5), none, (.alloc 31 [(.pointer none)])⟩, ⟨none, none, (.st 1 (.tmp 5) (.tmp 14))⟩])⟩
theorem ok_K25_R3 : comp pr 44 code_K25_R3 = some m_K25_R3.body := by kernel_rfl
abbrev n_K25_R4 : Nat := 0
def m_K25_R4 : MF := ⟨44, [], (.reg [⟨(some 6), none, (.alloc 54 [(.slice none 0 0)])⟩])⟩
theorem ok_K25_R4 : comp pr 44 code_K25_R4 = some m_K25_R4.body := by kernel_rfl
abbrev n_K25_R5 : Nat := 0
def m_K25_R5 : MF := ⟨44, [], (.reg [⟨(some 15), none, (.mov (.tmp 0))⟩, ⟨(some 16), none, (.mov (.tmp 0))⟩, ⟨(some 17), none, (.call 62 [(.tmp 16)])⟩, ⟨(some 18), none, (.call 18 [(.tmp 15), (.const (.int .i64 0)), (.tmp 17)])⟩, ⟨(some 19), none, (.call 61 [(.tmp 18)])⟩])⟩
theorem ok_K25_R5 : comp pr 44 code_K25_R5 = some m_K25_R5.body := by kernel_rfl
abbrev n_K25_A6 : Nat := 0
def m_K25_A6 : MF := ⟨44, [], (.reg [⟨(some 7), none, (.alloc 125 [(.slice none 0 0), (.int .i64 0), (.int .u32 0)])⟩, ⟨none, none, (.st 3 (.tmp 7) (.tmp 20))⟩])⟩
theorem ok_K25_A6 : comp pr 44 code_K25_A6 = some m_K25_A6.body := by kernel_rfl
abbrev n_K25_R7 : Nat := 0
def m_K25_R7 : MF := ⟨44, [], (.reg [⟨(some 21), none, (.ld1 (.tmp 5))⟩, ⟨(some 22), none, (.faddr 1 (.tmp 7))⟩, ⟨(some 23), none, (.ldI .i64 (.tmp 22))⟩, ⟨(some 24), none, (.faddr 2 (.tmp 7))⟩, ⟨(some 25), none, (.ldI .u32 (.tmp 24))⟩, ⟨(some 26), none, (.call 63 [(.tmp 21), (.tmp 23), (.tmp 25)])⟩])⟩
theorem ok_K25_R7 : comp pr 44 code_K25_R7 = some m_K25_R7.body := by kernel_rfl
abbrev n_K25_R8 : Nat := 0
def m_K25_R8 : MF := ⟨44, [], (.reg [⟨(some 27), none, (.ld1 (.tmp 6))⟩, ⟨(some 28), none, (.faddr 0 (.tmp 7))⟩, ⟨(some 29), none, (.ld1 (.tmp 28))⟩, ⟨(some 30), none, (.mkS 37 1 [(.slice none 0 0)] [(0, (1, (.tmp 29)))])⟩, ⟨(some 31), none, (.app 37 1 24 (.tmp 27) (.tmp 30))⟩, ⟨none, none, (.st 1 (.tmp 6) (.tmp 31))⟩])⟩
theorem ok_K25_R8 : comp pr 44 code_K25_R8 = some m_K25_R8.body := by kernel_rfl
abbrev n_K25_TL : Nat := 0
def m_K25_TL : MF := ⟨44, [], (.seq (.seq (.reg [⟨(some 32), none, (.ld1 (.tmp 5))⟩, ⟨(some 33), none, (.call 64 [(.tmp 32)])⟩, ⟨(some 8), none, (.mov (.tmp 33))⟩]) (.seq (.reg [⟨(some 34), none, (.mov (.tmp 8))⟩, ⟨(some 35), none, (.bin .neq .none (.tmp 34) (.const (.int .i64 0)))⟩]) (.cond (.tmp 35) (.seq (.reg [⟨(some 36), none, (.mov (.tmp 8))⟩, ⟨(some 2), none, (.mov (.const (.pointer none)))⟩, ⟨(some 3), none, (.mov (.const (.slice none 0 0)))⟩, ⟨(some 4), none, (.mov (.tmp 36))⟩]) .ret) .skip))) (.seq (.seq (.reg [⟨(some 37), none, (.ld1 (.tmp 5))⟩, ⟨(some 38), none, (.call 28 [(.tmp 37)])⟩, ⟨(some 9), none, (.mov (.tmp 38))⟩]) (.seq (.reg [⟨(some 39), none, (.mov (.tmp 9))⟩, ⟨(some 40), none, (.bin .neq .none (.tmp 39) (.const (.int .i64 0)))⟩]) (.cond (.tmp 40) (.seq (.reg [⟨(some 41), none, (.mov (.tmp 9))⟩, ⟨(some 2), none, (.mov (.const (.pointer none)))⟩, ⟨(some 3), none, (.mov (.const (.slice none 0 0)))⟩, ⟨(some 4), none, (.mov (.tmp 41))⟩]) .ret) .skip))) (.seq (.row [(⟨(some 42), none, (.ld1 (.tmp 5))⟩, (false, (false, 0))), (⟨(some 43), none, (.ld1 (.tmp 6))⟩, (false, (false, 0))), (⟨(some 2), none, (.mov (.tmp 42))⟩, (false, (false, 0))), (⟨(some 3), none, (.mov (.tmp 43))⟩, (false, (false, 0))), (⟨(some 4), none, (.mov (.const (.int .i64 0)))⟩, (false, (false, 0)))]) .ret)))⟩
theorem ok_K25_TL : comp pr 44 code_K25_TL = some m_K25_TL.body := by kernel_rfl
end Go.Vf.S
