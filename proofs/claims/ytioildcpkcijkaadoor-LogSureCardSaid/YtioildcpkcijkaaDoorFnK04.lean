import Derived.Test.YtioildcpkcijkaaDoorFn
import Derived.Test.YtioildcpkcijkaaDoorEngYm
import Derived.KernelRfl
/- Pieces of a function, made ready: as the machine prints them of the program itself. -/
namespace Go.Vf.S
open Go.Proofs
set_option maxRecDepth 100000
noncomputable def body_K04 : Code := bodyAt pr 4
noncomputable def nt_K04 : Nat := ntAt pr 4
noncomputable def code_K04_P0 : Code := (sqL body_K04)
noncomputable def code_K04_P1 : Code := (sqL (sqR body_K04))
noncomputable def code_K04_P2 : Code := (sqL (sqR (sqR body_K04)))
noncomputable def code_K04_P3 : Code := (sqL (sqR (sqR (sqR body_K04))))
noncomputable def code_K04_P4 : Code := (sqL (sqR (sqR (sqR (sqR body_K04)))))
noncomputable def code_K04_P5 : Code := (sqL (sqR (sqR (sqR (sqR (sqR body_K04))))))
noncomputable def code_K04_P6 : Code := (sqL (sqL (sqR (sqR (sqR (sqR (sqR (sqR body_K04))))))))
noncomputable def code_K04_HB : Code := (sqL (inB (inB (sqR (sqL (sqR (sqR (sqR (sqR (sqR (sqR body_K04)))))))))))
noncomputable def code_K04_HC : Code := (sqL (sqR (inB (inB (sqR (sqL (sqR (sqR (sqR (sqR (sqR (sqR body_K04))))))))))))
noncomputable def code_K04_RA : Code := (sqL (inB (sqL (sqR (sqR (inB (inB (sqR (sqL (sqR (sqR (sqR (sqR (sqR (sqR body_K04)))))))))))))))
noncomputable def code_K04_RB : Code := (sqL (sqL (sqR (inB (sqL (sqR (sqR (inB (inB (sqR (sqL (sqR (sqR (sqR (sqR (sqR (sqR body_K04)))))))))))))))))
noncomputable def code_K04_SA : Code := (sqL (inB (sqR (sqL (sqR (inB (sqL (sqR (sqR (inB (inB (sqR (sqL (sqR (sqR (sqR (sqR (sqR (sqR body_K04)))))))))))))))))))
noncomputable def code_K04_AP : Code := (cnT (sqR (inB (sqR (sqL (sqR (inB (sqL (sqR (sqR (inB (inB (sqR (sqL (sqR (sqR (sqR (sqR (sqR (sqR body_K04))))))))))))))))))))
noncomputable def code_K04_RC : Code := (sqL (cnE (sqR (inB (sqR (sqL (sqR (inB (sqL (sqR (sqR (inB (inB (sqR (sqL (sqR (sqR (sqR (sqR (sqR (sqR body_K04)))))))))))))))))))))
noncomputable def code_K04_SY : Code := (cnT (sqR (cnE (sqR (inB (sqR (sqL (sqR (inB (sqL (sqR (sqR (inB (inB (sqR (sqL (sqR (sqR (sqR (sqR (sqR (sqR body_K04))))))))))))))))))))))
noncomputable def code_K04_SB : Code := (sqL (cnE (sqR (cnE (sqR (inB (sqR (sqL (sqR (inB (sqL (sqR (sqR (inB (inB (sqR (sqL (sqR (sqR (sqR (sqR (sqR (sqR body_K04)))))))))))))))))))))))
noncomputable def code_K04_CR : Code := (cnT (sqR (cnE (sqR (cnE (sqR (inB (sqR (sqL (sqR (inB (sqL (sqR (sqR (inB (inB (sqR (sqL (sqR (sqR (sqR (sqR (sqR (sqR body_K04))))))))))))))))))))))))
noncomputable def code_K04_CK : Code := (sqR (sqR (inB (sqL (sqR (sqR (inB (inB (sqR (sqL (sqR (sqR (sqR (sqR (sqR (sqR body_K04))))))))))))))))
noncomputable def code_K04_IN : Code := (sqR (sqR (sqR (inB (inB (sqR (sqL (sqR (sqR (sqR (sqR (sqR (sqR body_K04)))))))))))))
noncomputable def code_K04_TL : Code := (sqR (sqR (sqR (sqR (sqR (sqR (sqR body_K04)))))))
theorem nt_K04_is : nt_K04 = 183 := by kernel_rfl
abbrev n_K04_P0 : Nat := 0
def m_K04_P0 : MF := ⟨183, [], (.reg [⟨(some 2), none, (.mov (.const (.bool false)))⟩])⟩
theorem ok_K04_P0 : comp pr 183 code_K04_P0 = some m_K04_P0.body := by kernel_rfl
abbrev n_K04_P1 : Nat := 0
def m_K04_P1 : MF := ⟨183, [], (.reg [⟨(some 19), none, (.call 12 [(.const (.int .i64 3000))])⟩, ⟨(some 18), none, (.mov (.tmp 19))⟩, ⟨(some 20), none, (.ext (.tmp 18) 0)⟩, ⟨(some 21), none, (.ext (.tmp 18) 1)⟩, ⟨(some 3), none, (.mov (.tmp 20))⟩, ⟨(some 4), none, (.mov (.tmp 21))⟩])⟩
theorem ok_K04_P1 : comp pr 183 code_K04_P1 = some m_K04_P1.body := by kernel_rfl
abbrev n_K04_P2 : Nat := 0
def m_K04_P2 : MF := ⟨183, [], (.seq (.reg [⟨(some 22), none, (.mov (.tmp 4))⟩, ⟨(some 23), none, (.bin .neq .none (.tmp 22) (.const (.int .i64 0)))⟩]) (.cond (.tmp 23) (.seq (.reg [⟨(some 2), none, (.mov (.const (.bool false)))⟩]) .ret) .skip))⟩
theorem ok_K04_P2 : comp pr 183 code_K04_P2 = some m_K04_P2.body := by kernel_rfl
abbrev n_K04_P3 : Nat := 0
def m_K04_P3 : MF := ⟨183, [], (.reg [⟨(some 25), none, (.mov (.tmp 3))⟩, ⟨(some 26), none, (.call 25 [(.tmp 25)])⟩, ⟨(some 24), none, (.mov (.tmp 26))⟩, ⟨(some 27), none, (.ext (.tmp 24) 0)⟩, ⟨(some 28), none, (.ext (.tmp 24) 1)⟩, ⟨(some 29), none, (.ext (.tmp 24) 2)⟩, ⟨(some 5), none, (.mov (.tmp 27))⟩, ⟨(some 6), none, (.mov (.tmp 28))⟩, ⟨(some 4), none, (.mov (.tmp 29))⟩])⟩
theorem ok_K04_P3 : comp pr 183 code_K04_P3 = some m_K04_P3.body := by kernel_rfl
abbrev n_K04_P4 : Nat := 0
def m_K04_P4 : MF := ⟨183, [], (.seq (.reg [⟨(some 30), none, (.mov (.tmp 4))⟩, ⟨(some 31), none, (.bin .neq .none (.tmp 30) (.const (.int .i64 0)))⟩, ⟨(some 32), none, (.mov (.tmp 31))⟩, ⟨(some 33), (some (32, false)), (.mov (.tmp 5))⟩, ⟨(some 34), (some (32, false)), (.bin .eql .ptr (.tmp 33) (.const (.pointer none)))⟩, ⟨(some 35), none, (.pick (.tmp 32) (.const (.bool true)) (.tmp 34))⟩]) (.cond (.tmp 35) (.seq (.reg [⟨(some 2), none, (.mov (.const (.bool false)))⟩]) .ret) .skip))⟩
theorem ok_K04_P4 : comp pr 183 code_K04_P4 = some m_K04_P4.body := by kernel_rfl
abbrev n_K04_P5 : Nat := 0
def m_K04_P5 : MF := ⟨183, [], (.reg [⟨(some 7), none, (.alloc 58 [(.slice none 0 0), (.int .i64 0)])⟩])⟩
theorem ok_K04_P5 : comp pr 183 code_K04_P5 = some m_K04_P5.body := by kernel_rfl
abbrev n_K04_P6 : Nat := 0
def m_K04_P6 : MF := ⟨183, [], (.reg [⟨(some 36), none, (.mov (.tmp 0))⟩, ⟨(some 37), none, (.call 15 [(.tmp 36), (.const (.int .i64 40))])⟩, ⟨(some 38), none, (.lenL (.tmp 37))⟩, ⟨(some 39), none, (.mov (.const (.int .i64 0)))⟩])⟩
theorem ok_K04_P6 : comp pr 183 code_K04_P6 = some m_K04_P6.body := by kernel_rfl
abbrev n_K04_HB : Nat := 0
def m_K04_HB : MF := ⟨183, [], (.reg [⟨(some 40), none, (.bin .lss .none (.tmp 39) (.tmp 38))⟩])⟩
theorem ok_K04_HB : comp pr 183 code_K04_HB = some m_K04_HB.body := by kernel_rfl
abbrev n_K04_HC : Nat := 0
def m_K04_HC : MF := ⟨183, [], (.cond (.tmp 40) .skip (.exit 0))⟩
theorem ok_K04_HC : comp pr 183 code_K04_HC = some m_K04_HC.body := by kernel_rfl
abbrev n_K04_RA : Nat := 0
def m_K04_RA : MF := ⟨183, [], (.reg [⟨(some 41), none, (.ixa 4 (.tmp 37) (.tmp 39))⟩, ⟨(some 42), none, (.ldN 4 (.tmp 41))⟩, ⟨(some 9), none, (.alloc 40 [(.int .i64 0), (.int .i64 0), (.slice none 0 0), (.slice none 0 0)])⟩, ⟨none, none, (.st 4 (.tmp 9) (.tmp 42))⟩])⟩
theorem ok_K04_RA : comp pr 183 code_K04_RA = some m_K04_RA.body := by kernel_rfl
abbrev n_K04_RB : Nat := 0
def m_K04_RB : MF := ⟨183, [], (.reg [⟨(some 43), none, (.faddr 0 (.tmp 9))⟩, ⟨(some 44), none, (.ldI .i64 (.tmp 43))⟩])⟩
theorem ok_K04_RB : comp pr 183 code_K04_RB = some m_K04_RB.body := by kernel_rfl
abbrev n_K04_SA : Nat := 0
def m_K04_SA : MF := ⟨183, [], (.seq (.reg [⟨(some 46), none, (.bin .eql .none (.tmp 44) (.const (.int .i64 0)))⟩, ⟨(some 45), none, (.mov (.tmp 46))⟩]) (.cond (.tmp 45) .skip (.seq (.reg [⟨(some 47), none, (.bin .eql .none (.tmp 44) (.const (.int .i64 1)))⟩, ⟨(some 45), none, (.mov (.tmp 47))⟩]) (.cond (.tmp 45) .skip (.seq (.reg [⟨(some 48), none, (.bin .eql .none (.tmp 44) (.const (.int .i64 2)))⟩, ⟨(some 45), none, (.mov (.tmp 48))⟩]) (.cond (.tmp 45) .skip (.seq (.reg [⟨(some 49), none, (.bin .eql .none (.tmp 44) (.const (.int .i64 3)))⟩, ⟨(some 45), none, (.mov (.tmp 49))⟩]) (.cond (.tmp 45) .skip (.reg [⟨(some 50), none, (.bin .eql .none (.tmp 44) (.const (.int .i64 4)))⟩, ⟨(some 45), none, (.mov (.tmp 50))⟩])))))))))⟩
theorem ok_K04_SA : comp pr 183 code_K04_SA = some m_K04_SA.body := by kernel_rfl
abbrev n_K04_AP : Nat := 0
def m_K04_AP : MF := ⟨183, [], (.seq (.reg [⟨(some 52), none, (.mov (.tmp 5))⟩, ⟨(some 53), none, (.faddr 2 (.tmp 9))⟩, ⟨(some 54), none, (.ld1 (.tmp 53))⟩, ⟨(some 55), none, (.call 26 [(.tmp 52), (.tmp 54)])⟩, ⟨(some 51), none, (.mov (.tmp 55))⟩, ⟨(some 56), none, (.ext (.tmp 51) 0)⟩, ⟨(some 57), none, (.ext (.tmp 51) 1)⟩, ⟨(some 10), none, (.mov (.tmp 56))⟩, ⟨(some 11), none, (.mov (.tmp 57))⟩]) (.seq (.seq (.reg [⟨(some 58), none, (.mov (.tmp 11))⟩, ⟨(some 59), none, (.bin .eql .none (.tmp 58) (.const (.int .i64 0)))⟩]) (.cond (.tmp 59) (.row [(⟨(some 60), none, (.faddr 0 (.tmp 7))⟩, (false, (false, 0))), (⟨(some 61), none, (.ld1 (.tmp 60))⟩, (false, (true, 1))), (⟨(some 62), none, (.faddr 2 (.tmp 9))⟩, (false, (false, 0))), (⟨(some 63), none, (.ld1 (.tmp 62))⟩, (false, (false, 0))), (⟨(some 64), none, (.call 27 [(.tmp 63)])⟩, (true, (true, 0))), (⟨(some 65), none, (.mkS 37 1 [(.slice none 0 0)] [(0, (1, (.tmp 64)))])⟩, (false, (false, 1))), (⟨(some 66), none, (.app 37 1 24 (.tmp 61) (.tmp 65))⟩, (true, (false, 1))), (⟨(some 67), none, (.faddr 0 (.tmp 7))⟩, (false, (false, 0))), (⟨none, none, (.st 1 (.tmp 67) (.tmp 66))⟩, (true, (false, 2)))]) .skip)) (.seq (.reg [⟨(some 68), none, (.mov (.tmp 11))⟩, ⟨(some 69), none, (.bin .eql .none (.tmp 68) (.const (.int .i64 0)))⟩, ⟨(some 70), none, (.mov (.tmp 69))⟩, ⟨(some 71), (some (70, true)), (.mov (.tmp 10))⟩, ⟨(some 72), (some (70, true)), (.toInt .i64 (.tmp 71))⟩, ⟨(some 73), (some (70, true)), (.faddr 0 (.tmp 7))⟩, ⟨(some 74), (some (70, true)), (.ld1 (.tmp 73))⟩, ⟨(some 75), (some (70, true)), (.lenL (.tmp 74))⟩, ⟨(some 76), (some (70, true)), (.bin .neq .none (.tmp 72) (.tmp 75))⟩, ⟨(some 77), none, (.pick (.tmp 70) (.tmp 76) (.const (.bool false)))⟩, ⟨(some 78), none, (.mov (.tmp 77))⟩, ⟨(some 79), (some (78, false)), (.mov (.tmp 11))⟩, ⟨(some 80), (some (78, false)), (.bin .neq .none (.tmp 79) (.const (.int .i64 0)))⟩, ⟨(some 81), (some (78, false)), (.mov (.tmp 80))⟩, ⟨(some 82), (some (81, true)), (.mov (.tmp 11))⟩, ⟨(some 83), (some (81, true)), (.bin .neq .none (.tmp 82) (.const (.int .i64 7)))⟩, ⟨(some 84), (some (81, true)), (.mov (.tmp 83))⟩, ⟨(some 85), (some (84, false)), (.mov (.tmp 10))⟩, ⟨(some 86), (some (84, false)), (.bin .neq .none (.tmp 85) (.const (.int .u32 0)))⟩, ⟨(some 87), (some (81, true)), (.pick (.tmp 84) (.const (.bool true)) (.tmp 86))⟩, ⟨(some 88), (some (78, false)), (.pick (.tmp 81) (.tmp 87) (.const (.bool false)))⟩, ⟨(some 89), none, (.pick (.tmp 78) (.const (.bool true)) (.tmp 88))⟩]) (.cond (.tmp 89) (.seq (.reg [⟨(some 2), none, (.mov (.const (.bool false)))⟩]) .ret) .skip))))⟩
theorem ok_K04_AP : comp pr 183 code_K04_AP = some m_K04_AP.body := by kernel_rfl
abbrev n_K04_RC : Nat := 0
def m_K04_RC : MF := ⟨183, [], (.reg [⟨(some 91), none, (.bin .eql .none (.tmp 44) (.const (.int .i64 5)))⟩, ⟨(some 90), none, (.mov (.tmp 91))⟩])⟩
theorem ok_K04_RC : comp pr 183 code_K04_RC = some m_K04_RC.body := by kernel_rfl
abbrev n_K04_SY : Nat := 0
def m_K04_SY : MF := ⟨183, [], (.seq (.seq (.reg [⟨(some 92), none, (.mov (.tmp 5))⟩, ⟨(some 93), none, (.call 28 [(.tmp 92)])⟩, ⟨(some 94), none, (.bin .neq .none (.tmp 93) (.const (.int .i64 0)))⟩]) (.cond (.tmp 94) (.seq (.reg [⟨(some 2), none, (.mov (.const (.bool false)))⟩]) .ret) .skip)) (.reg [⟨(some 95), none, (.faddr 0 (.tmp 7))⟩, ⟨(some 96), none, (.ld1 (.tmp 95))⟩, ⟨(some 97), none, (.lenL (.tmp 96))⟩, ⟨(some 98), none, (.faddr 1 (.tmp 7))⟩, ⟨none, none, (.st 1 (.tmp 98) (.tmp 97))⟩]))⟩
theorem ok_K04_SY : comp pr 183 code_K04_SY = some m_K04_SY.body := by kernel_rfl
abbrev n_K04_SB : Nat := 0
def m_K04_SB : MF := ⟨183, [], (.seq (.reg [⟨(some 100), none, (.bin .eql .none (.tmp 44) (.const (.int .i64 6)))⟩, ⟨(some 99), none, (.mov (.tmp 100))⟩]) (.cond (.tmp 99) .skip (.seq (.reg [⟨(some 101), none, (.bin .eql .none (.tmp 44) (.const (.int .i64 8)))⟩, ⟨(some 99), none, (.mov (.tmp 101))⟩]) (.cond (.tmp 99) .skip (.reg [⟨(some 102), none, (.bin .eql .none (.tmp 44) (.const (.int .i64 9)))⟩, ⟨(some 99), none, (.mov (.tmp 102))⟩])))))⟩
theorem ok_K04_SB : comp pr 183 code_K04_SB = some m_K04_SB.body := by kernel_rfl
abbrev n_K04_CR : Nat := 0
def m_K04_CR : MF := ⟨183, [], (.seq (.reg [⟨(some 103), none, (.faddr 3 (.tmp 9))⟩, ⟨(some 104), none, (.ld1 (.tmp 103))⟩, ⟨(some 12), none, (.mov (.tmp 104))⟩]) (.seq (.reg [⟨(some 105), none, (.mov (.tmp 3))⟩, ⟨(some 106), none, (.mov (.tmp 12))⟩, ⟨(some 107), none, (.call 29 [(.tmp 105), (.tmp 106)])⟩]) (.seq (.reg [⟨(some 109), none, (.mov (.tmp 3))⟩, ⟨(some 110), none, (.call 25 [(.tmp 109)])⟩, ⟨(some 108), none, (.mov (.tmp 110))⟩, ⟨(some 111), none, (.ext (.tmp 108) 0)⟩, ⟨(some 112), none, (.ext (.tmp 108) 1)⟩, ⟨(some 113), none, (.ext (.tmp 108) 2)⟩, ⟨(some 13), none, (.mov (.tmp 111))⟩, ⟨(some 14), none, (.mov (.tmp 112))⟩, ⟨(some 15), none, (.mov (.tmp 113))⟩]) (.seq (.seq (.reg [⟨(some 114), none, (.mov (.tmp 15))⟩, ⟨(some 115), none, (.bin .neq .none (.tmp 114) (.const (.int .i64 0)))⟩, ⟨(some 116), none, (.mov (.tmp 115))⟩, ⟨(some 117), (some (116, false)), (.mov (.tmp 13))⟩, ⟨(some 118), (some (116, false)), (.bin .eql .ptr (.tmp 117) (.const (.pointer none)))⟩, ⟨(some 119), none, (.pick (.tmp 116) (.const (.bool true)) (.tmp 118))⟩, ⟨(some 120), none, (.mov (.tmp 119))⟩, ⟨(some 121), (some (120, false)), (.mov (.tmp 14))⟩, ⟨(some 122), (some (120, false)), (.lenL (.tmp 121))⟩, ⟨(some 123), (some (120, false)), (.faddr 1 (.tmp 7))⟩, ⟨(some 124), (some (120, false)), (.ldI .i64 (.tmp 123))⟩, ⟨(some 125), (some (120, false)), (.bin .lss .none (.tmp 122) (.tmp 124))⟩, ⟨(some 126), none, (.pick (.tmp 120) (.const (.bool true)) (.tmp 125))⟩]) (.cond (.tmp 126) (.seq (.reg [⟨(some 2), none, (.mov (.const (.bool false)))⟩]) .ret) .skip)) (.seq (.seq (.reg [⟨(some 127), none, (.mov (.tmp 14))⟩, ⟨(some 128), none, (.lenL (.tmp 127))⟩, ⟨(some 129), none, (.mov (.const (.int .i64 0)))⟩]) (.block 3 (.loop (.seq (.reg [⟨(some 130), none, (.bin .lss .none (.tmp 129) (.tmp 128))⟩]) (.seq (.cond (.tmp 130) .skip (.exit 3)) (.seq (.block 4 (.seq (.reg [⟨(some 131), none, (.mov (.tmp 129))⟩, ⟨(some 132), none, (.ixa 1 (.tmp 127) (.tmp 129))⟩, ⟨(some 133), none, (.ld1 (.tmp 132))⟩, ⟨(some 16), none, (.mov (.tmp 131))⟩, ⟨(some 17), none, (.mov (.tmp 133))⟩]) (.seq (.reg [⟨(some 134), none, (.mov (.tmp 16))⟩, ⟨(some 135), none, (.faddr 0 (.tmp 7))⟩, ⟨(some 136), none, (.ld1 (.tmp 135))⟩, ⟨(some 137), none, (.lenL (.tmp 136))⟩, ⟨(some 138), none, (.bin .geq .none (.tmp 134) (.tmp 137))⟩, ⟨(some 139), none, (.mov (.tmp 138))⟩, ⟨(some 140), (some (139, false)), (.mov (.tmp 17))⟩, ⟨(some 141), (some (139, false)), (.faddr 0 (.tmp 7))⟩, ⟨(some 142), (some (139, false)), (.ld1 (.tmp 141))⟩, ⟨(some 143), (some (139, false)), (.mov (.tmp 16))⟩, ⟨(some 144), (some (139, false)), (.ixa 1 (.tmp 142) (.tmp 143))⟩, ⟨(some 145), (some (139, false)), (.ld1 (.tmp 144))⟩, ⟨(some 146), (some (139, false)), (.call 17 [(.tmp 140), (.tmp 145)])⟩, ⟨(some 147), (some (139, false)), (.un .not (.tmp 146))⟩, ⟨(some 148), none, (.pick (.tmp 139) (.const (.bool true)) (.tmp 147))⟩]) (.cond (.tmp 148) (.seq (.reg [⟨(some 149), none, (.ldN 2 (.tmp 7))⟩, ⟨(some 150), none, (.mov (.tmp 16))⟩, ⟨(some 151), none, (.mov (.tmp 17))⟩, ⟨(some 152), none, (.mov (.tmp 12))⟩, ⟨(some 153), none, (.call 30 [(.tmp 149), (.tmp 150), (.tmp 151), (.tmp 152)])⟩, ⟨(some 2), none, (.mov (.tmp 153))⟩]) .ret) .skip)))) (.reg [⟨(some 154), none, (.bin .add .none (.tmp 129) (.const (.int .i64 1)))⟩, ⟨(some 129), none, (.mov (.tmp 154))⟩]))))))) (.seq (.reg [⟨(some 155), none, (.mov (.tmp 13))⟩, ⟨(some 5), none, (.mov (.tmp 155))⟩]) (.reg [⟨(some 156), none, (.faddr 0 (.tmp 7))⟩, ⟨(some 157), none, (.ld1 (.tmp 156))⟩, ⟨(some 158), none, (.mov (.tmp 14))⟩, ⟨(some 159), none, (.lenL (.tmp 158))⟩, ⟨(some 160), none, (.slL 1 (.tmp 157) none (some (.tmp 159)))⟩, ⟨(some 161), none, (.mov (.tmp 14))⟩, ⟨(some 162), none, (.lenL (.tmp 161))⟩, ⟨(some 163), none, (.faddr 0 (.tmp 7))⟩, ⟨none, none, (.st 1 (.tmp 163) (.tmp 160))⟩, ⟨(some 164), none, (.faddr 1 (.tmp 7))⟩, ⟨none, none, (.st 1 (.tmp 164) (.tmp 162))⟩])))))))⟩
theorem ok_K04_CR : comp pr 183 code_K04_CR = some m_K04_CR.body := by kernel_rfl
abbrev n_K04_CK : Nat := 0
def m_K04_CK : MF := ⟨183, [], (.seq (.row [(⟨(some 165), none, (.mov (.tmp 5))⟩, (false, (false, 0))), (⟨(some 168), none, (.faddr 0 (.tmp 7))⟩, (false, (false, 0))), (⟨(some 169), none, (.ld1 (.tmp 168))⟩, (false, (true, 1))), (⟨(some 170), none, (.lenL (.tmp 169))⟩, (false, (true, 1))), (⟨(some 171), none, (.bin .add .none (.tmp 170) (.const (.int .i64 1)))⟩, (false, (false, 0))), (⟨(some 166), none, (.call 21 [(.tmp 165)])⟩, (true, (true, 0))), (⟨(some 167), none, (.toInt .i64 (.tmp 166))⟩, (false, (false, 1))), (⟨(some 172), none, (.bin .neq .none (.tmp 167) (.tmp 171))⟩, (false, (false, 0))), (⟨(some 173), none, (.mov (.tmp 172))⟩, (false, (false, 0))), (⟨(some 174), (some (173, false)), (.mov (.tmp 5))⟩, (false, (false, 0))), (⟨(some 177), (some (173, false)), (.faddr 1 (.tmp 7))⟩, (false, (false, 0))), (⟨(some 178), (some (173, false)), (.ldI .i64 (.tmp 177))⟩, (false, (true, 2))), (⟨(some 175), (some (173, false)), (.call 22 [(.tmp 174)])⟩, (true, (true, 1))), (⟨(some 176), (some (173, false)), (.toInt .i64 (.tmp 175))⟩, (false, (false, 2))), (⟨(some 179), (some (173, false)), (.bin .neq .none (.tmp 176) (.tmp 178))⟩, (false, (false, 0))), (⟨(some 180), none, (.pick (.tmp 173) (.const (.bool true)) (.tmp 179))⟩, (false, (false, 0)))]) (.cond (.tmp 180) (.seq (.reg [⟨(some 2), none, (.mov (.const (.bool false)))⟩]) .ret) .skip))⟩
theorem ok_K04_CK : comp pr 183 code_K04_CK = some m_K04_CK.body := by kernel_rfl
abbrev n_K04_IN : Nat := 0
def m_K04_IN : MF := ⟨183, [], (.reg [⟨(some 181), none, (.bin .add .none (.tmp 39) (.const (.int .i64 1)))⟩, ⟨(some 39), none, (.mov (.tmp 181))⟩])⟩
theorem ok_K04_IN : comp pr 183 code_K04_IN = some m_K04_IN.body := by kernel_rfl
abbrev n_K04_TL : Nat := 0
def m_K04_TL : MF := ⟨183, [], (.seq (.reg [⟨(some 182), none, (.call 24 [])⟩, ⟨(some 2), none, (.mov (.tmp 182))⟩]) .ret)⟩
theorem ok_K04_TL : comp pr 183 code_K04_TL = some m_K04_TL.body := by kernel_rfl
end Go.Vf.S
