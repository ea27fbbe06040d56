import Derived.Test.YtioildcpkcijkaaDoorLgK
/- What the law LogKnown says. -/
namespace Go.Vf.S
open Go Go.Vf Go.Vf.Fr
attribute [local irreducible] wSeq wRow wp wG
set_option linter.unusedVariables false
set_option linter.unusedSimpArgs false
set_option maxRecDepth 10000

/-! ### None -/

theorem lnone_nil (s : SS) : CallW pr n_log_Log_none [.pointer none] s fun v s' => v = .bool true ∧ s' = s := by
  refine CallW.run good ok_log_Log_none (by simp) rfl ?_
  (repeat(first|refine pSeq ?_|refine pReg ?_|refine sCons ?_|refine sNil ?_|refine pRet ?_|refine gNone ?_|refine gOn rfl ?_|refine gOff rfl rfl ?_|refine gTup rfl ?_))
  intro q hq
  obtain rfl : q = true := hq
  (repeat(first|refine pSeq ?_|refine pReg ?_|refine sCons ?_|refine sNil ?_|refine pRet ?_|refine gNone ?_|refine gOn rfl ?_|refine gOff rfl rfl ?_|refine gTup rfl ?_))
  exact ⟨rfl, rfl⟩
theorem lnone_zero {s : SS} {b : Nat} {cs : List Value} {t : TypeId} {g r : Bool} (h : lookH s.heap b = some (.cells (.pointer none :: cs) t g r)) : CallW pr n_log_Log_none [.pointer (some ⟨b, 0, none⟩)] s fun v s' => v = .bool true ∧ s' = s := by
  refine CallW.run good ok_log_Log_none (by simp) rfl ?_
  (repeat(first|refine pSeq ?_|refine pReg ?_|refine sCons ?_|refine sNil ?_|refine pRet ?_|refine gNone ?_|refine gOn rfl ?_|refine gOff rfl rfl ?_|refine gTup rfl ?_))
  intro q hq
  obtain rfl : q = false := hq
  (repeat(first|refine pSeq ?_|refine pReg ?_|refine sCons ?_|refine sNil ?_|refine pRet ?_|refine gNone ?_|refine gOn rfl ?_|refine gOff rfl rfl ?_|refine gTup rfl ?_))
  refine ld1_is rfl h rfl ?_
  (repeat(first|refine pSeq ?_|refine pReg ?_|refine sCons ?_|refine sNil ?_|refine pRet ?_|refine gNone ?_|refine gOn rfl ?_|refine gOff rfl rfl ?_|refine gTup rfl ?_))
  intro q hq
  obtain rfl : q = true := hq
  (repeat(first|refine pSeq ?_|refine pReg ?_|refine sCons ?_|refine sNil ?_|refine pRet ?_|refine gNone ?_|refine gOn rfl ?_|refine gOff rfl rfl ?_|refine gTup rfl ?_))
  exact ⟨rfl, rfl⟩
def NoLog (s : SS) (x : Value) : Prop := CallW pr n_log_Log_none [x] s fun v s' => v = .bool true ∧ s' = s

theorem append_no {s : SS} {x y : Value} (h : NoLog s x) : CallW pr n_log_Log_Append [x, y] s fun v s' => v = .tuple ⟨[.int .u32 0, .int .i64 2]⟩ ∧ s' = s := by
  refine CallW.run good ok_log_Log_Append (by simp) rfl ?_
  (repeat(first|refine pSeq ?_|refine pReg ?_|refine sCons ?_|refine sNil ?_|refine rCons ?_|refine rNil ?_|refine kNo ?_|refine pRow ?_|refine pSkip ?_|refine pRet ?_|refine pCond ?_|refine gNone ?_))
  refine CallW.mono h fun v s q => ?_
  obtain ⟨rfl, rfl⟩ := q
  (repeat(first|refine pSeq ?_|refine pReg ?_|refine sCons ?_|refine sNil ?_|refine rCons ?_|refine rNil ?_|refine kNo ?_|refine pRow ?_|refine pSkip ?_|refine pRet ?_|refine pCond ?_|refine gNone ?_))
  exact ⟨rfl, rfl⟩
theorem sync_no {s : SS} {x : Value} (h : NoLog s x) : CallW pr n_log_Log_Sync [x] s fun v s' => v = .int .i64 2 ∧ s' = s := by
  refine CallW.run good ok_log_Log_Sync (by simp) rfl ?_
  (repeat(first|refine pSeq ?_|refine pReg ?_|refine sCons ?_|refine sNil ?_|refine pSkip ?_|refine pRet ?_|refine pCond ?_|refine gNone ?_))
  refine CallW.mono h fun v s q => ?_
  obtain ⟨rfl, rfl⟩ := q
  (repeat(first|refine pSeq ?_|refine pReg ?_|refine sCons ?_|refine sNil ?_|refine pSkip ?_|refine pRet ?_|refine pCond ?_|refine gNone ?_))
  exact ⟨rfl, rfl⟩
theorem next_no {s : SS} {x : Value} (h : NoLog s x) : CallW pr n_log_Log_Next [x] s fun v s' => v = .int .u32 0 ∧ s' = s := by
  refine CallW.run good ok_log_Log_Next (by simp) rfl ?_
  (repeat(first|refine pSeq ?_|refine pReg ?_|refine sCons ?_|refine sNil ?_|refine pSkip ?_|refine pRet ?_|refine pCond ?_|refine gNone ?_))
  refine CallW.mono h fun v s q => ?_
  obtain ⟨rfl, rfl⟩ := q
  (repeat(first|refine pSeq ?_|refine pReg ?_|refine sCons ?_|refine sNil ?_|refine pSkip ?_|refine pRet ?_|refine pCond ?_|refine gNone ?_))
  exact ⟨rfl, rfl⟩
theorem sure_no {s : SS} {x : Value} (h : NoLog s x) : CallW pr n_log_Log_Sure [x] s fun v s' => v = .int .u32 0 ∧ s' = s := by
  refine CallW.run good ok_log_Log_Sure (by simp) rfl ?_
  (repeat(first|refine pSeq ?_|refine pReg ?_|refine sCons ?_|refine sNil ?_|refine pSkip ?_|refine pRet ?_|refine pCond ?_|refine gNone ?_))
  refine CallW.mono h fun v s q => ?_
  obtain ⟨rfl, rfl⟩ := q
  (repeat(first|refine pSeq ?_|refine pReg ?_|refine sCons ?_|refine sNil ?_|refine pSkip ?_|refine pRet ?_|refine pCond ?_|refine gNone ?_))
  exact ⟨rfl, rfl⟩
theorem size_no {s : SS} {x : Value} (h : NoLog s x) : CallW pr n_log_Log_Size [x] s fun v s' => v = .int .i64 0 ∧ s' = s := by
  refine CallW.run good ok_log_Log_Size (by simp) rfl ?_
  (repeat(first|refine pSeq ?_|refine pReg ?_|refine sCons ?_|refine sNil ?_|refine pSkip ?_|refine pRet ?_|refine pCond ?_|refine gNone ?_))
  refine CallW.mono h fun v s q => ?_
  obtain ⟨rfl, rfl⟩ := q
  (repeat(first|refine pSeq ?_|refine pReg ?_|refine sCons ?_|refine sNil ?_|refine pSkip ?_|refine pRet ?_|refine pCond ?_|refine gNone ?_))
  exact ⟨rfl, rfl⟩

theorem dnone_nil (s : SS) : CallW pr n_disk_Disk_none [.pointer none] s fun v s' => v = .bool true ∧ s' = s := by
  refine CallW.run good ok_disk_Disk_none (by simp) rfl ?_
  (repeat(first|refine pSeq ?_|refine pReg ?_|refine sCons ?_|refine sNil ?_|refine pRet ?_|refine gNone ?_|refine gOn rfl ?_|refine gOff rfl rfl ?_|refine gTup rfl ?_))
  intro q hq
  obtain rfl : q = true := hq
  (repeat(first|refine pSeq ?_|refine pReg ?_|refine sCons ?_|refine sNil ?_|refine pRet ?_|refine gNone ?_|refine gOn rfl ?_|refine gOff rfl rfl ?_|refine gTup rfl ?_))
  exact ⟨rfl, rfl⟩
theorem write_nil (s : SS) (x y : Value) : CallW pr n_disk_Disk_Write [.pointer none, x, y] s fun v s' => v = .int .i64 2 ∧ s' = s := by
  refine CallW.run good ok_disk_Disk_Write (by simp) rfl ?_
  (repeat(first|refine pSeq ?_|refine pReg ?_|refine sCons ?_|refine sNil ?_|refine rCons ?_|refine rNil ?_|refine kNo ?_|refine pRow ?_|refine pSkip ?_|refine pRet ?_|refine pCond ?_|refine gNone ?_|refine gOn rfl ?_|refine gOff rfl rfl ?_|refine gTup rfl ?_))
  refine (dnone_nil s).mono fun v s q => ?_
  obtain ⟨rfl, rfl⟩ := q
  (repeat(first|refine pSeq ?_|refine pReg ?_|refine sCons ?_|refine sNil ?_|refine rCons ?_|refine rNil ?_|refine kNo ?_|refine pRow ?_|refine pSkip ?_|refine pRet ?_|refine pCond ?_|refine gNone ?_|refine gOn rfl ?_|refine gOff rfl rfl ?_|refine gTup rfl ?_))
  exact ⟨rfl, rfl⟩
theorem isDisk_nil (s : SS) : CallW pr n_log_none [.pointer none] s fun v s' => v = .bool true ∧ s' = s := by
  refine CallW.run good ok_log_none (by simp) rfl ?_
  (repeat(first|refine pSeq ?_|refine pReg ?_|refine sCons ?_|refine sNil ?_|refine pRet ?_|refine gNone ?_))
  refine (write_nil s _ _).mono fun v s q => ?_
  obtain ⟨rfl, rfl⟩ := q
  (repeat(first|refine pSeq ?_|refine pReg ?_|refine sCons ?_|refine sNil ?_|refine pRet ?_|refine gNone ?_))
  intro q hq
  obtain rfl : q = true := by rw [hq]; rfl
  (repeat(first|refine pSeq ?_|refine pReg ?_|refine sCons ?_|refine sNil ?_|refine pRet ?_|refine gNone ?_))
  exact ⟨rfl, rfl⟩
theorem recover_nil (s : SS) : CallW pr n_log_Recover [.pointer none] s fun v s' => v = .tuple ⟨[.pointer none, .slice none 0 0, .int .i64 2]⟩ ∧ s' = s := by
  refine CallW.pieces0 (nt := 44) (res := [.tmp 2, .tmp 3, .tmp 4]) (c := .seq code_K25_R0 (.seq code_K25_R1 (.seq code_K25_R3 (.seq code_K25_R4 (.seq (.seq code_K25_R5 (.block 0 (.rangeFunc (.tmp 19) #[20] code_K25_A6 (.block 1 (.seq code_K25_R7 code_K25_R8))))) code_K25_TL))))) (by kernel_rfl) (by kernel_rfl) (by kernel_rfl) (by kernel_rfl) (by simp) ?_
  refine W0.seq (W0.of (comp_ok good ok_K25_R0 (Box.out (p := wp pr 44 s.next _ _ _ _) ?_)))
  (repeat(first|refine pSeq ?_|refine pReg ?_|refine sCons ?_|refine sNil ?_|refine pSkip ?_|refine pRet ?_|refine pCond ?_|refine gNone ?_))
  refine W0.seq (W0.of (comp_ok good ok_K25_R1 (Box.out (p := wp pr 44 s.next _ _ _ _) ?_)))
  (repeat(first|refine pSeq ?_|refine pReg ?_|refine sCons ?_|refine sNil ?_|refine pSkip ?_|refine pRet ?_|refine pCond ?_|refine gNone ?_))
  refine (isDisk_nil s).mono fun v s q => ?_
  obtain ⟨rfl, rfl⟩ := q
  (repeat(first|refine pSeq ?_|refine pReg ?_|refine sCons ?_|refine sNil ?_|refine pSkip ?_|refine pRet ?_|refine pCond ?_|refine gNone ?_))
  exact ⟨rfl, rfl⟩

/-- A payload that is too long. -/
theorem On.long {s : SS} {g d n c : Nat} {D : Dk} {B : Bs} {ps : PL} {j z : Nat} {base : Option Addr} {p : List UInt8} (h : On s g d D B ps j z) (hp : Rdb s base n p) (hn : 16384 < n) (hn2 : n ≤ 1000000) (hw : D.ws.length < 9998) (hx : ∀ id ∈ blkOf base, id ∉ foot d B) :
    CallW pr n_log_Log_Append [.pointer (some ⟨g, 0, none⟩), .slice base n c] s fun v s' => v = .tuple ⟨[.int .u32 0, .int .i64 3]⟩ ∧ ∃ B', On s' g d D B' ps j z ∧ Chg s s' (g :: foot d B) ∧ (∀ id ∈ whole d B', id ∈ whole d B ∨ s.next ≤ id) := by
  obtain rfl : n = p.length := hp.1
  have e : (lgS ps j).appended D p = ((0#32, 3), lgS ps j, D) := by
    unfold Lg.appended
    rw [if_pos (by omega)]
  refine (append_w h.la h.dk h.ev.fine (by rw [h.dk.many]; omega) ⟨h.ev.gl, h.ev.steps, h.ev.next, hp⟩ h.size hx).mono fun v s' q => ?_
  rw [e] at q
  obtain ⟨rfl, la, B', k, cg, -, al⟩ := q
  exact ⟨rfl, B', ⟨h.ev.chg cg h.off, la, k, h.now, h.le, h.inv⟩, cg, al⟩

theorem ch_snoc_len (ps : PL) (p : List UInt8) : (ch 0#32 1#32 (ps ++ [p])).length = (ch 0#32 1#32 ps).length + (10 + p.length) := by rw [lgS_form ps 0, List.length_append, form_len]

theorem cutW_two (a b : Nat) (f g : List UInt8) (x y : Int) : cutW [(a, f), (b, g)] [x, y] = [(a, f.take (max x 0).toNat), (b, g.take (max y 0).toNat)] := by simp [cutW]
def oneB : List UInt8 := [111, 110, 101]
def twoB : List UInt8 := [116, 119, 111]
def threeB : List UInt8 := [116, 104, 114, 101, 101]
/-- What is left behind the first frame: four bytes of the second, nothing, the third. -/
def staleR : List UInt8 := ((lgS [oneB] 1).form twoB).take 4 ++ List.replicate 9 0 ++ (lgS [oneB, twoB] 1).form threeB
theorem stale_is : layF (layF (ch 0#32 1#32 [oneB]) (ch 0#32 1#32 [oneB]).length (((lgS [oneB] 1).form twoB).take 4)) (ch 0#32 1#32 [oneB, twoB]).length (((lgS [oneB, twoB] 1).form threeB).take 99) = ch 0#32 1#32 [oneB] ++ staleR := by kernel_rfl
theorem stale_stop : openE (chS 0#32 1#32 [oneB]) (1#32 + BitVec.ofNat 32 1) staleR = 11 := by kernel_rfl
theorem stale_len : staleR.length = 28 := by kernel_rfl

set_option maxHeartbeats 2000000 in
theorem known_w {s : SS} (ev : Ev s) : CallW pr n_law03_LogKnown [] s fun v s' => v = .bool true := by
  refine CallW.run good ok_law03_LogKnown (by simp) rfl ?_
  (repeat(first|refine pSeq ?_|refine pReg ?_|refine sCons ?_|refine sNil ?_|refine pSkip ?_|refine pRet ?_|refine pCond ?_|refine gNone ?_|refine gOn rfl ?_|refine gOff rfl rfl ?_|refine gTup rfl ?_))
  have c0 : Chg s ({ s with heap := (s.next, some (.cells (flat (.agg ⟨[.pointer none, .int .u32 0, .int .u32 0, .int .u32 0, .int .i64 0]⟩)) tL false false)) :: s.heap, next := s.next + 1 } : SS) [] := .new []
  have e0 : lookH ({ s with heap := (s.next, some (.cells (flat (.agg ⟨[.pointer none, .int .u32 0, .int .u32 0, .int .u32 0, .int .i64 0]⟩)) tL false false)) :: s.heap, next := s.next + 1 } : SS).heap s.next = some (.cells [.pointer none, .int .u32 0, .int .u32 0, .int .u32 0, .int .i64 0] tL false false) := lkH
  have l0 : s.next < ({ s with heap := (s.next, some (.cells (flat (.agg ⟨[.pointer none, .int .u32 0, .int .u32 0, .int .u32 0, .int .i64 0]⟩)) tL false false)) :: s.heap, next := s.next + 1 } : SS).next := Nat.lt_succ_self _
  generalize ({ s with heap := (s.next, some (.cells (flat (.agg ⟨[.pointer none, .int .u32 0, .int .u32 0, .int .u32 0, .int .i64 0]⟩)) tL false false)) :: s.heap, next := s.next + 1 } : SS) = s1 at c0 e0 l0 ⊢
  have ev1 := ev.chg c0 (by simp)
  have nz : NoLog s1 (.pointer (some ⟨s.next, 0, none⟩)) := lnone_zero e0
  have nn : NoLog s1 (.pointer none) := lnone_nil s1
  refine (append_no nn).mono fun v s1 q => ?_
  obtain ⟨rfl, rfl⟩ := q
  (repeat(first|refine pSeq ?_|refine pReg ?_|refine sCons ?_|refine sNil ?_|refine pSkip ?_|refine pRet ?_|refine pCond ?_|refine gNone ?_|refine gOn rfl ?_|refine gOff rfl rfl ?_|refine gTup rfl ?_))
  refine (append_no nz).mono fun v s1 q => ?_
  obtain ⟨rfl, rfl⟩ := q
  (repeat(first|refine pSeq ?_|refine pReg ?_|refine sCons ?_|refine sNil ?_|refine pSkip ?_|refine pRet ?_|refine pCond ?_|refine gNone ?_|refine gOn rfl ?_|refine gOff rfl rfl ?_|refine gTup rfl ?_))
  refine (recover_nil s1).mono fun v s1 q => ?_
  obtain ⟨rfl, rfl⟩ := q
  (repeat(first|refine pSeq ?_|refine pReg ?_|refine sCons ?_|refine sNil ?_|refine pSkip ?_|refine pRet ?_|refine pCond ?_|refine gNone ?_|refine gOn rfl ?_|refine gOff rfl rfl ?_|refine gTup rfl ?_))
  intro q hq
  obtain rfl : q = false := by rw [hq]; rfl
  (repeat(first|refine pSeq ?_|refine pReg ?_|refine sCons ?_|refine sNil ?_|refine pSkip ?_|refine pRet ?_|refine pCond ?_|refine gNone ?_|refine gOn rfl ?_|refine gOff rfl rfl ?_|refine gTup rfl ?_))
  intro q hq
  obtain rfl : q = false := by rw [hq]; rfl
  (repeat(first|refine pSeq ?_|refine pReg ?_|refine sCons ?_|refine sNil ?_|refine pSkip ?_|refine pRet ?_|refine pCond ?_|refine gNone ?_|refine gOn rfl ?_|refine gOff rfl rfl ?_|refine gTup rfl ?_))
  refine (sync_no nn).mono fun v s1 q => ?_
  obtain ⟨rfl, rfl⟩ := q
  (repeat(first|refine pSeq ?_|refine pReg ?_|refine sCons ?_|refine sNil ?_|refine pSkip ?_|refine pRet ?_|refine pCond ?_|refine gNone ?_|refine gOn rfl ?_|refine gOff rfl rfl ?_|refine gTup rfl ?_))
  intro q hq
  obtain rfl : q = false := by rw [hq]; rfl
  (repeat(first|refine pSeq ?_|refine pReg ?_|refine sCons ?_|refine sNil ?_|refine pSkip ?_|refine pRet ?_|refine pCond ?_|refine gNone ?_|refine gOn rfl ?_|refine gOff rfl rfl ?_|refine gTup rfl ?_))
  refine (next_no nn).mono fun v s1 q => ?_
  obtain ⟨rfl, rfl⟩ := q
  (repeat(first|refine pSeq ?_|refine pReg ?_|refine sCons ?_|refine sNil ?_|refine pSkip ?_|refine pRet ?_|refine pCond ?_|refine gNone ?_|refine gOn rfl ?_|refine gOff rfl rfl ?_|refine gTup rfl ?_))
  intro q hq
  obtain rfl : q = false := by rw [hq]; rfl
  (repeat(first|refine pSeq ?_|refine pReg ?_|refine sCons ?_|refine sNil ?_|refine pSkip ?_|refine pRet ?_|refine pCond ?_|refine gNone ?_|refine gOn rfl ?_|refine gOff rfl rfl ?_|refine gTup rfl ?_))
  refine (sure_no nz).mono fun v s1 q => ?_
  obtain ⟨rfl, rfl⟩ := q
  (repeat(first|refine pSeq ?_|refine pReg ?_|refine sCons ?_|refine sNil ?_|refine pSkip ?_|refine pRet ?_|refine pCond ?_|refine gNone ?_|refine gOn rfl ?_|refine gOff rfl rfl ?_|refine gTup rfl ?_))
  intro q hq
  obtain rfl : q = false := by rw [hq]; rfl
  (repeat(first|refine pSeq ?_|refine pReg ?_|refine sCons ?_|refine sNil ?_|refine pSkip ?_|refine pRet ?_|refine pCond ?_|refine gNone ?_|refine gOn rfl ?_|refine gOff rfl rfl ?_|refine gTup rfl ?_))
  refine (size_no nn).mono fun v s1 q => ?_
  obtain ⟨rfl, rfl⟩ := q
  (repeat(first|refine pSeq ?_|refine pReg ?_|refine sCons ?_|refine sNil ?_|refine pSkip ?_|refine pRet ?_|refine pCond ?_|refine gNone ?_|refine gOn rfl ?_|refine gOff rfl rfl ?_|refine gTup rfl ?_))
  intro q hq
  obtain rfl : q = false := by rw [hq]; rfl
  (repeat(first|refine pSeq ?_|refine pReg ?_|refine sCons ?_|refine sNil ?_|refine pSkip ?_|refine pRet ?_|refine pCond ?_|refine gNone ?_|refine gOn rfl ?_|refine gOff rfl rfl ?_|refine gTup rfl ?_))
  intro q hq
  obtain rfl : q = false := by rw [hq]; rfl
  (repeat(first|refine pSeq ?_|refine pReg ?_|refine sCons ?_|refine sNil ?_|refine pSkip ?_|refine pRet ?_|refine pCond ?_|refine gNone ?_|refine gOn rfl ?_|refine gOff rfl rfl ?_|refine gTup rfl ?_))
  intro q hq
  obtain rfl : q = false := by rw [hq]; rfl
  (repeat(first|refine pSeq ?_|refine pReg ?_|refine sCons ?_|refine sNil ?_|refine pSkip ?_|refine pRet ?_|refine pCond ?_|refine gNone ?_|refine gOn rfl ?_|refine gOff rfl rfl ?_|refine gTup rfl ?_))
  refine (new_w (c := 100000) (by omega)).mono fun v s2 q => ?_
  obtain ⟨d, hd, rfl, k2, c2⟩ := q
  have ev2 := ev1.chg c2 (by simp)
  (repeat(first|refine pSeq ?_|refine pReg ?_|refine sCons ?_|refine sNil ?_|refine pSkip ?_|refine pRet ?_|refine pCond ?_|refine gNone ?_|refine gOn rfl ?_|refine gOff rfl rfl ?_|refine gTup rfl ?_))
  refine (recovered_on (ps := []) (r := []) k2 ev2 (by simp [Dk.made]) (by simp) rfl made_stop rfl (.inr rfl)).mono fun v s3 q => ?_
  obtain ⟨B3, g, W0, cw0, qs0, X, rfl, rfl, o3, hg, py0, hq0, c3, al3, -⟩ := q
  (repeat(first|refine pSeq ?_|refine pReg ?_|refine sCons ?_|refine sNil ?_|refine pSkip ?_|refine pRet ?_|refine pCond ?_|refine gNone ?_|refine gOn rfl ?_|refine gOff rfl rfl ?_|refine gTup rfl ?_))
  refine mark_new [111, 110, 101] rfl rfl rfl fun s4 r4 c4 n4 => ?_
  have o4 := o3.same c4
  (repeat(first|refine pSeq ?_|refine pReg ?_|refine sCons ?_|refine sNil ?_|refine pSkip ?_|refine pRet ?_|refine pCond ?_|refine gNone ?_|refine gOn rfl ?_|refine gOff rfl rfl ?_|refine gTup rfl ?_))
  refine (o4.append r4 (by omega) rfl (by decide) (by decide) (fun id q => by
    obtain rfl : id = s3.next := by simpa [blkOf] using q
    exact fun q => new_off o3.dk (Nat.le_refl _) (List.mem_append_left _ q))).mono fun v s5 q => ?_
  obtain ⟨rfl, D5, B5, z5, o5, e1, e2, e3, e4, e5, c5, al5⟩ := q
  (repeat(first|refine pSeq ?_|refine pReg ?_|refine sCons ?_|refine sNil ?_|refine pSkip ?_|refine pRet ?_|refine pCond ?_|refine gNone ?_|refine gOn rfl ?_|refine gOff rfl rfl ?_|refine gTup rfl ?_))
  refine o5.sync.mono fun v s6 q => ?_
  obtain ⟨rfl, B6, o6, c6, al6⟩ := q
  have cap6 : ({ D5 with sure := D5.now, ws := [] } : Dk).cap = 100000 := e1
  have full6 : ({ D5 with sure := D5.now, ws := [] } : Dk).full = false := e2
  (repeat(first|refine pSeq ?_|refine pReg ?_|refine sCons ?_|refine sNil ?_|refine pSkip ?_|refine pRet ?_|refine pCond ?_|refine gNone ?_|refine gOn rfl ?_|refine gOff rfl rfl ?_|refine gTup rfl ?_))
  refine mark_new [116, 119, 111] rfl rfl rfl fun s7 r7 c7 n7 => ?_
  have o7 := o6.same c7
  (repeat(first|refine pSeq ?_|refine pReg ?_|refine sCons ?_|refine sNil ?_|refine pSkip ?_|refine pRet ?_|refine pCond ?_|refine gNone ?_|refine gOn rfl ?_|refine gOff rfl rfl ?_|refine gTup rfl ?_))
  refine (o7.append r7 (by omega) full6 (by rw [cap6]; decide) (by simp) (fun id q => by
    obtain rfl : id = s6.next := by simpa [blkOf] using q
    exact fun q => new_off o6.dk (Nat.le_refl _) (List.mem_append_left _ q))).mono fun v s8 q => ?_
  obtain ⟨rfl, D8, B8, z8, o8, f1, f2, f3, f4, f5, c8, al8⟩ := q
  (repeat(first|refine pSeq ?_|refine pReg ?_|refine sCons ?_|refine sNil ?_|refine pSkip ?_|refine pRet ?_|refine pCond ?_|refine gNone ?_|refine gOn rfl ?_|refine gOff rfl rfl ?_|refine gTup rfl ?_))
  refine mark_new [116, 104, 114, 101, 101] rfl rfl rfl fun s9 r9 c9 n9 => ?_
  have o9 := o8.same c9
  (repeat(first|refine pSeq ?_|refine pReg ?_|refine sCons ?_|refine sNil ?_|refine pSkip ?_|refine pRet ?_|refine pCond ?_|refine gNone ?_|refine gOn rfl ?_|refine gOff rfl rfl ?_|refine gTup rfl ?_))
  refine (o9.append r9 (by omega) (f2.trans full6) (by rw [f1, cap6]; decide) (by rw [f4]; simp) (fun id q => by
    obtain rfl : id = s8.next := by simpa [blkOf] using q
    exact fun q => new_off o8.dk (Nat.le_refl _) (List.mem_append_left _ q))).mono fun v s10 q => ?_
  obtain ⟨rfl, D10, B10, z10, o10, g1, g2, g3, g4, g5, c10, al10⟩ := q
  (repeat(first|refine pSeq ?_|refine pReg ?_|refine sCons ?_|refine sNil ?_|refine pSkip ?_|refine pRet ?_|refine pCond ?_|refine gNone ?_|refine gOn rfl ?_|refine gOff rfl rfl ?_|refine gTup rfl ?_))
  have c11 : Chg s10 ({ s10 with heap := (s10.next, some (.cells [.int .i64 4, .int .i64 99] tI false false)) :: s10.heap, next := s10.next + 1 } : SS) [] := .new []
  have rI : RdI ({ s10 with heap := (s10.next, some (.cells [.int .i64 4, .int .i64 99] tI false false)) :: s10.heap, next := s10.next + 1 } : SS) (some ⟨s10.next, 0, none⟩) 2 [4, 99] := ⟨rfl, rfl, Nat.lt_succ_self _, _, _, _, lkH, fun i hi => by
    match i, hi with
    | 0, _ => rfl
    | 1, _ => rfl⟩
  generalize ({ s10 with heap := (s10.next, some (.cells [.int .i64 4, .int .i64 99] tI false false)) :: s10.heap, next := s10.next + 1 } : SS) = s11 at c11 rI ⊢
  have o11 := o10.same c11
  refine (crash_w o11.dk o11.ev.fine rI).mono fun v s12 q => ?_
  obtain ⟨rfl, B12, k12, st12, -⟩ := q
  have ev12 := o11.ev.chg st12.chg (o11.ev.off o11.dk)
  have hD12 : ∃ r, (D10.crashed [4, 99]).now = ch 0#32 1#32 [[111, 110, 101]] ++ r ∧ openE (chS 0#32 1#32 [[111, 110, 101]]) (1#32 + BitVec.ofNat 32 1) r ≠ 0 ∧ r.length = 28 := by
    refine ⟨staleR, ?_, by rw [show chS 0#32 1#32 [[111, 110, 101]] = chS 0#32 1#32 [oneB] from rfl, stale_stop]; omega, stale_len⟩
    show lays (cutW D10.ws [4, 99]) D10.sure = _
    rw [g4, g3, f4, f3]
    show lays (cutW [((ch 0#32 1#32 [oneB]).length, (lgS [oneB] 1).form twoB), ((ch 0#32 1#32 [oneB, twoB]).length, (lgS [oneB, twoB] 1).form threeB)] [4, 99]) D5.now = _
    have hz5 : z5 = 0 := e5
    have h5 : D5.now = ch 0#32 1#32 [oneB] := by rw [o5.now, hz5, List.replicate_zero, List.append_nil]; rfl
    rw [cutW_two, h5]
    exact stale_is
  obtain ⟨r, hr1, hr2, hr3⟩ := hD12
  have full12 : (D10.crashed [4, 99]).full = false := g2.trans (f2.trans full6)
  have cap12 : (D10.crashed [4, 99]).cap = 100000 := g1.trans (f1.trans cap6)
  (repeat(first|refine pSeq ?_|refine pReg ?_|refine sCons ?_|refine sNil ?_|refine pSkip ?_|refine pRet ?_|refine pCond ?_|refine gNone ?_|refine gOn rfl ?_|refine gOff rfl rfl ?_|refine gTup rfl ?_))
  refine (recovered_on (ps := [[111, 110, 101]]) k12 ev12 (by simp [Dk.crashed]) (by simp) hr1 hr2 rfl (.inl full12)).mono fun v s13 q => ?_
  obtain ⟨B13, g13, W13, cw13, qs13, X13, rfl, hX13, o13, hg13, py13, hq13, c13, al13, -⟩ := q
  have l13 : qs13.length = 1 := by simpa using congrArg List.length hq13
  (repeat(first|refine pSeq ?_|refine pReg ?_|refine sCons ?_|refine sNil ?_|refine pSkip ?_|refine pRet ?_|refine pCond ?_|refine gNone ?_|refine gOn rfl ?_|refine gOff rfl rfl ?_|refine gTup rfl ?_))
  refine mark_new [116, 119, 111] rfl rfl rfl fun s14 r14 c14 n14 => ?_
  have o14 := o13.same c14
  (repeat(first|refine pSeq ?_|refine pReg ?_|refine sCons ?_|refine sNil ?_|refine pSkip ?_|refine pRet ?_|refine pCond ?_|refine gNone ?_|refine gOn rfl ?_|refine gOff rfl rfl ?_|refine gTup rfl ?_))
  refine (o14.append r14 (by omega) full12 (by show _ ≤ (D10.crashed [4, 99]).cap; rw [cap12]; decide) (by simp) (fun id q => by
    obtain rfl : id = s13.next := by simpa [blkOf] using q
    exact fun q => new_off o13.dk (Nat.le_refl _) (List.mem_append_left _ q))).mono fun v s15 q => ?_
  obtain ⟨rfl, D15, B15, z15, o15, h1, h2, h3, h4, h5, c15, al15⟩ := q
  (repeat(first|refine pSeq ?_|refine pReg ?_|refine sCons ?_|refine sNil ?_|refine pSkip ?_|refine pRet ?_|refine pCond ?_|refine gNone ?_|refine gOn rfl ?_|refine gOff rfl rfl ?_|refine gTup rfl ?_))
  refine o15.sync.mono fun v s16 q => ?_
  obtain ⟨rfl, B16, o16, c16, al16⟩ := q
  (repeat(first|refine pSeq ?_|refine pReg ?_|refine sCons ?_|refine sNil ?_|refine pSkip ?_|refine pRet ?_|refine pCond ?_|refine gNone ?_|refine gOn rfl ?_|refine gOff rfl rfl ?_|refine gTup rfl ?_))
  refine (crash_w (kb := none) (kn := 0) (kc := 0) (zs := []) o16.dk o16.ev.fine ⟨rfl, rfl⟩).mono fun v s17 q => ?_
  obtain ⟨rfl, B17, k17, st17, -⟩ := q
  have ev17 := o16.ev.chg st17.chg (o16.ev.off o16.dk)
  have full17 : (({ D15 with sure := D15.now, ws := [] } : Dk).crashed []).full = false := h2.trans full12
  have cap17 : (({ D15 with sure := D15.now, ws := [] } : Dk).crashed []).cap = 100000 := h1.trans cap12
  (repeat(first|refine pSeq ?_|refine pReg ?_|refine sCons ?_|refine sNil ?_|refine pSkip ?_|refine pRet ?_|refine pCond ?_|refine gNone ?_|refine gOn rfl ?_|refine gOff rfl rfl ?_|refine gTup rfl ?_))
  refine (recovered_on (ps := [oneB, twoB]) (r := List.replicate z15 0) k17 ev17 (by simp [Dk.crashed]) (by simp [oneB, twoB]) (show D15.now = _ from o15.now) (zero_stop (by decide)) rfl (.inl full17)).mono fun v s18 q => ?_
  obtain ⟨B18, g18, W18, cw18, qs18, X18, rfl, hX18, o18, hg18, py18, hq18, c18, al18, off18⟩ := q
  have cap18 : (⟨(({ D15 with sure := D15.now, ws := [] } : Dk).crashed []).cap, (({ D15 with sure := D15.now, ws := [] } : Dk).crashed []).full, X18, X18, []⟩ : Dk).cap = 100000 := cap17
  have hl2 : (ch 0#32 1#32 [oneB, twoB]).length = 26 := by kernel_rfl
  have l18 : qs18.length = 2 := by simpa using congrArg List.length hq18
  (repeat(first|refine pSeq ?_|refine pReg ?_|refine sCons ?_|refine sNil ?_|refine pSkip ?_|refine pRet ?_|refine pCond ?_|refine gNone ?_|refine gOn rfl ?_|refine gOff rfl rfl ?_|refine gTup rfl ?_))
  refine ⟨by omega, ?_⟩
  intro m n hm hn cs hcs
  obtain rfl : m = 16385 := by omega
  obtain rfl : n = 16385 := by omega
  rw [zeros] at hcs
  subst hcs
  (repeat(first|refine pSeq ?_|refine pReg ?_|refine sCons ?_|refine sNil ?_|refine pSkip ?_|refine pRet ?_|refine pCond ?_|refine gNone ?_|refine gOn rfl ?_|refine gOff rfl rfl ?_|refine gTup rfl ?_))
  have c19 : Chg s18 ({ s18 with heap := (s18.next, some (.cells (bytesV (List.replicate 16385 0)) 5 false false)) :: s18.heap, next := s18.next + 1 } : SS) [] := .new _
  have r19 : Rdb ({ s18 with heap := (s18.next, some (.cells (bytesV (List.replicate 16385 0)) 5 false false)) :: s18.heap, next := s18.next + 1 } : SS) (some ⟨s18.next, 0, none⟩) 16385 (List.replicate 16385 0) := Rdb.head s18.heap 5 false (by rw [List.length_replicate])
  generalize ({ s18 with heap := (s18.next, some (.cells (bytesV (List.replicate 16385 0)) 5 false false)) :: s18.heap, next := s18.next + 1 } : SS) = s19 at c19 r19 ⊢
  have o19 := o18.same c19
  have py19 := py18.chg' c19 (by simp)
  refine (o19.long r19 (by omega) (by omega) (by simp) (fun id q => by
    obtain rfl : id = s18.next := by simpa [blkOf] using q
    exact fun q => new_off o18.dk (Nat.le_refl _) (List.mem_append_left _ q))).mono fun v s20 q => ?_
  obtain ⟨rfl, B20, o20, c20, al20⟩ := q
  (repeat(first|refine pSeq ?_|refine pReg ?_|refine sCons ?_|refine sNil ?_|refine pSkip ?_|refine pRet ?_|refine pCond ?_|refine gNone ?_|refine gOn rfl ?_|refine gOff rfl rfl ?_|refine gTup rfl ?_))
  refine ⟨by omega, ?_⟩
  intro m n hm hn cs hcs
  obtain rfl : m = 16384 := by omega
  obtain rfl : n = 16384 := by omega
  rw [zeros] at hcs
  subst hcs
  (repeat(first|refine pSeq ?_|refine pReg ?_|refine sCons ?_|refine sNil ?_|refine pSkip ?_|refine pRet ?_|refine pCond ?_|refine gNone ?_|refine gOn rfl ?_|refine gOff rfl rfl ?_|refine gTup rfl ?_))
  have c21 : Chg s20 ({ s20 with heap := (s20.next, some (.cells (bytesV (List.replicate 16384 0)) 5 false false)) :: s20.heap, next := s20.next + 1 } : SS) [] := .new _
  have r21 : Rdb ({ s20 with heap := (s20.next, some (.cells (bytesV (List.replicate 16384 0)) 5 false false)) :: s20.heap, next := s20.next + 1 } : SS) (some ⟨s20.next, 0, none⟩) 16384 (List.replicate 16384 0) := Rdb.head s20.heap 5 false (by rw [List.length_replicate])
  generalize ({ s20 with heap := (s20.next, some (.cells (bytesV (List.replicate 16384 0)) 5 false false)) :: s20.heap, next := s20.next + 1 } : SS) = s21 at c21 r21 ⊢
  have o21 := o20.same c21
  generalize hbig : List.replicate 16384 (0 : UInt8) = big at r21
  have lbig : big.length = 16384 := by rw [← hbig, List.length_replicate]
  refine (o21.append r21 (by omega) full17 (by rw [cap18, hl2]; omega) (by simp) (fun id q => by
    obtain rfl : id = s20.next := by simpa [blkOf] using q
    exact fun q => new_off o20.dk (Nat.le_refl _) (List.mem_append_left _ q))).mono fun v s22 q => ?_
  obtain ⟨rfl, D22, B22, z22, o22, i1, i2, i3, i4, i5, c22, al22⟩ := q
  have hl3 : (ch 0#32 1#32 ([oneB, twoB] ++ [big])).length = 16420 := by rw [ch_snoc_len, hl2, lbig]
  (repeat(first|refine pSeq ?_|refine pReg ?_|refine sCons ?_|refine sNil ?_|refine pSkip ?_|refine pRet ?_|refine pCond ?_|refine gNone ?_|refine gOn rfl ?_|refine gOff rfl rfl ?_|refine gTup rfl ?_))
  refine (o22.append (base := none) (p := []) (n := 0) ⟨rfl, rfl⟩ (by omega) (i2.trans full17) (by rw [i1, cap18, hl3]; omega) (by rw [i4]; simp) (by simp [blkOf])).mono fun v s23 q => ?_
  obtain ⟨rfl, D23, B23, z23, o23, j1, j2, j3, j4, j5, c23, al23⟩ := q
  have hl4 : (ch 0#32 1#32 (([oneB, twoB] ++ [big]) ++ [[]])).length = 16430 := by rw [ch_snoc_len, hl3]; rfl
  (repeat(first|refine pSeq ?_|refine pReg ?_|refine sCons ?_|refine sNil ?_|refine pSkip ?_|refine pRet ?_|refine pCond ?_|refine gNone ?_|refine gOn rfl ?_|refine gOff rfl rfl ?_|refine gTup rfl ?_))
  have n18 := c19.next
  have n20 := c21.next
  have n19 := c20.next
  have n21 := c22.next
  have in18 : ∀ id, PyIn W18 qs18 id → id ∉ whole d B18 ∧ id ≠ g18 ∧ id < s18.next := fun id q => ⟨(off18 id q).1, (off18 id q).2, (py18.ge q).2⟩
  have in20 : ∀ id, PyIn W18 qs18 id → id ∉ whole d B20 := fun id q r => (al20 id r).elim (fun r => (in18 id q).1 r) (fun r => by have := (in18 id q).2.2; omega)
  have in22 : ∀ id, PyIn W18 qs18 id → id ∉ whole d B22 := fun id q r => (al22 id r).elim (fun r => in20 id q r) (fun r => by have := (in18 id q).2.2; omega)
  have zoff : ∀ (B : Bs), (∀ id, PyIn W18 qs18 id → id ∉ whole d B) → ∀ id, PyIn W18 qs18 id → id ∉ g18 :: foot d B := fun B h id q r => by
    rcases List.mem_cons.1 r with r | r
    · exact (in18 id q).2.1 r
    · exact h id q (List.mem_append_left _ r)
  have py23 := (((py19.chg' c20 (zoff B18 fun id q => (in18 id q).1)).chg' c21 (by simp)).chg' c22 (zoff B20 in20)).chg' c23 (zoff B22 in22)
  obtain ⟨a18, b18, rfl⟩ : ∃ a b, qs18 = [a, b] := by
    match qs18, l18 with
    | [a, b], _ => exact ⟨a, b, rfl⟩
  have q22 : b18.2.2 = twoB := by
    have := hq18
    simp only [List.map_cons, List.map_nil, List.cons.injEq] at this
    exact this.2.1
  obtain ⟨b23, rfl, cs, t, g', r', p1, p2⟩ := py23.row'.at (i := 1) rfl
  rw [show b18.2.2.length = 3 by rw [q22]; rfl] at p2
  have pr23 := (py23.each b18 (by simp)).1
  rw [q22] at pr23
  intro q hq
  obtain rfl : q = true := by rw [hq]; rfl
  (repeat(first|refine pSeq ?_|refine pReg ?_|refine sCons ?_|refine sNil ?_|refine pSkip ?_|refine pRet ?_|refine pCond ?_|refine gNone ?_|refine gOn rfl ?_|refine gOff rfl rfl ?_|refine gTup rfl ?_))
  intro q hq
  obtain rfl : q = true := by rw [hq, l13]; rfl
  (repeat(first|refine pSeq ?_|refine pReg ?_|refine sCons ?_|refine sNil ?_|refine pSkip ?_|refine pRet ?_|refine pCond ?_|refine gNone ?_|refine gOn rfl ?_|refine gOff rfl rfl ?_|refine gTup rfl ?_))
  intro q hq
  obtain rfl : q = true := by rw [hq]; rfl
  (repeat(first|refine pSeq ?_|refine pReg ?_|refine sCons ?_|refine sNil ?_|refine pSkip ?_|refine pRet ?_|refine pCond ?_|refine gNone ?_|refine gOn rfl ?_|refine gOff rfl rfl ?_|refine gTup rfl ?_))
  intro q hq
  obtain rfl : q = true := by rw [hq]; rfl
  (repeat(first|refine pSeq ?_|refine pReg ?_|refine sCons ?_|refine sNil ?_|refine pSkip ?_|refine pRet ?_|refine pCond ?_|refine gNone ?_|refine gOn rfl ?_|refine gOff rfl rfl ?_|refine gTup rfl ?_))
  intro q hq
  obtain rfl : q = true := by rw [hq]; rfl
  (repeat(first|refine pSeq ?_|refine pReg ?_|refine sCons ?_|refine sNil ?_|refine pSkip ?_|refine pRet ?_|refine pCond ?_|refine gNone ?_|refine gOn rfl ?_|refine gOff rfl rfl ?_|refine gTup rfl ?_))
  intro q hq
  obtain rfl : q = true := by rw [hq]; rfl
  (repeat(first|refine pSeq ?_|refine pReg ?_|refine sCons ?_|refine sNil ?_|refine pSkip ?_|refine pRet ?_|refine pCond ?_|refine gNone ?_|refine gOn rfl ?_|refine gOff rfl rfl ?_|refine gTup rfl ?_))
  refine ⟨by simp, ?_⟩
  intro m hm o ho
  obtain rfl : m = 1 := by omega
  (repeat(first|refine pSeq ?_|refine pReg ?_|refine sCons ?_|refine sNil ?_|refine pSkip ?_|refine pRet ?_|refine pCond ?_|refine gNone ?_|refine gOn rfl ?_|refine gOff rfl rfl ?_|refine gTup rfl ?_))
  refine ld1_is rfl p1 (by rw [ho]; exact p2) ?_
  (repeat(first|refine pSeq ?_|refine pReg ?_|refine sCons ?_|refine sNil ?_|refine pSkip ?_|refine pRet ?_|refine pCond ?_|refine gNone ?_|refine gOn rfl ?_|refine gOff rfl rfl ?_|refine gTup rfl ?_))
  refine toStr_Rdb rfl pr23 ?_
  (repeat(first|refine pSeq ?_|refine pReg ?_|refine sCons ?_|refine sNil ?_|refine pSkip ?_|refine pRet ?_|refine pCond ?_|refine gNone ?_|refine gOn rfl ?_|refine gOff rfl rfl ?_|refine gTup rfl ?_))
  intro q hq
  obtain rfl : q = true := by rw [hq]; rfl
  (repeat(first|refine pSeq ?_|refine pReg ?_|refine sCons ?_|refine sNil ?_|refine pSkip ?_|refine pRet ?_|refine pCond ?_|refine gNone ?_|refine gOn rfl ?_|refine gOff rfl rfl ?_|refine gTup rfl ?_))
  intro q hq
  obtain rfl : q = true := by rw [hq]; rfl
  (repeat(first|refine pSeq ?_|refine pReg ?_|refine sCons ?_|refine sNil ?_|refine pSkip ?_|refine pRet ?_|refine pCond ?_|refine gNone ?_|refine gOn rfl ?_|refine gOff rfl rfl ?_|refine gTup rfl ?_))
  intro q hq
  obtain rfl : q = true := by rw [hq]; rfl
  (repeat(first|refine pSeq ?_|refine pReg ?_|refine sCons ?_|refine sNil ?_|refine pSkip ?_|refine pRet ?_|refine pCond ?_|refine gNone ?_|refine gOn rfl ?_|refine gOff rfl rfl ?_|refine gTup rfl ?_))
  intro q hq
  obtain rfl : q = true := by rw [hq]; rfl
  (repeat(first|refine pSeq ?_|refine pReg ?_|refine sCons ?_|refine sNil ?_|refine pSkip ?_|refine pRet ?_|refine pCond ?_|refine gNone ?_|refine gOn rfl ?_|refine gOff rfl rfl ?_|refine gTup rfl ?_))
  refine (next_w o23.la).mono fun v s23 q => ?_
  obtain ⟨rfl, rfl⟩ := q
  (repeat(first|refine pSeq ?_|refine pReg ?_|refine sCons ?_|refine sNil ?_|refine pSkip ?_|refine pRet ?_|refine pCond ?_|refine gNone ?_|refine gOn rfl ?_|refine gOff rfl rfl ?_|refine gTup rfl ?_))
  intro q hq
  obtain rfl : q = true := by rw [hq]; rfl
  (repeat(first|refine pSeq ?_|refine pReg ?_|refine sCons ?_|refine sNil ?_|refine pSkip ?_|refine pRet ?_|refine pCond ?_|refine gNone ?_|refine gOn rfl ?_|refine gOff rfl rfl ?_|refine gTup rfl ?_))
  refine (sure_w o23.la).mono fun v s23 q => ?_
  obtain ⟨rfl, rfl⟩ := q
  (repeat(first|refine pSeq ?_|refine pReg ?_|refine sCons ?_|refine sNil ?_|refine pSkip ?_|refine pRet ?_|refine pCond ?_|refine gNone ?_|refine gOn rfl ?_|refine gOff rfl rfl ?_|refine gTup rfl ?_))
  intro q hq
  obtain rfl : q = true := by rw [hq]; rfl
  (repeat(first|refine pSeq ?_|refine pReg ?_|refine sCons ?_|refine sNil ?_|refine pSkip ?_|refine pRet ?_|refine pCond ?_|refine gNone ?_|refine gOn rfl ?_|refine gOff rfl rfl ?_|refine gTup rfl ?_))
  refine (size_w o23.la).mono fun v s23 q => ?_
  obtain ⟨rfl, rfl⟩ := q
  (repeat(first|refine pSeq ?_|refine pReg ?_|refine sCons ?_|refine sNil ?_|refine pSkip ?_|refine pRet ?_|refine pCond ?_|refine gNone ?_|refine gOn rfl ?_|refine gOff rfl rfl ?_|refine gTup rfl ?_))
  intro q hq
  obtain rfl : q = true := by
    rw [hq]
    show decide (((ch 0#32 1#32 (([oneB, twoB] ++ [big]) ++ [[]])).length : Int) = 16430) = true
    rw [hl4]; rfl
  (repeat(first|refine pSeq ?_|refine pReg ?_|refine sCons ?_|refine sNil ?_|refine pSkip ?_|refine pRet ?_|refine pCond ?_|refine gNone ?_|refine gOn rfl ?_|refine gOff rfl rfl ?_|refine gTup rfl ?_))
  refine (wakes_w o23.ev).mono fun v s24 q => ?_
  subst q
  (repeat(first|refine pSeq ?_|refine pReg ?_|refine sCons ?_|refine sNil ?_|refine pSkip ?_|refine pRet ?_|refine pCond ?_|refine gNone ?_|refine gOn rfl ?_|refine gOff rfl rfl ?_|refine gTup rfl ?_))
  rfl
end Go.Vf.S
