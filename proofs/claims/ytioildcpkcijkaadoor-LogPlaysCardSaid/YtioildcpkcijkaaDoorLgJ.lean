import Derived.Test.YtioildcpkcijkaaDoorLgI
import Derived.Test.YtioildcpkcijkaaDoorDkF
/- The chapter's example, run. -/
namespace Go.Vf.S
open Go Go.Vf Go.Vf.Fr
attribute [local irreducible] wSeq wRow wp wG
set_option linter.unusedVariables false
set_option linter.unusedSimpArgs false
set_option maxRecDepth 10000

theorem cutW_one (n : Nat) (f : List UInt8) (z : Int) : cutW [(n, f)] [z] = [(n, f.take (max z 0).toNat)] := by simp [cutW]

set_option maxHeartbeats 1000000 in
theorem wakes_w {s : SS} (ev : Ev s) : CallW pr n_law03_wakes [] s fun v s' => v = .bool true := by
  refine CallW.run good ok_law03_wakes (by simp) rfl ?_
  (repeat(first|refine pSeq ?_|refine pReg ?_|refine sCons ?_|refine sNil ?_|refine pSkip ?_|refine pRet ?_|refine pCond ?_|refine gNone ?_|refine gOn rfl ?_|refine gOff rfl rfl ?_|refine gTup rfl ?_))
  refine (new_w (c := 1000) (by omega)).mono fun v s1 q => ?_
  obtain ⟨d, hd, rfl, k1, c1⟩ := q
  have ev1 := ev.chg c1 (by simp)
  (repeat(first|refine pSeq ?_|refine pReg ?_|refine sCons ?_|refine sNil ?_|refine pSkip ?_|refine pRet ?_|refine pCond ?_|refine gNone ?_|refine gOn rfl ?_|refine gOff rfl rfl ?_|refine gTup rfl ?_))
  intro q hq
  obtain rfl : q = false := by rw [hq]; rfl
  (repeat(first|refine pSeq ?_|refine pReg ?_|refine sCons ?_|refine sNil ?_|refine pSkip ?_|refine pRet ?_|refine pCond ?_|refine gNone ?_|refine gOn rfl ?_|refine gOff rfl rfl ?_|refine gTup rfl ?_))
  refine (recovered_on (ps := []) (r := []) k1 ev1 (by simp [Dk.made]) (by simp) rfl made_stop rfl (.inr rfl)).mono fun v s2 q => ?_
  obtain ⟨B2, g, W0, cw0, qs0, X, rfl, rfl, o2, hg, py0, hq0, c2, al2, -⟩ := q
  obtain rfl : qs0 = [] := by simpa using hq0
  (repeat(first|refine pSeq ?_|refine pReg ?_|refine sCons ?_|refine sNil ?_|refine pSkip ?_|refine pRet ?_|refine pCond ?_|refine gNone ?_|refine gOn rfl ?_|refine gOff rfl rfl ?_|refine gTup rfl ?_))
  refine mark_new [97] rfl rfl rfl fun s3 r3 c3 n3 => ?_
  have o3 := o2.same c3
  (repeat(first|refine pSeq ?_|refine pReg ?_|refine sCons ?_|refine sNil ?_|refine pSkip ?_|refine pRet ?_|refine pCond ?_|refine gNone ?_|refine gOn rfl ?_|refine gOff rfl rfl ?_|refine gTup rfl ?_))
  refine (o3.append r3 (by omega) rfl (by decide) (by decide) (fun id q => by
    obtain rfl : id = s2.next := by simpa [blkOf] using q
    exact fun q => new_off o2.dk (Nat.le_refl _) (List.mem_append_left _ q))).mono fun v s4 q => ?_
  obtain ⟨rfl, D4, B4, z4, o4, e1, e2, e3, e4, e5, c4, al4⟩ := q
  (repeat(first|refine pSeq ?_|refine pReg ?_|refine sCons ?_|refine sNil ?_|refine pSkip ?_|refine pRet ?_|refine pCond ?_|refine gNone ?_|refine gOn rfl ?_|refine gOff rfl rfl ?_|refine gTup rfl ?_))
  refine o4.sync.mono fun v s5 q => ?_
  obtain ⟨rfl, B5, o5, c5, al5⟩ := q
  (repeat(first|refine pSeq ?_|refine pReg ?_|refine sCons ?_|refine sNil ?_|refine pSkip ?_|refine pRet ?_|refine pCond ?_|refine gNone ?_|refine gOn rfl ?_|refine gOff rfl rfl ?_|refine gTup rfl ?_))
  refine mark_new [98, 98] rfl rfl rfl fun s6 r6 c6 n6 => ?_
  have o6 := o5.same c6
  (repeat(first|refine pSeq ?_|refine pReg ?_|refine sCons ?_|refine sNil ?_|refine pSkip ?_|refine pRet ?_|refine pCond ?_|refine gNone ?_|refine gOn rfl ?_|refine gOff rfl rfl ?_|refine gTup rfl ?_))
  refine (o6.append r6 (by omega) (by rw [show ({ D4 with sure := D4.now, ws := [] } : Dk).full = D4.full from rfl, e2]; rfl) (by rw [show ({ D4 with sure := D4.now, ws := [] } : Dk).cap = D4.cap from rfl, e1]; decide) (by simp) (fun id q => by
    obtain rfl : id = s5.next := by simpa [blkOf] using q
    exact fun q => new_off o5.dk (Nat.le_refl _) (List.mem_append_left _ q))).mono fun v s7 q => ?_
  obtain ⟨rfl, D7, B7, z7, o7, f1, f2, f3, f4, f5, c7, al7⟩ := q
  (repeat(first|refine pSeq ?_|refine pReg ?_|refine sCons ?_|refine sNil ?_|refine pSkip ?_|refine pRet ?_|refine pCond ?_|refine gNone ?_|refine gOn rfl ?_|refine gOff rfl rfl ?_|refine gTup rfl ?_))
  have c8 : Chg s7 ({ s7 with heap := (s7.next, some (.cells [.int .i64 5] tI false false)) :: s7.heap, next := s7.next + 1 } : SS) [] := .new []
  have rI : RdI ({ s7 with heap := (s7.next, some (.cells [.int .i64 5] tI false false)) :: s7.heap, next := s7.next + 1 } : SS) (some ⟨s7.next, 0, none⟩) 1 [5] := ⟨rfl, rfl, Nat.lt_succ_self _, _, _, _, lkH, fun i hi => by
    obtain rfl : i = 0 := by omega
    rfl⟩
  generalize ({ s7 with heap := (s7.next, some (.cells [.int .i64 5] tI false false)) :: s7.heap, next := s7.next + 1 } : SS) = s8 at c8 rI ⊢
  have o8 := o7.same c8
  refine (crash_w o8.dk o8.ev.fine rI).mono fun v s9 q => ?_
  obtain ⟨rfl, B9, k9, st9, -⟩ := q
  have ev9 := o8.ev.chg st9.chg (o8.ev.off o8.dk)
  have hD9 : (D7.crashed [5]).now = ch 0#32 1#32 [[97]] ++ ((lgS [[97]] 1).form [98, 98]).take 5 := by
    show lays (cutW D7.ws [5]) D7.sure = _
    rw [f4, f3]
    rw [List.nil_append, cutW_one]
    show layF D4.now (ch 0#32 1#32 [[97]]).length (((lgS [[97]] 1).form [98, 98]).take 5) = _
    have e0 := layF_zeros (a := ch 0#32 1#32 [[97]]) (w := ((lgS [[97]] 1).form [98, 98]).take 5) (z := z4)
    rw [o4.now]
    refine e0.trans ?_
    rw [e5]
    simp
  (repeat(first|refine pSeq ?_|refine pReg ?_|refine sCons ?_|refine sNil ?_|refine pSkip ?_|refine pRet ?_|refine pCond ?_|refine gNone ?_|refine gOn rfl ?_|refine gOff rfl rfl ?_|refine gTup rfl ?_))
  refine (recovered_on (ps := [[97]]) k9 ev9 (by simp [Dk.crashed]) (by simp) hD9 (short_stop (by decide)) rfl (.inl (f2.trans e2))).mono fun v s10 q => ?_
  obtain ⟨B10, g10, W10, cw10, qs10, X, rfl, rfl, o10, hg10, py10, hq10, c10, al10, off10⟩ := q
  (repeat(first|refine pSeq ?_|refine pReg ?_|refine sCons ?_|refine sNil ?_|refine pSkip ?_|refine pRet ?_|refine pCond ?_|refine gNone ?_|refine gOn rfl ?_|refine gOff rfl rfl ?_|refine gTup rfl ?_))
  refine mark_new [99] rfl rfl rfl fun s11 r11 c11 n11 => ?_
  have o11 := o10.same c11
  (repeat(first|refine pSeq ?_|refine pReg ?_|refine sCons ?_|refine sNil ?_|refine pSkip ?_|refine pRet ?_|refine pCond ?_|refine gNone ?_|refine gOn rfl ?_|refine gOff rfl rfl ?_|refine gTup rfl ?_))
  refine (o11.append r11 (by omega) (f2.trans e2) (by rw [show (D7.crashed [5]).cap = D7.cap from rfl, f1]; show _ ≤ D4.cap; rw [e1]; decide) (by simp) (fun id q => by
    obtain rfl : id = s10.next := by simpa [blkOf] using q
    exact fun q => new_off o10.dk (Nat.le_refl _) (List.mem_append_left _ q))).mono fun v s12 q => ?_
  obtain ⟨rfl, D12, B12, z12, o12, -, -, -, -, -, c12, al12⟩ := q
  have lq : qs10.length = 1 := by simpa using congrArg List.length hq10
  obtain ⟨q10, rfl⟩ : ∃ q, qs10 = [q] := ⟨qs10[0], by
    match qs10, lq with
    | [q], _ => rfl⟩
  have q22 : q10.2.2 = [97] := by simpa using hq10
  have py12 : Pys s12 s9.next W10 cw10 [q10] := (py10.chg' c11 (by simp)).chg' c12 (fun id q r => by
    obtain ⟨h1, h2⟩ := off10 id q
    rcases List.mem_cons.1 r with r | r
    · exact h2 r
    · exact h1 (List.mem_append_left _ r))
  obtain ⟨b10, rfl, cs, t, g', r', p1, p2⟩ := py12.row'.at (i := 0) rfl
  rw [show q10.2.2.length = 1 by rw [q22]; rfl] at p2
  have pr12 := (py12.each q10 (by simp)).1
  rw [q22] at pr12
  (repeat(first|refine pSeq ?_|refine pReg ?_|refine sCons ?_|refine sNil ?_|refine pSkip ?_|refine pRet ?_|refine pCond ?_|refine gNone ?_|refine gOn rfl ?_|refine gOff rfl rfl ?_|refine gTup rfl ?_))
  intro q hq
  obtain rfl : q = true := by rw [hq]; rfl
  (repeat(first|refine pSeq ?_|refine pReg ?_|refine sCons ?_|refine sNil ?_|refine pSkip ?_|refine pRet ?_|refine pCond ?_|refine gNone ?_|refine gOn rfl ?_|refine gOff rfl rfl ?_|refine gTup rfl ?_))
  intro q hq
  obtain rfl : q = true := by rw [hq]; rfl
  (repeat(first|refine pSeq ?_|refine pReg ?_|refine sCons ?_|refine sNil ?_|refine pSkip ?_|refine pRet ?_|refine pCond ?_|refine gNone ?_|refine gOn rfl ?_|refine gOff rfl rfl ?_|refine gTup rfl ?_))
  intro q hq
  obtain rfl : q = true := by rw [hq]; rfl
  (repeat(first|refine pSeq ?_|refine pReg ?_|refine sCons ?_|refine sNil ?_|refine pSkip ?_|refine pRet ?_|refine pCond ?_|refine gNone ?_|refine gOn rfl ?_|refine gOff rfl rfl ?_|refine gTup rfl ?_))
  intro q hq
  obtain rfl : q = true := by rw [hq]; rfl
  (repeat(first|refine pSeq ?_|refine pReg ?_|refine sCons ?_|refine sNil ?_|refine pSkip ?_|refine pRet ?_|refine pCond ?_|refine gNone ?_|refine gOn rfl ?_|refine gOff rfl rfl ?_|refine gTup rfl ?_))
  intro q hq
  obtain rfl : q = true := by rw [hq]; rfl
  (repeat(first|refine pSeq ?_|refine pReg ?_|refine sCons ?_|refine sNil ?_|refine pSkip ?_|refine pRet ?_|refine pCond ?_|refine gNone ?_|refine gOn rfl ?_|refine gOff rfl rfl ?_|refine gTup rfl ?_))
  refine ⟨by omega, ?_⟩
  intro m hm o ho
  obtain rfl : m = 0 := by omega
  (repeat(first|refine pSeq ?_|refine pReg ?_|refine sCons ?_|refine sNil ?_|refine pSkip ?_|refine pRet ?_|refine pCond ?_|refine gNone ?_|refine gOn rfl ?_|refine gOff rfl rfl ?_|refine gTup rfl ?_))
  refine ld1_is rfl p1 (by rw [ho]; exact p2) ?_
  (repeat(first|refine pSeq ?_|refine pReg ?_|refine sCons ?_|refine sNil ?_|refine pSkip ?_|refine pRet ?_|refine pCond ?_|refine gNone ?_|refine gOn rfl ?_|refine gOff rfl rfl ?_|refine gTup rfl ?_))
  refine toStr_Rdb rfl pr12 ?_
  (repeat(first|refine pSeq ?_|refine pReg ?_|refine sCons ?_|refine sNil ?_|refine pSkip ?_|refine pRet ?_|refine pCond ?_|refine gNone ?_|refine gOn rfl ?_|refine gOff rfl rfl ?_|refine gTup rfl ?_))
  intro q hq
  obtain rfl : q = true := by rw [hq]; rfl
  (repeat(first|refine pSeq ?_|refine pReg ?_|refine sCons ?_|refine sNil ?_|refine pSkip ?_|refine pRet ?_|refine pCond ?_|refine gNone ?_|refine gOn rfl ?_|refine gOff rfl rfl ?_|refine gTup rfl ?_))
  intro q hq
  obtain rfl : q = true := by rw [hq]; rfl
  (repeat(first|refine pSeq ?_|refine pReg ?_|refine sCons ?_|refine sNil ?_|refine pSkip ?_|refine pRet ?_|refine pCond ?_|refine gNone ?_|refine gOn rfl ?_|refine gOff rfl rfl ?_|refine gTup rfl ?_))
  rfl
end Go.Vf.S
