import Derived.Test.YtioildcpkcijkaaDoorLgK
import Derived.Test.YtioildcpkcijkaaDoorFnK06
/- What the law LogFull says, from any state. -/
namespace Go.Vf.S
open Go Go.Vf Go.Vf.Fr
attribute [local irreducible] wSeq wRow wp wG
set_option linter.unusedVariables false
set_option linter.unusedSimpArgs false
set_option maxRecDepth 10000

/-- Recover that may not write over what stands behind. -/
theorem norecover_w {s : SS} {d : Nat} {D : Dk} {B : Bs} {ps : PL} {r : List UInt8} (k : DAt s d D B) (ev : Ev s) (hw : D.ws.length < 9998) (hle : ∀ p ∈ ps, p.length ≤ 16384) (hnow : D.now = ch 0#32 1#32 ps ++ r)
    (hr : openE (chS 0#32 1#32 ps) (1#32 + BitVec.ofNat 32 ps.length) r ≠ 0) (hf : D.full = true) (h0 : 0 < r.length) :
    CallW pr n_log_Recover [.pointer (some ⟨d, 0, none⟩)] s fun v s' => v = .tuple ⟨[.pointer none, .slice none 0 0, .int .i64 7]⟩ ∧ ∃ B', DAt s' d D B' ∧ Chg s s' (foot d B) ∧ (∀ id ∈ whole d B', id ∈ whole d B ∨ s.next ≤ id) := by
  have e := rcv_full hle hnow hr hf h0
  refine (recover_w k ev.fine ev.gl ev.steps ev.next hw).mono fun v s' q => ?_
  obtain ⟨B', k', c, al, q | q⟩ := q
  · rw [e] at q k'
    exact ⟨q.2, B', k', c, al⟩
  · rw [e] at q; exact absurd q.1 (by simp)

theorem lay_behind (b w : List UInt8) : layF b b.length w = b ++ w := by
  have := layF_zeros (a := b) (w := w) (z := 0)
  simpa using this

theorem read_to {D : Dk} {m : Nat} (h : D.now.length ≤ m) : D.read 0 m = D.now := by
  unfold Dk.read
  rw [if_neg (by omega)]
  show (D.now.drop 0).take m = D.now
  rw [List.drop_zero, List.take_of_length_le h]

theorem full_tail {s0 s : SS} {k g d cw : Nat} {Wa : Option Addr} {qs : List Py} {D : Dk} {B : Bs} {ps : PL} (o : On s g d D B ps 0 0) (hg : s0.next ≤ g) (hn : NewD s0.next d B) (hs : s0.next ≤ s.next) (al : Al s0.next s Wa cw qs) (hqs : qs.map (·.2.2) = ps) (hl : ps.length ≤ 20) (h60 : ∀ p ∈ ps, p.length ≤ 60)
    (hc : D.cap = 4000) (hf : D.full = false) (hw : D.ws.length ≤ 20) :
    W pr 165 k code_K06_TL [(4, .bool false), (5, .pointer (some ⟨d, 0, none⟩)), (7, .pointer (some ⟨g, 0, none⟩)), (10, .slice Wa qs.length cw)] s (runQ pr [.tmp 4] fun v s' => v = .bool true) := by
  refine comp_ok good ok_K06_TL (Box.out (p := wp pr 165 k _ _ _ _) ?_)
  have hsz := ch_size (c := 60) ps 0#32 1#32 h60
  (repeat(first|refine pSeq ?_|refine pReg ?_|refine sCons ?_|refine sNil ?_|refine pSkip ?_|refine pRet ?_|refine pCond ?_|refine gNone ?_|refine gOn rfl ?_|refine gOff rfl rfl ?_|refine gTup rfl ?_))
  refine o.sync.mono fun v s1 q => ?_
  obtain ⟨rfl, B1, o1, c1, al1⟩ := q
  have al1' := al.on o c1 hg hn
  have hn1 := hn.al al1 hs
  have hs1 := Nat.le_trans hs c1.next
  (repeat(first|refine pSeq ?_|refine pReg ?_|refine sCons ?_|refine sNil ?_|refine pSkip ?_|refine pRet ?_|refine pCond ?_|refine gNone ?_|refine gOn rfl ?_|refine gOff rfl rfl ?_|refine gTup rfl ?_))
  refine (size_w o1.la).mono fun v s1 q => ?_
  obtain ⟨rfl, rfl⟩ := q
  (repeat(first|refine pSeq ?_|refine pReg ?_|refine sCons ?_|refine sNil ?_|refine pSkip ?_|refine pRet ?_|refine pCond ?_|refine gNone ?_|refine gOn rfl ?_|refine gOff rfl rfl ?_|refine gTup rfl ?_))
  have c2 : Chg s1 ({ s1 with heap := (s1.next, some (.cells (bytesV [1, 2, 3]) 5 false false)) :: s1.heap, next := s1.next + 1 } : SS) [] := .new []
  have r2 : Rdb ({ s1 with heap := (s1.next, some (.cells (bytesV [1, 2, 3]) 5 false false)) :: s1.heap, next := s1.next + 1 } : SS) (some ⟨s1.next, 0, none⟩) 3 [1, 2, 3] := Rdb.head s1.heap 5 false rfl
  have e2 : ({ s1 with heap := (s1.next, some (.cells [.int .u8 1, .int .u8 2, .int .u8 3] 5 false false)) :: s1.heap, next := s1.next + 1 } : SS) = { s1 with heap := (s1.next, some (.cells (bytesV [1, 2, 3]) 5 false false)) :: s1.heap, next := s1.next + 1 } := rfl
  rw [← e2] at c2 r2
  generalize ({ s1 with heap := (s1.next, some (.cells [.int .u8 1, .int .u8 2, .int .u8 3] 5 false false)) :: s1.heap, next := s1.next + 1 } : SS) = s2 at c2 r2 ⊢
  have o2 := o1.same c2
  have hs2 := Nat.le_trans hs1 c2.next
  have al2 := al1'.chg c2 (by simp)
  have hnow : D.now = ch 0#32 1#32 ps := by rw [o.now]; simp
  have hlen : D.now.length ≤ 1400 := by rw [hnow]; omega
  refine (write_w (k := (lgS ps ps.length).size) o2.dk o2.ev.fine r2 (by omega) (by rw [o2.dk.many]; simp) (by have := o2.size; omega)).mono fun v s3 q => ?_
  have ew : ({ D with sure := D.now, ws := [] } : Dk).wrote ((lgS ps ps.length).size : Int) [1, 2, 3] = (0, { D with sure := D.now, now := D.now ++ [1, 2, 3], ws := [(D.now.length, [1, 2, 3])] }) := by
    have es : (lgS ps ps.length).size = D.now.length := by rw [hnow]; rfl
    unfold Dk.wrote
    rw [es]
    have h1 : ({ D with sure := D.now, ws := [] } : Dk).now = D.now := rfl
    have h2 : ({ D with sure := D.now, ws := [] } : Dk).full = D.full := rfl
    have h3 : ({ D with sure := D.now, ws := [] } : Dk).cap = D.cap := rfl
    rw [h1, h2, h3, if_neg (by omega), if_neg (by rw [hf, hc]; simp; omega), Int.toNat_natCast, lay_behind]
    rfl
  rw [ew] at q
  obtain ⟨rfl, B3, k3, st3, -⟩ := q
  have ev3 := o2.ev.chg st3.chg (o2.ev.off o2.dk)
  have al3 := al2.on o2 (foot_g st3.chg) hg hn1
  have hn3 := hn1.al st3.al hs2
  have hs3 := Nat.le_trans hs2 st3.chg.next
  (repeat(first|refine pSeq ?_|refine pReg ?_|refine sCons ?_|refine sNil ?_|refine pSkip ?_|refine pRet ?_|refine pCond ?_|refine gNone ?_|refine gOn rfl ?_|refine gOff rfl rfl ?_|refine gTup rfl ?_))
  refine (sync_w k3).mono fun v s4 q => ?_
  obtain ⟨rfl, B4, k4, st4, -⟩ := q
  have ed : ({ D with sure := D.now, now := D.now ++ [1, 2, 3], ws := [(D.now.length, [1, 2, 3])] } : Dk).synced = { D with sure := D.now ++ [1, 2, 3], now := D.now ++ [1, 2, 3], ws := [] } := by
    show ({ D with sure := layF D.now D.now.length [1, 2, 3], now := D.now ++ [1, 2, 3], ws := [] } : Dk) = _
    rw [lay_behind]
  rw [ed] at k4
  have ev4 := ev3.chg st4.chg (ev3.off k3)
  have al4 : Al s0.next s4 Wa cw qs := al3.chg st4.chg fun id q => ⟨hn3 id (List.mem_append_left _ q), fun r => row_off (g := g) (A := lgS ps 0) al3.row k3 id r (List.mem_append_left _ q)⟩
  have hn4 := hn3.al st4.al hs3
  have hs4 := Nat.le_trans hs3 st4.chg.next
  (repeat(first|refine pSeq ?_|refine pReg ?_|refine sCons ?_|refine sNil ?_|refine pSkip ?_|refine pRet ?_|refine pCond ?_|refine gNone ?_|refine gOn rfl ?_|refine gOff rfl rfl ?_|refine gTup rfl ?_))
  refine (read_w (k := 0) (m := 4000) k4 (by omega)).mono fun v s5 q => ?_
  obtain ⟨b5, rfl, own5, new5, c5⟩ := q
  have er : ({ D with sure := D.now ++ [1, 2, 3], now := D.now ++ [1, 2, 3], ws := [] } : Dk).read 0 4000 = D.now ++ [1, 2, 3] := read_to (m := 4000) (by simp; omega)
  rw [er] at own5 ⊢
  have k5 := k4.chg c5 (by simp)
  have ev5 := ev4.chg c5 (by simp)
  have al5 := al4.chg c5 (by simp)
  have hs5 := Nat.le_trans hs4 c5.next
  have rd5 := own5.rdb
  (repeat(first|refine pSeq ?_|refine pReg ?_|refine sCons ?_|refine sNil ?_|refine pSkip ?_|refine pRet ?_|refine pCond ?_|refine gNone ?_|refine gOn rfl ?_|refine gOff rfl rfl ?_|refine gTup rfl ?_))
  refine (fill_w k5 true).mono fun v s6 q => ?_
  obtain ⟨rfl, k6, st6⟩ := q
  have ev6 := ev5.chg st6.chg (ev5.off k5)
  have al6 : Al s0.next s6 Wa cw qs := al5.chg st6.chg fun id q => ⟨hn4 id (List.mem_append_left _ q), fun r => row_off (g := g) (A := lgS ps 0) al5.row k5 id r (List.mem_append_left _ q)⟩
  have hs6 := Nat.le_trans hs5 st6.chg.next
  have off5 : ∀ id ∈ blkOf b5, id ∉ whole d B4 := fun id q r => by have := new5 id q; have := k4.blt id r; omega
  have rd6 := rd5.chg st6.chg (fun id q r => off5 id q (List.mem_append_left _ r))
  (repeat(first|refine pSeq ?_|refine pReg ?_|refine sCons ?_|refine sNil ?_|refine pSkip ?_|refine pRet ?_|refine pCond ?_|refine gNone ?_|refine gOn rfl ?_|refine gOff rfl rfl ?_|refine gTup rfl ?_))
  have h164 : ∀ p ∈ ps, p.length ≤ 16384 := fun p hp => by have := h60 p hp; omega
  refine (norecover_w (ps := ps) (r := [1, 2, 3]) k6 ev6 (by simp) h164 (by show D.now ++ _ = _; rw [hnow]) (short_stop (by simp)) rfl (by simp)).mono fun v s7 q => ?_
  obtain ⟨rfl, B7, k7, c7, al7⟩ := q
  have ev7 := ev6.chg c7 (ev6.off k6)
  have al7' : Al s0.next s7 Wa cw qs := al6.chg c7 fun id q => ⟨hn4 id (List.mem_append_left _ q), fun r => row_off (g := g) (A := lgS ps 0) al6.row k6 id r (List.mem_append_left _ q)⟩
  have hs7 := Nat.le_trans hs6 c7.next
  have rd7 := rd6.chg c7 (fun id q r => off5 id q (List.mem_append_left _ r))
  (repeat(first|refine pSeq ?_|refine pReg ?_|refine sCons ?_|refine sNil ?_|refine pSkip ?_|refine pRet ?_|refine pCond ?_|refine gNone ?_|refine gOn rfl ?_|refine gOff rfl rfl ?_|refine gTup rfl ?_))
  intro q hq
  obtain rfl : q = false := by rw [hq]; rfl
  (repeat(first|refine pSeq ?_|refine pReg ?_|refine sCons ?_|refine sNil ?_|refine pSkip ?_|refine pRet ?_|refine pCond ?_|refine gNone ?_|refine gOn rfl ?_|refine gOff rfl rfl ?_|refine gTup rfl ?_))
  intro q hq
  obtain rfl : q = false := by rw [hq]; rfl
  (repeat(first|refine pSeq ?_|refine pReg ?_|refine sCons ?_|refine sNil ?_|refine pSkip ?_|refine pRet ?_|refine pCond ?_|refine gNone ?_|refine gOn rfl ?_|refine gOff rfl rfl ?_|refine gTup rfl ?_))
  intro q hq
  obtain rfl : q = false := by rw [hq]; rfl
  (repeat(first|refine pSeq ?_|refine pReg ?_|refine sCons ?_|refine sNil ?_|refine pSkip ?_|refine pRet ?_|refine pCond ?_|refine gNone ?_|refine gOn rfl ?_|refine gOff rfl rfl ?_|refine gTup rfl ?_))
  have hn7 := hn4.al al7 hs6
  refine (read_w (k := 0) (m := 4000) k7 (by omega)).mono fun v s8 q => ?_
  obtain ⟨b8, rfl, own8, new8, c8⟩ := q
  have er8 : ({ D with full := true, sure := D.now ++ [1, 2, 3], now := D.now ++ [1, 2, 3], ws := [] } : Dk).read 0 4000 = D.now ++ [1, 2, 3] := er
  rw [er8] at own8 ⊢
  have k8 := k7.chg c8 (by simp)
  have ev8 := ev7.chg c8 (by simp)
  have al8 := al7'.chg c8 (by simp)
  have hs8 := Nat.le_trans hs7 c8.next
  (repeat(first|refine pSeq ?_|refine pReg ?_|refine sCons ?_|refine sNil ?_|refine pSkip ?_|refine pRet ?_|refine pCond ?_|refine gNone ?_|refine gOn rfl ?_|refine gOff rfl rfl ?_|refine gTup rfl ?_))
  refine (equal_w own8.rdb (rd7.chg c8 (by simp))).mono fun v s8 q => ?_
  obtain ⟨rfl, rfl⟩ := q
  (repeat(first|refine pSeq ?_|refine pReg ?_|refine sCons ?_|refine sNil ?_|refine pSkip ?_|refine pRet ?_|refine pCond ?_|refine gNone ?_|refine gOn rfl ?_|refine gOff rfl rfl ?_|refine gTup rfl ?_))
  intro q hq
  obtain rfl : q = false := by rw [hq]; simp
  (repeat(first|refine pSeq ?_|refine pReg ?_|refine sCons ?_|refine sNil ?_|refine pSkip ?_|refine pRet ?_|refine pCond ?_|refine gNone ?_|refine gOn rfl ?_|refine gOff rfl rfl ?_|refine gTup rfl ?_))
  refine (fill_w k8 false).mono fun v s9 q => ?_
  obtain ⟨rfl, k9, st9⟩ := q
  have ev9 := ev8.chg st9.chg (ev8.off k8)
  have al9 : Al s0.next s9 Wa cw qs := al8.chg st9.chg fun id q => ⟨hn7 id (List.mem_append_left _ q), fun r => row_off (g := g) (A := lgS ps 0) al8.row k8 id r (List.mem_append_left _ q)⟩
  have hs9 := Nat.le_trans hs8 st9.chg.next
  (repeat(first|refine pSeq ?_|refine pReg ?_|refine sCons ?_|refine sNil ?_|refine pSkip ?_|refine pRet ?_|refine pCond ?_|refine gNone ?_|refine gOn rfl ?_|refine gOff rfl rfl ?_|refine gTup rfl ?_))
  refine (recovered_on (ps := ps) (r := [1, 2, 3]) k9 ev9 (by simp) h164 (by show D.now ++ _ = _; rw [hnow]) (short_stop (by simp)) rfl (.inl rfl)).mono fun v s10 q => ?_
  obtain ⟨B10, g10, W10, cw10, qs10, X, rfl, -, o10, hg10, py10, hq10, c10, al10, off10⟩ := q
  have al10' : Al s0.next s10 Wa cw qs := al9.chg c10 fun id q => ⟨hn7 id (List.mem_append_left _ q), fun r => row_off (g := g) (A := lgS ps 0) al9.row k9 id r (List.mem_append_left _ q)⟩
  (repeat(first|refine pSeq ?_|refine pReg ?_|refine sCons ?_|refine sNil ?_|refine pSkip ?_|refine pRet ?_|refine pCond ?_|refine gNone ?_|refine gOn rfl ?_|refine gOff rfl rfl ?_|refine gTup rfl ?_))
  intro q hq
  obtain rfl : q = true := by rw [hq]; rfl
  (repeat(first|refine pSeq ?_|refine pReg ?_|refine sCons ?_|refine sNil ?_|refine pSkip ?_|refine pRet ?_|refine pCond ?_|refine gNone ?_|refine gOn rfl ?_|refine gOff rfl rfl ?_|refine gTup rfl ?_))
  have l10 : qs10.length = ps.length := by rw [← hq10, List.length_map]
  refine (same_w py10.row' al10'.rowAt (by omega)).mono fun v s10 q => ?_
  obtain ⟨hv, rfl⟩ := q
  obtain rfl : v = .bool true := by rw [hv, hq10, hqs]; simp
  (repeat(first|refine pSeq ?_|refine pReg ?_|refine sCons ?_|refine sNil ?_|refine pSkip ?_|refine pRet ?_|refine pCond ?_|refine gNone ?_|refine gOn rfl ?_|refine gOff rfl rfl ?_|refine gTup rfl ?_))
  refine (wakes_w o10.ev).mono fun v s11 q => ?_
  subst q
  (repeat(first|refine pSeq ?_|refine pReg ?_|refine sCons ?_|refine sNil ?_|refine pSkip ?_|refine pRet ?_|refine pCond ?_|refine gNone ?_|refine gOn rfl ?_|refine gOff rfl rfl ?_|refine gTup rfl ?_))
  rfl

theorem On.fill {s : SS} {g d : Nat} {D : Dk} {B : Bs} {ps : PL} {j z : Nat} (h : On s g d D B ps j z) (on : Bool) : CallW pr n_disk_Disk_Fill [.pointer (some ⟨d, 0, none⟩), .bool on] s fun v s' => v = .int .i64 0 ∧ On s' g d { D with full := on } B ps j z ∧ Chg s s' (g :: foot d B) := by
  refine (fill_w h.dk on).mono fun v s' q => ?_
  obtain ⟨rfl, k, st⟩ := q
  exact ⟨rfl, ⟨h.ev.chg st.chg (h.ev.off h.dk), h.la.chg st.chg (h.la.off h.dk), k, h.now, h.le, h.inv⟩, foot_g st.chg⟩

structure Fl where
  i : Nat
  ps : PL
  qs : List Py
  W : Option Addr
  cw : Nat
  D : Dk
  B : Bs
  s : SS

set_option maxHeartbeats 1000000 in
theorem full_w {s : SS} {lb : Option Addr} {rows : List RowT} (hl : RowsS s.next s lb rows) (ev : Ev s) (x : Int) : CallW pr n_law03_LogFull [.slice lb rows.length 0, .int .u32 x] s fun v s' => v = .bool true := by
  refine CallW.pieces (nt := 165) (res := [.tmp 4]) (c := .seq code_K06_P0 (.seq code_K06_P1 (.seq code_K06_P2 (.seq code_K06_P3 (.seq code_K06_P4 (.seq (.seq code_K06_P5 (.block 0 (.loop code_K06_LB))) code_K06_TL)))))) (by kernel_rfl) (by kernel_rfl) (by kernel_rfl) (by kernel_rfl) (by simp) ?_
  refine W.seq (comp_ok good ok_K06_P0 (Box.out (p := wp pr 165 s.next _ _ _ _) ?_))
  (repeat(first|refine pSeq ?_|refine pReg ?_|refine sCons ?_|refine sNil ?_|refine pBlock ?_|refine pSkip ?_|refine pExit ?_|refine pRet ?_|refine pCond ?_|refine gNone ?_|refine gOn rfl ?_|refine gOff rfl rfl ?_|refine gTup rfl ?_))
  refine W.seq (comp_ok good ok_K06_P1 (Box.out (p := wp pr 165 s.next _ _ _ _) ?_))
  (repeat(first|refine pSeq ?_|refine pReg ?_|refine sCons ?_|refine sNil ?_|refine pBlock ?_|refine pSkip ?_|refine pExit ?_|refine pRet ?_|refine pCond ?_|refine gNone ?_|refine gOn rfl ?_|refine gOff rfl rfl ?_|refine gTup rfl ?_))
  refine (new_w (c := 4000) (by omega)).mono fun v s1 q => ?_
  obtain ⟨d, hd, rfl, k1, c1⟩ := q
  have ev1 := ev.chg c1 (by simp)
  have hl1 := hl.chg c1 (by simp)
  (repeat(first|refine pSeq ?_|refine pReg ?_|refine sCons ?_|refine sNil ?_|refine pBlock ?_|refine pSkip ?_|refine pExit ?_|refine pRet ?_|refine pCond ?_|refine gNone ?_|refine gOn rfl ?_|refine gOff rfl rfl ?_|refine gTup rfl ?_))
  refine W.seq (comp_ok good ok_K06_P2 (Box.out (p := wp pr 165 s.next _ _ _ _) ?_))
  (repeat(first|refine pSeq ?_|refine pReg ?_|refine sCons ?_|refine sNil ?_|refine pBlock ?_|refine pSkip ?_|refine pExit ?_|refine pRet ?_|refine pCond ?_|refine gNone ?_|refine gOn rfl ?_|refine gOff rfl rfl ?_|refine gTup rfl ?_))
  intro q hq
  obtain rfl : q = false := by rw [hq]; rfl
  (repeat(first|refine pSeq ?_|refine pReg ?_|refine sCons ?_|refine sNil ?_|refine pBlock ?_|refine pSkip ?_|refine pExit ?_|refine pRet ?_|refine pCond ?_|refine gNone ?_|refine gOn rfl ?_|refine gOff rfl rfl ?_|refine gTup rfl ?_))
  refine W.seq (comp_ok good ok_K06_P3 (Box.out (p := wp pr 165 s.next _ _ _ _) ?_))
  (repeat(first|refine pSeq ?_|refine pReg ?_|refine sCons ?_|refine sNil ?_|refine pBlock ?_|refine pSkip ?_|refine pExit ?_|refine pRet ?_|refine pCond ?_|refine gNone ?_|refine gOn rfl ?_|refine gOff rfl rfl ?_|refine gTup rfl ?_))
  refine (recovered_on (ps := []) (r := []) k1 ev1 (by simp [Dk.made]) (by simp) rfl made_stop rfl (.inr rfl)).mono fun v s2 q => ?_
  obtain ⟨B2, g, W0, cw0, qs0, X, rfl, rfl, o2, hg, py0, hq0, c2, al2, -⟩ := q
  have hn1 : NewD s.next d B0 := fun id q => by
    obtain rfl : id = d := by simpa [whole, foot, bytesOfW, B0, blkOf] using q
    exact hd
  have hl2 := hl1.chg c2 (fun id q => hn1 id (List.mem_append_left _ q))
  have hs1 := c1.next
  have hs2 := Nat.le_trans hs1 c2.next
  have hn2 := hn1.al al2 hs1
  have hg0 := Nat.le_trans hs1 hg
  (repeat(first|refine pSeq ?_|refine pReg ?_|refine sCons ?_|refine sNil ?_|refine pBlock ?_|refine pSkip ?_|refine pExit ?_|refine pRet ?_|refine pCond ?_|refine gNone ?_|refine gOn rfl ?_|refine gOff rfl rfl ?_|refine gTup rfl ?_))
  refine W.seq (comp_ok good ok_K06_P4 (Box.out (p := wp pr 165 s.next _ _ _ _) ?_))
  (repeat(first|refine pSeq ?_|refine pReg ?_|refine sCons ?_|refine sNil ?_|refine pBlock ?_|refine pSkip ?_|refine pExit ?_|refine pRet ?_|refine pCond ?_|refine gNone ?_|refine gOn rfl ?_|refine gOff rfl rfl ?_|refine gTup rfl ?_))
  refine W.seq (W.seq (comp_ok good ok_K06_P5 (Box.out (p := wp pr 165 s.next _ _ _ _) ?_)))
  (repeat(first|refine pSeq ?_|refine pReg ?_|refine sCons ?_|refine sNil ?_|refine pBlock ?_|refine pSkip ?_|refine pExit ?_|refine pRet ?_|refine pCond ?_|refine gNone ?_|refine gOn rfl ?_|refine gOff rfl rfl ?_|refine gTup rfl ?_))
  refine W.block (W.loop (k := s.next) (fun i : Fl => rows.length - i.i) (fun i => i.i ≤ rows.length ∧ i.i ≤ 20 ∧ On i.s g d i.D i.B i.ps 0 0 ∧ NewD s.next d i.B ∧ s.next ≤ i.s.next ∧ RowsS s.next i.s lb rows ∧ Al s.next i.s i.W i.cw i.qs ∧ i.qs.map (·.2.2) = i.ps ∧ i.ps.length ≤ i.i ∧ (∀ p ∈ i.ps, p.length ≤ 60) ∧ i.D.cap = 4000 ∧ i.D.full = false ∧ i.D.ws.length ≤ i.i)
    (fun i => [(1, .int .u32 x), (4, .bool false), (5, .pointer (some ⟨d, 0, none⟩)), (7, .pointer (some ⟨g, 0, none⟩)), (10, .slice i.W i.qs.length i.cw), (34, .slice lb rows.length 0), (35, .int .i64 rows.length), (36, .int .i64 i.i)]) (fun i => i.s) ⟨0, [], [], none, 0, _, B2, s2⟩
    ⟨Nat.zero_le _, Nat.zero_le _, o2, hn2, hs2, hl2, .no _ _, rfl, Nat.le_refl _, by simp, rfl, rfl, Nat.le_refl _⟩ (Wk.same ⟨rfl, rfl, rfl, rfl, rfl, rfl, rfl, rfl, trivial⟩) ?_)
  rintro ⟨i, ps, qs, Wa, cw, D, B, s3⟩ ⟨hi, hi20, o3, hn3, hs3, hl3, al3, hqs, hlen, h60, hcap, hfull, hws⟩
  dsimp only at hi hi20 o3 hn3 hs3 hl3 al3 hqs hlen h60 hcap hfull hws ⊢
  refine comp_ok good ok_K06_LB (Box.out (p := wp pr 165 s.next _ _ _ _) ?_)
  (repeat(first|refine pSeq ?_|refine pReg ?_|refine sCons ?_|refine sNil ?_|refine pBlock ?_|refine pSkip ?_|refine pExit ?_|refine pRet ?_|refine pCond ?_|refine gNone ?_|refine gOn rfl ?_|refine gOff rfl rfl ?_|refine gTup rfl ?_))
  intro q hq
  by_cases hlt : i < rows.length
  · obtain rfl : q = true := by rw [hq]; simp [hlt]
    obtain ⟨r, hr⟩ : ∃ r, rows[i]? = some r := ⟨_, List.getElem?_eq_getElem hlt⟩
    obtain ⟨b, rfl, cs, t, g', q', p1, p2⟩ := hl3.at hr
    obtain ⟨rs, rlt⟩ := hl3.each r (List.mem_of_getElem? hr)
    (repeat(first|refine pSeq ?_|refine pReg ?_|refine sCons ?_|refine sNil ?_|refine pBlock ?_|refine pSkip ?_|refine pExit ?_|refine pRet ?_|refine pCond ?_|refine gNone ?_|refine gOn rfl ?_|refine gOff rfl rfl ?_|refine gTup rfl ?_))
    refine ⟨by omega, ?_⟩
    intro m hm o ho
    obtain rfl : m = i := by omega
    (repeat(first|refine pSeq ?_|refine pReg ?_|refine sCons ?_|refine sNil ?_|refine pBlock ?_|refine pSkip ?_|refine pExit ?_|refine pRet ?_|refine pCond ?_|refine gNone ?_|refine gOn rfl ?_|refine gOff rfl rfl ?_|refine gTup rfl ?_))
    refine ld1_is rfl p1 (by rw [ho, Nat.mul_one, Nat.zero_add]; exact p2) ?_
    (repeat(first|refine pSeq ?_|refine pReg ?_|refine sCons ?_|refine sNil ?_|refine pBlock ?_|refine pSkip ?_|refine pExit ?_|refine pRet ?_|refine pCond ?_|refine gNone ?_|refine gOn rfl ?_|refine gOff rfl rfl ?_|refine gTup rfl ?_))
    intro q hq
    by_cases he : m = 20
    · obtain rfl : q = true := by rw [hq]; simp [he]
      (repeat(first|refine pSeq ?_|refine pReg ?_|refine sCons ?_|refine sNil ?_|refine pBlock ?_|refine pSkip ?_|refine pExit ?_|refine pRet ?_|refine pCond ?_|refine gNone ?_|refine gOn rfl ?_|refine gOff rfl rfl ?_|refine gTup rfl ?_))
      show W pr 165 s.next code_K06_TL _ s3 (runQ pr [.tmp 4] fun v s' => v = .bool true)
      exact W.weak (T' := [(4, .bool false), (5, .pointer (some ⟨d, 0, none⟩)), (7, .pointer (some ⟨g, 0, none⟩)), (10, .slice Wa qs.length cw)]) (s' := s3) (Wk.same ⟨rfl, rfl, rfl, rfl, trivial⟩) (full_tail (s0 := s) o3 hg0 hn3 hs3 al3 hqs (by omega) h60 hcap hfull (by omega))
    obtain rfl : q = false := by rw [hq]; simp; omega
    (repeat(first|refine pSeq ?_|refine pReg ?_|refine sCons ?_|refine sNil ?_|refine pBlock ?_|refine pSkip ?_|refine pExit ?_|refine pRet ?_|refine pCond ?_|refine gNone ?_|refine gOn rfl ?_|refine gOff rfl rfl ?_|refine gTup rfl ?_))
    intro z hz
    (repeat(first|refine pSeq ?_|refine pReg ?_|refine sCons ?_|refine sNil ?_|refine pBlock ?_|refine pSkip ?_|refine pExit ?_|refine pRet ?_|refine pCond ?_|refine gNone ?_|refine gOn rfl ?_|refine gOff rfl rfl ?_|refine gTup rfl ?_))
    have hrn : r.2.1 = r.2.2.length := rs.1.1
    refine slL_same 0 (min r.2.1 60) rfl rfl rfl rs rfl (show z = _ by rw [hz]; omega) (by omega) fun b1 cc hsl hbl => ?_
    rw [List.drop_zero] at hsl
    have hp60 : min r.2.1 60 ≤ 60 := Nat.min_le_right _ _
    have hpl : (r.2.2.take (min r.2.1 60)).length = min r.2.1 60 := by rw [List.length_take]; omega
    generalize r.2.2.take (min r.2.1 60) = p at hsl hpl
    generalize min r.2.1 60 = pn at hsl hpl hp60 ⊢
    subst hpl
    have blt : ∀ id ∈ blkOf b1, id < s.next := fun id q => rlt id (hbl id q)
    have boff : ∀ (B : Bs), NewD s.next d B → ∀ id ∈ blkOf b1, id ∉ foot d B := fun B h id q r => by
      have := h id (List.mem_append_left _ r); have := blt id q; omega
    have bZ : ∀ (B : Bs), NewD s.next d B → ∀ id ∈ blkOf b1, id ∉ g :: foot d B := fun B h id q r => by
      rcases List.mem_cons.1 r with r | r
      · have := blt id q; omega
      · exact boff B h id q r
    have hsz := ch_size (c := 60) ps 0#32 1#32 h60
    (repeat(first|refine pSeq ?_|refine pReg ?_|refine sCons ?_|refine sNil ?_|refine pBlock ?_|refine pSkip ?_|refine pExit ?_|refine pRet ?_|refine pCond ?_|refine gNone ?_|refine gOn rfl ?_|refine gOff rfl rfl ?_|refine gTup rfl ?_))
    refine ⟨by omega, ?_⟩
    intro z1 hz1
    (repeat(first|refine pSeq ?_|refine pReg ?_|refine sCons ?_|refine sNil ?_|refine pBlock ?_|refine pSkip ?_|refine pExit ?_|refine pRet ?_|refine pCond ?_|refine gNone ?_|refine gOn rfl ?_|refine gOff rfl rfl ?_|refine gTup rfl ?_))
    intro z2 hz2
    (repeat(first|refine pSeq ?_|refine pReg ?_|refine sCons ?_|refine sNil ?_|refine pBlock ?_|refine pSkip ?_|refine pExit ?_|refine pRet ?_|refine pCond ?_|refine gNone ?_|refine gOn rfl ?_|refine gOff rfl rfl ?_|refine gTup rfl ?_))
    intro q hq
    (repeat(first|refine pSeq ?_|refine pReg ?_|refine sCons ?_|refine sNil ?_|refine pBlock ?_|refine pSkip ?_|refine pExit ?_|refine pRet ?_|refine pCond ?_|refine gNone ?_|refine gOn rfl ?_|refine gOff rfl rfl ?_|refine gTup rfl ?_))
    refine (read_w (k := 0) (m := 4000) o3.dk (by omega)).mono fun v s4 q => ?_
    obtain ⟨b4, rfl, own4, new4, c4⟩ := q
    have hdl := o3.dk.lnow
    have er4 : D.read 0 4000 = D.now := read_to (m := 4000) (by omega)
    rw [er4] at own4 ⊢
    have o4 := o3.same c4
    (repeat(first|refine pSeq ?_|refine pReg ?_|refine sCons ?_|refine sNil ?_|refine pBlock ?_|refine pSkip ?_|refine pExit ?_|refine pRet ?_|refine pCond ?_|refine gNone ?_|refine gOn rfl ?_|refine gOff rfl rfl ?_|refine gTup rfl ?_))
    refine (next_w o4.la).mono fun v s4 q => ?_
    obtain ⟨rfl, rfl⟩ := q
    (repeat(first|refine pSeq ?_|refine pReg ?_|refine sCons ?_|refine sNil ?_|refine pBlock ?_|refine pSkip ?_|refine pExit ?_|refine pRet ?_|refine pCond ?_|refine gNone ?_|refine gOn rfl ?_|refine gOff rfl rfl ?_|refine gTup rfl ?_))
    refine (waits_w o4.dk).mono fun v s4 q => ?_
    obtain ⟨rfl, rfl⟩ := q
    (repeat(first|refine pSeq ?_|refine pReg ?_|refine sCons ?_|refine sNil ?_|refine pBlock ?_|refine pSkip ?_|refine pExit ?_|refine pRet ?_|refine pCond ?_|refine gNone ?_|refine gOn rfl ?_|refine gOff rfl rfl ?_|refine gTup rfl ?_))
    have hl4 := hl3.chg c4 (by simp)
    have al4 := al3.chg c4 (by simp)
    have hs4 := Nat.le_trans hs3 c4.next
    have rp4 := hsl.1.chg c4 (by simp)
    refine (o4.fill q).mono fun v s5 q => ?_
    obtain ⟨rfl, o5, c5⟩ := q
    have hl5 := hl4.on c5 hg0 hn3
    have al5 := al4.on o4 c5 hg0 hn3
    have hs5 := Nat.le_trans hs4 c5.next
    have rp5 := rp4.chg c5 (bZ B hn3)
    (repeat(first|refine pSeq ?_|refine pReg ?_|refine sCons ?_|refine sNil ?_|refine pBlock ?_|refine pSkip ?_|refine pExit ?_|refine pRet ?_|refine pCond ?_|refine gNone ?_|refine gOn rfl ?_|refine gOff rfl rfl ?_|refine gTup rfl ?_))
    cases q with
    | true =>
      refine (o5.refused rp5 (by omega) (.inl rfl) (by show D.ws.length < _; omega) (boff B hn3)).mono fun v s6 q => ?_
      obtain ⟨rfl, B6, o6, c6, al6⟩ := q
      have hn6 := hn3.al al6 hs5
      (repeat(first|refine pSeq ?_|refine pReg ?_|refine sCons ?_|refine sNil ?_|refine pBlock ?_|refine pSkip ?_|refine pExit ?_|refine pRet ?_|refine pCond ?_|refine gNone ?_|refine gOn rfl ?_|refine gOff rfl rfl ?_|refine gTup rfl ?_))
      refine (o6.fill false).mono fun v s7 q => ?_
      obtain ⟨rfl, o7, c7⟩ := q
      (repeat(first|refine pSeq ?_|refine pReg ?_|refine sCons ?_|refine sNil ?_|refine pBlock ?_|refine pSkip ?_|refine pExit ?_|refine pRet ?_|refine pCond ?_|refine gNone ?_|refine gOn rfl ?_|refine gOff rfl rfl ?_|refine gTup rfl ?_))
      have hl6 := hl5.on c6 hg0 hn3
      have al6' := al5.on o5 c6 hg0 hn3
      have hs6 := Nat.le_trans hs5 c6.next
      have hl7 := hl6.on c7 hg0 hn6
      have al7' := al6'.on o6 c7 hg0 hn6
      have hs7 := Nat.le_trans hs6 c7.next
      have lt4 := own4.lt
      have hgl : g < s3.next := o3.la.lt
      have o34 : ∀ id ∈ blkOf b4, id ∉ g :: foot d B := fun id q r => by
        have := new4 id q
        rcases List.mem_cons.1 r with r | r
        · omega
        · have := o3.dk.blt id (List.mem_append_left _ r); omega
      have o64 : ∀ id ∈ blkOf b4, id ∉ g :: foot d B6 := fun id q r => by
        have := new4 id q
        have := lt4 id q
        have := c5.next
        rcases List.mem_cons.1 r with r | r
        · omega
        · rcases al6 id (List.mem_append_left _ r) with r | r
          · have := o3.dk.blt id r; omega
          · omega
      have rd7 := ((own4.rdb.chg c5 o34).chg c6 o34).chg c7 o64
      intro q hq
      obtain rfl : q = true := by rw [hq]; rfl
      (repeat(first|refine pSeq ?_|refine pReg ?_|refine sCons ?_|refine sNil ?_|refine pBlock ?_|refine pSkip ?_|refine pExit ?_|refine pRet ?_|refine pCond ?_|refine gNone ?_|refine gOn rfl ?_|refine gOff rfl rfl ?_|refine gTup rfl ?_))
      intro q hq
      obtain rfl : q = false := by rw [hq]; rfl
      (repeat(first|refine pSeq ?_|refine pReg ?_|refine sCons ?_|refine sNil ?_|refine pBlock ?_|refine pSkip ?_|refine pExit ?_|refine pRet ?_|refine pCond ?_|refine gNone ?_|refine gOn rfl ?_|refine gOff rfl rfl ?_|refine gTup rfl ?_))
      intro q hq
      obtain rfl : q = false := by rw [hq]; rfl
      (repeat(first|refine pSeq ?_|refine pReg ?_|refine sCons ?_|refine sNil ?_|refine pBlock ?_|refine pSkip ?_|refine pExit ?_|refine pRet ?_|refine pCond ?_|refine gNone ?_|refine gOn rfl ?_|refine gOff rfl rfl ?_|refine gTup rfl ?_))
      intro q hq
      obtain rfl : q = false := by rw [hq]; rfl
      (repeat(first|refine pSeq ?_|refine pReg ?_|refine sCons ?_|refine sNil ?_|refine pBlock ?_|refine pSkip ?_|refine pExit ?_|refine pRet ?_|refine pCond ?_|refine gNone ?_|refine gOn rfl ?_|refine gOff rfl rfl ?_|refine gTup rfl ?_))
      intro q hq
      obtain rfl : q = false := by rw [hq]; rfl
      (repeat(first|refine pSeq ?_|refine pReg ?_|refine sCons ?_|refine sNil ?_|refine pBlock ?_|refine pSkip ?_|refine pExit ?_|refine pRet ?_|refine pCond ?_|refine gNone ?_|refine gOn rfl ?_|refine gOff rfl rfl ?_|refine gTup rfl ?_))
      refine (next_w o7.la).mono fun v s7 q => ?_
      obtain ⟨rfl, rfl⟩ := q
      (repeat(first|refine pSeq ?_|refine pReg ?_|refine sCons ?_|refine sNil ?_|refine pBlock ?_|refine pSkip ?_|refine pExit ?_|refine pRet ?_|refine pCond ?_|refine gNone ?_|refine gOn rfl ?_|refine gOff rfl rfl ?_|refine gTup rfl ?_))
      intro q hq
      obtain rfl : q = false := by rw [hq]; simp
      (repeat(first|refine pSeq ?_|refine pReg ?_|refine sCons ?_|refine sNil ?_|refine pBlock ?_|refine pSkip ?_|refine pExit ?_|refine pRet ?_|refine pCond ?_|refine gNone ?_|refine gOn rfl ?_|refine gOff rfl rfl ?_|refine gTup rfl ?_))
      refine (waits_w o7.dk).mono fun v s7 q => ?_
      obtain ⟨rfl, rfl⟩ := q
      (repeat(first|refine pSeq ?_|refine pReg ?_|refine sCons ?_|refine sNil ?_|refine pBlock ?_|refine pSkip ?_|refine pExit ?_|refine pRet ?_|refine pCond ?_|refine gNone ?_|refine gOn rfl ?_|refine gOff rfl rfl ?_|refine gTup rfl ?_))
      intro q hq
      obtain rfl : q = false := by rw [hq]; simp
      (repeat(first|refine pSeq ?_|refine pReg ?_|refine sCons ?_|refine sNil ?_|refine pBlock ?_|refine pSkip ?_|refine pExit ?_|refine pRet ?_|refine pCond ?_|refine gNone ?_|refine gOn rfl ?_|refine gOff rfl rfl ?_|refine gTup rfl ?_))
      refine (read_w (k := 0) (m := 4000) o7.dk (by omega)).mono fun v s8 q => ?_
      obtain ⟨b8, rfl, own8, new8, c8⟩ := q
      have er8 : ({ D with full := false } : Dk).read 0 4000 = D.now := er4
      rw [er8] at own8 ⊢
      have o8 := o7.same c8
      have al8 := al7'.chg c8 (by simp)
      have hl8 := hl7.chg c8 (by simp)
      have hs8 := Nat.le_trans hs7 c8.next
      (repeat(first|refine pSeq ?_|refine pReg ?_|refine sCons ?_|refine sNil ?_|refine pBlock ?_|refine pSkip ?_|refine pExit ?_|refine pRet ?_|refine pCond ?_|refine gNone ?_|refine gOn rfl ?_|refine gOff rfl rfl ?_|refine gTup rfl ?_))
      refine (equal_w own8.rdb (rd7.chg c8 (by simp))).mono fun v s8 q => ?_
      obtain ⟨rfl, rfl⟩ := q
      (repeat(first|refine pSeq ?_|refine pReg ?_|refine sCons ?_|refine sNil ?_|refine pBlock ?_|refine pSkip ?_|refine pExit ?_|refine pRet ?_|refine pCond ?_|refine gNone ?_|refine gOn rfl ?_|refine gOff rfl rfl ?_|refine gTup rfl ?_))
      intro q hq
      obtain rfl : q = false := by rw [hq]; simp
      (repeat(first|refine pSeq ?_|refine pReg ?_|refine sCons ?_|refine sNil ?_|refine pBlock ?_|refine pSkip ?_|refine pExit ?_|refine pRet ?_|refine pCond ?_|refine gNone ?_|refine gOn rfl ?_|refine gOff rfl rfl ?_|refine gTup rfl ?_))
      intro z9 hz9
      rw [i64_id (by omega)] at hz9
      subst hz9
      (repeat(first|refine pSeq ?_|refine pReg ?_|refine sCons ?_|refine sNil ?_|refine pBlock ?_|refine pSkip ?_|refine pExit ?_|refine pRet ?_|refine pCond ?_|refine gNone ?_|refine gOn rfl ?_|refine gOff rfl rfl ?_|refine gTup rfl ?_))
      refine ⟨⟨m + 1, ps, qs, Wa, cw, { D with full := false }, B6, s8⟩, ⟨by dsimp only; omega, by dsimp only; omega, o8, hn6, hs8, hl8, al8, hqs, by dsimp only; omega, h60, hcap, rfl, by dsimp only; omega⟩, by dsimp only; omega, Wk.same ⟨rfl, rfl, rfl, rfl, rfl, rfl, rfl, rfl, trivial⟩⟩
    | false =>
      refine (o5.append rp5 (by omega) rfl (by show _ ≤ D.cap; omega) (by show D.ws.length < _; omega) (boff B hn3)).mono fun v s6 q => ?_
      obtain ⟨rfl, D6, B6, z6, o6, e1, e2, e3, e4, e5, c6, al6⟩ := q
      have hn6 := hn3.al al6 hs5
      obtain rfl : z6 = 0 := by omega
      (repeat(first|refine pSeq ?_|refine pReg ?_|refine sCons ?_|refine sNil ?_|refine pBlock ?_|refine pSkip ?_|refine pExit ?_|refine pRet ?_|refine pCond ?_|refine gNone ?_|refine gOn rfl ?_|refine gOff rfl rfl ?_|refine gTup rfl ?_))
      refine (o6.fill false).mono fun v s7 q => ?_
      obtain ⟨rfl, o7, c7⟩ := q
      (repeat(first|refine pSeq ?_|refine pReg ?_|refine sCons ?_|refine sNil ?_|refine pBlock ?_|refine pSkip ?_|refine pExit ?_|refine pRet ?_|refine pCond ?_|refine gNone ?_|refine gOn rfl ?_|refine gOff rfl rfl ?_|refine gTup rfl ?_))
      have hl6 := hl5.on c6 hg0 hn3
      have al6' := al5.on o5 c6 hg0 hn3
      have hs6 := Nat.le_trans hs5 c6.next
      have hl7 := hl6.on c7 hg0 hn6
      have al7' := al6'.on o6 c7 hg0 hn6
      have hs7 := Nat.le_trans hs6 c7.next
      have rp7 := (rp5.chg c6 (bZ B hn3)).chg c7 (bZ B6 hn6)
      intro q hq
      obtain rfl : q = false := by rw [hq]; rfl
      (repeat(first|refine pSeq ?_|refine pReg ?_|refine sCons ?_|refine sNil ?_|refine pBlock ?_|refine pSkip ?_|refine pExit ?_|refine pRet ?_|refine pCond ?_|refine gNone ?_|refine gOn rfl ?_|refine gOff rfl rfl ?_|refine gTup rfl ?_))
      intro q hq
      obtain rfl : q = false := by rw [hq]; rfl
      (repeat(first|refine pSeq ?_|refine pReg ?_|refine sCons ?_|refine sNil ?_|refine pBlock ?_|refine pSkip ?_|refine pExit ?_|refine pRet ?_|refine pCond ?_|refine gNone ?_|refine gOn rfl ?_|refine gOff rfl rfl ?_|refine gTup rfl ?_))
      intro q hq
      obtain rfl : q = true := by rw [hq]; rfl
      (repeat(first|refine pSeq ?_|refine pReg ?_|refine sCons ?_|refine sNil ?_|refine pBlock ?_|refine pSkip ?_|refine pExit ?_|refine pRet ?_|refine pCond ?_|refine gNone ?_|refine gOn rfl ?_|refine gOff rfl rfl ?_|refine gTup rfl ?_))
      intro q hq
      obtain rfl : q = false := by rw [hq]; rfl
      (repeat(first|refine pSeq ?_|refine pReg ?_|refine sCons ?_|refine sNil ?_|refine pBlock ?_|refine pSkip ?_|refine pExit ?_|refine pRet ?_|refine pCond ?_|refine gNone ?_|refine gOn rfl ?_|refine gOff rfl rfl ?_|refine gTup rfl ?_))
      intro q hq
      obtain rfl : q = true := by rw [hq]; rfl
      (repeat(first|refine pSeq ?_|refine pReg ?_|refine sCons ?_|refine sNil ?_|refine pBlock ?_|refine pSkip ?_|refine pExit ?_|refine pRet ?_|refine pCond ?_|refine gNone ?_|refine gOn rfl ?_|refine gOff rfl rfl ?_|refine gTup rfl ?_))
      refine Al.snoc (q := (b1, cc, p)) al7' ⟨rp7, blt⟩ hs7 (by have := congrArg List.length hqs; simp at this; omega) rfl rfl fun s8 al8 c8 => ?_
      have o8 := o7.row al7'.row c8
      have hl8 := hl7.chg c8 (fun id q => al7'.new id q)
      have hs8 := Nat.le_trans hs7 c8.next
      (repeat(first|refine pSeq ?_|refine pReg ?_|refine sCons ?_|refine sNil ?_|refine pBlock ?_|refine pSkip ?_|refine pExit ?_|refine pRet ?_|refine pCond ?_|refine gNone ?_|refine gOn rfl ?_|refine gOff rfl rfl ?_|refine gTup rfl ?_))
      intro z9 hz9
      rw [i64_id (by omega)] at hz9
      subst hz9
      have lws : D6.ws.length = D.ws.length + 1 := by rw [e4]; simp
      (repeat(first|refine pSeq ?_|refine pReg ?_|refine sCons ?_|refine sNil ?_|refine pBlock ?_|refine pSkip ?_|refine pExit ?_|refine pRet ?_|refine pCond ?_|refine gNone ?_|refine gOn rfl ?_|refine gOff rfl rfl ?_|refine gTup rfl ?_))
      refine ⟨⟨m + 1, ps ++ [p], qs ++ [(b1, cc, p)], some ⟨s7.next + 1, 0, none⟩, 0, { D6 with full := false }, B6, s8⟩, ⟨by dsimp only; omega, by dsimp only; omega, o8, hn6, hs8, hl8, al8, by dsimp only; rw [List.map_append, hqs]; rfl, by dsimp only; simp; omega, ?_, e1.trans hcap, rfl, by dsimp only; omega⟩, by dsimp only; omega, Wk.same ⟨rfl, rfl, rfl, rfl, by dsimp only; rw [List.length_append]; rfl, rfl, rfl, rfl, trivial⟩⟩
      intro q hq
      rcases List.mem_append.1 hq with r | r
      · exact h60 q r
      · obtain rfl : q = p := by simpa using r
        exact hp60
  · obtain rfl : q = false := by rw [hq]; simp; omega
    (repeat(first|refine pSeq ?_|refine pReg ?_|refine sCons ?_|refine sNil ?_|refine pBlock ?_|refine pSkip ?_|refine pExit ?_|refine pRet ?_|refine pCond ?_|refine gNone ?_|refine gOn rfl ?_|refine gOff rfl rfl ?_|refine gTup rfl ?_))
    show W pr 165 s.next code_K06_TL _ s3 (runQ pr [.tmp 4] fun v s' => v = .bool true)
    exact W.weak (T' := [(4, .bool false), (5, .pointer (some ⟨d, 0, none⟩)), (7, .pointer (some ⟨g, 0, none⟩)), (10, .slice Wa qs.length cw)]) (s' := s3) (Wk.same ⟨rfl, rfl, rfl, rfl, trivial⟩) (full_tail (s0 := s) o3 hg0 hn3 hs3 al3 hqs (by omega) h60 hcap hfull (by omega))
end Go.Vf.S
