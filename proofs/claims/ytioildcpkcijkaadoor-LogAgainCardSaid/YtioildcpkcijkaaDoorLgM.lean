import Derived.Test.YtioildcpkcijkaaDoorLgL
import Derived.Test.YtioildcpkcijkaaDoorDkK
import Derived.Test.YtioildcpkcijkaaDoorFnK05
/- What the law LogAgain says, from any state. -/
namespace Go.Vf.S
open Go Go.Vf Go.Vf.Fr
attribute [local irreducible] wSeq wRow wp wG
set_option linter.unusedVariables false
set_option linter.unusedSimpArgs false
set_option maxRecDepth 10000

/-- The front of a row. -/
theorem slL_row {T : TL} {s : SS} {K : RR → Prop} {x hi : Operand} {W : Option Addr} {cw n m : Nat} {cs : List Value} {k : Int} (h : OwnR tSl s W cw n cs) (hx : opd T s.gl x = some (.slice W n cw)) (hh : opd T s.gl hi = some (.int .i64 k)) (hk : k = (m : Int)) (hm : m ≤ n) (hK : ∀ c, K (.val (.slice W m c))) : wN pr (.slL 1 x none (some hi)) T s K := by
  subst hk
  cases W with
  | none =>
    obtain ⟨-, rfl, rfl⟩ := h
    obtain rfl : m = 0 := by omega
    simp only [wN, hx, opdO, hh, wBnd]
    refine ⟨⟨by omega, by omega⟩, fun m' hm' => ?_⟩
    obtain rfl : m' = 0 := by omega
    exact hK _
  | some a =>
    obtain ⟨b, off, sp⟩ := a
    obtain ⟨rfl, rfl, h3, g, h4, h5⟩ := h
    simp only [wN, hx, opdO, hh, h4]
    cases g with
    | true =>
      refine ⟨by kernel_rfl, ?_⟩
      simp only [wBnd]
      refine ⟨⟨by omega, by omega⟩, fun m' hm' o n' ho hn' => ?_⟩
      obtain rfl : m' = m := by omega
      subst ho; subst hn'
      simpa using hK 0
    | false =>
      have hc := h5 rfl
      simp only [wBnd]
      refine ⟨⟨by omega, by omega⟩, fun m' hm' o n' dd ho hn' hd => ?_⟩
      obtain rfl : m' = m := by omega
      subst hn'; subst hd
      have : o = 0 := by rw [ho]; split <;> omega
      subst this
      simpa using hK _

theorem RowAt.front {s : SS} {W : Option Addr} {qs : List Py} (h : RowAt s W qs) (m : Nat) (hm : m ≤ qs.length) : RowAt s W (qs.take m) := by
  refine ⟨?_, fun q hq => h.2 q (List.mem_of_mem_take hq)⟩
  have := h.1
  cases W with
  | none => simp only at this ⊢; rw [this, List.take_nil]
  | some a =>
    obtain ⟨b, off, sp⟩ := a
    obtain ⟨h1, h2, h3, cs, t, g, r, h4, h5⟩ := this
    refine ⟨h1, h2, h3, cs, t, g, r, h4, ?_⟩
    have e : (qs.take m).length = m := by rw [List.length_take]; omega
    rw [e]
    have := congrArg (List.take m) h5
    rw [List.take_take, Nat.min_eq_left hm] at this
    rw [this]
    simp [pyCells, List.map_take]

theorem On.crash {s : SS} {g d : Nat} {D : Dk} {B : Bs} {ps : PL} {j z : Nat} {kb : Option Addr} {kn kc : Nat} {zs : List Int} (h : On s g d D B ps j z) (hk : RdI s kb kn zs) : CallW pr n_disk_Disk_Crash [.pointer (some ⟨d, 0, none⟩), .slice kb kn kc] s fun v s' => v = .int .i64 0 ∧ ∃ B', DAt s' d (D.crashed zs) B' ∧ Ev s' ∧ Chg s s' (g :: foot d B) ∧ (∀ id ∈ whole d B', id ∈ whole d B ∨ s.next ≤ id) := by
  refine (crash_w h.dk h.ev.fine hk).mono fun v s' q => ?_
  obtain ⟨rfl, B', k, st, -⟩ := q
  exact ⟨rfl, B', k, h.ev.chg st.chg (h.ev.off h.dk), foot_g st.chg, st.al⟩

/-- What a crash leaves of the last frame: all of it, or what is none. -/
theorem torn {ps : PL} {p : List UInt8} {k : Nat} (hp : p.length ≤ 16384) (hle : ∀ q ∈ ps, q.length ≤ 16384) : ∃ ps' r, ch 0#32 1#32 ps ++ ((lgS ps ps.length).form p).take k = ch 0#32 1#32 ps' ++ r ∧ (ps' = ps ∨ ps' = ps ++ [p]) ∧ (∀ q ∈ ps', q.length ≤ 16384) ∧ openE (chS 0#32 1#32 ps') (1#32 + BitVec.ofNat 32 ps'.length) r ≠ 0 := by
  by_cases hk : k < 10 + p.length
  · refine ⟨ps, _, rfl, .inl rfl, hle, ?_⟩
    have e : (lgS ps ps.length).form p = sealS (chS 0#32 1#32 ps) (1#32 + BitVec.ofNat 32 ps.length) p.length p := by unfold Lg.form lgS; rw [BitVec.add_comm 1#32]
    rw [e, open_cut _ _ rfl hp hk]
    omega
  · refine ⟨ps ++ [p], [], ?_, .inr rfl, fun q hq => ?_, short_stop (by simp)⟩
    · rw [List.take_of_length_le (by rw [form_len]; omega), ← lgS_form, List.append_nil]
    · rcases List.mem_append.1 hq with r | r
      · exact hle q r
      · obtain rfl : q = p := by simpa using r
        exact hp

theorem read_from {D : Dk} {a b : List UInt8} (h : D.now = a ++ b) (m : Nat) (hm : b.length ≤ m) : D.read a.length m = b := by
  unfold Dk.read
  rw [if_neg (by rw [h]; simp; omega), h]
  show ((a ++ b).drop a.length).take m = b
  rw [List.drop_left' rfl, List.take_of_length_le hm]

set_option maxHeartbeats 1000000 in
theorem again_tail {s0 s : SS} {k g d cw : Nat} {Wa : Option Addr} {qs : List Py} {D : Dk} {B : Bs} {ps : PL} {mb : Option Addr} {ml : List UInt8} {keep : Int} (o : On s g d D B ps 0 0) (hg : s0.next ≤ g) (hn : NewD s0.next d B) (hs : s0.next ≤ s.next) (al : Al s0.next s Wa cw qs) (hqs : qs.map (·.2.2) = ps) (hl : ps.length ≤ 20) (h60 : ∀ p ∈ ps, p.length ≤ 60)
    (hc : D.cap = 4000) (hf : D.full = false) (hw : D.ws.length ≤ 20) (hm : Slc pr s mb ml.length 0 ml) (hmb : ∀ id ∈ blkOf mb, id < s0.next) :
    W pr 175 k code_K05_TL [(1, .int .i64 keep), (2, .slice mb ml.length 0), (6, .bool false), (7, .pointer (some ⟨d, 0, none⟩)), (9, .pointer (some ⟨g, 0, none⟩)), (12, .slice Wa qs.length cw)] s (runQ pr [.tmp 6] fun v s' => v = .bool true) := by
  refine comp_ok good ok_K05_TL (Box.out (p := wp pr 175 k _ _ _ _) ?_)
  have hsz := ch_size (c := 60) ps 0#32 1#32 h60
  have lqs : qs.length = ps.length := by rw [← hqs, List.length_map]
  have h164 : ∀ p ∈ ps, p.length ≤ 16384 := fun p hp => by have := h60 p hp; omega
  (repeat(first|refine pSeq ?_|refine pReg ?_|refine sCons ?_|refine sNil ?_|refine pBlock ?_|refine pSkip ?_|refine pExit ?_|refine pRet ?_|refine pCond ?_|refine gNone ?_|refine gOn rfl ?_|refine gOff rfl rfl ?_|refine gTup rfl ?_))
  refine (copy_w o.dk o.ev.fine).mono fun v s1 q => ?_
  obtain ⟨d2, B2, rfl, k2, c1, new2⟩ := q
  have o1 := o.same c1
  have al1 := al.chg c1 (by simp)
  have hm1 := hm.chg c1 (by simp)
  have hs1 := Nat.le_trans hs c1.next
  (repeat(first|refine pSeq ?_|refine pReg ?_|refine sCons ?_|refine sNil ?_|refine pBlock ?_|refine pSkip ?_|refine pExit ?_|refine pRet ?_|refine pCond ?_|refine gNone ?_|refine gOn rfl ?_|refine gOff rfl rfl ?_|refine gTup rfl ?_))
  refine (recovered_on (ps := ps) (r := []) k2 o1.ev (by omega) h164 (by rw [o.now]; simp) (short_stop (by simp)) o.inv (.inl hf)).mono fun v s2 q => ?_
  obtain ⟨B2', g2, W2, cw2, qs2, X2, rfl, -, o2', hg2, py2, hq2, c2, -, off2⟩ := q
  have f2 : ∀ id ∈ foot d2 B2, s.next ≤ id := fun id q => new2 id (List.mem_append_left _ q)
  have o2 : On s2 g d D B ps 0 0 := o1.chg c2 (o1.ev.off k2) (fun q => by have := f2 _ q; have := o.la.lt; omega) (fun id q r => by have := f2 _ r; have := o.dk.blt id q; omega)
  have al2 : Al s0.next s2 Wa cw qs := al1.chg c2 fun id q => ⟨by have := f2 id q; omega, fun r => by have := f2 id q; have := al.row.lt id r; omega⟩
  have hm2 := hm1.chg c2 (fun id q r => by have := hmb id q; have := f2 id r; omega)
  have hs2 := Nat.le_trans hs1 c2.next
  have l2 : qs2.length = ps.length := by rw [← hq2, List.length_map]
  (repeat(first|refine pSeq ?_|refine pReg ?_|refine sCons ?_|refine sNil ?_|refine pBlock ?_|refine pSkip ?_|refine pExit ?_|refine pRet ?_|refine pCond ?_|refine gNone ?_|refine gOn rfl ?_|refine gOff rfl rfl ?_|refine gTup rfl ?_))
  intro q hq
  obtain rfl : q = false := by rw [hq]; rfl
  (repeat(first|refine pSeq ?_|refine pReg ?_|refine sCons ?_|refine sNil ?_|refine pBlock ?_|refine pSkip ?_|refine pExit ?_|refine pRet ?_|refine pCond ?_|refine gNone ?_|refine gOn rfl ?_|refine gOff rfl rfl ?_|refine gTup rfl ?_))
  refine (same_w py2.row' al2.rowAt (by omega)).mono fun v s2 q => ?_
  obtain ⟨hv, rfl⟩ := q
  obtain rfl : v = .bool true := by rw [hv, hq2, hqs]; simp
  (repeat(first|refine pSeq ?_|refine pReg ?_|refine sCons ?_|refine sNil ?_|refine pBlock ?_|refine pSkip ?_|refine pExit ?_|refine pRet ?_|refine pCond ?_|refine gNone ?_|refine gOn rfl ?_|refine gOff rfl rfl ?_|refine gTup rfl ?_))
  intro q hq
  obtain rfl : q = false := by rw [hq]; rfl
  (repeat(first|refine pSeq ?_|refine pReg ?_|refine sCons ?_|refine sNil ?_|refine pBlock ?_|refine pSkip ?_|refine pExit ?_|refine pRet ?_|refine pCond ?_|refine gNone ?_|refine gOn rfl ?_|refine gOff rfl rfl ?_|refine gTup rfl ?_))
  refine (size_w o2'.la).mono fun v s2 q => ?_
  obtain ⟨rfl, rfl⟩ := q
  (repeat(first|refine pSeq ?_|refine pReg ?_|refine sCons ?_|refine sNil ?_|refine pBlock ?_|refine pSkip ?_|refine pExit ?_|refine pRet ?_|refine pCond ?_|refine gNone ?_|refine gOn rfl ?_|refine gOff rfl rfl ?_|refine gTup rfl ?_))
  refine (size_w o2.la).mono fun v s2 q => ?_
  obtain ⟨rfl, rfl⟩ := q
  (repeat(first|refine pSeq ?_|refine pReg ?_|refine sCons ?_|refine sNil ?_|refine pBlock ?_|refine pSkip ?_|refine pExit ?_|refine pRet ?_|refine pCond ?_|refine gNone ?_|refine gOn rfl ?_|refine gOff rfl rfl ?_|refine gTup rfl ?_))
  intro q hq
  obtain rfl : q = false := by rw [hq]; simp [lgS]
  (repeat(first|refine pSeq ?_|refine pReg ?_|refine sCons ?_|refine sNil ?_|refine pBlock ?_|refine pSkip ?_|refine pExit ?_|refine pRet ?_|refine pCond ?_|refine gNone ?_|refine gOn rfl ?_|refine gOff rfl rfl ?_|refine gTup rfl ?_))
  refine (sure_w o2'.la).mono fun v s2 q => ?_
  obtain ⟨rfl, rfl⟩ := q
  (repeat(first|refine pSeq ?_|refine pReg ?_|refine sCons ?_|refine sNil ?_|refine pBlock ?_|refine pSkip ?_|refine pExit ?_|refine pRet ?_|refine pCond ?_|refine gNone ?_|refine gOn rfl ?_|refine gOff rfl rfl ?_|refine gTup rfl ?_))
  intro z1 hz1
  have hz1' : z1 = (ps.length : Int) := by
    have : (BitVec.ofNat 32 ps.length).toNat = ps.length := by simp; omega
    rw [hz1]
    show IntKind.i64.wrap ((BitVec.ofNat 32 ps.length).toNat : Int) = _
    rw [this, i64_id (by omega)]
  subst hz1'
  (repeat(first|refine pSeq ?_|refine pReg ?_|refine sCons ?_|refine sNil ?_|refine pBlock ?_|refine pSkip ?_|refine pExit ?_|refine pRet ?_|refine pCond ?_|refine gNone ?_|refine gOn rfl ?_|refine gOff rfl rfl ?_|refine gTup rfl ?_))
  intro q hq
  obtain rfl : q = false := by rw [hq, lqs]; simp
  (repeat(first|refine pSeq ?_|refine pReg ?_|refine sCons ?_|refine sNil ?_|refine pBlock ?_|refine pSkip ?_|refine pExit ?_|refine pRet ?_|refine pCond ?_|refine gNone ?_|refine gOn rfl ?_|refine gOff rfl rfl ?_|refine gTup rfl ?_))
  refine o2.sync.mono fun v s3 q => ?_
  obtain ⟨rfl, B3, o3, c3, a3⟩ := q
  have hn3 := hn.al a3 hs2
  have al3 := al2.on o2 c3 hg hn
  have hm3 := hm2.chg c3 (fun id q r => by
    have := hmb id q
    rcases List.mem_cons.1 r with r | r
    · omega
    · have := hn id (List.mem_append_left _ r); omega)
  have hs3 := Nat.le_trans hs2 c3.next
  (repeat(first|refine pSeq ?_|refine pReg ?_|refine sCons ?_|refine sNil ?_|refine pBlock ?_|refine pSkip ?_|refine pExit ?_|refine pRet ?_|refine pCond ?_|refine gNone ?_|refine gOn rfl ?_|refine gOff rfl rfl ?_|refine gTup rfl ?_))
  intro z2 hz2
  (repeat(first|refine pSeq ?_|refine pReg ?_|refine sCons ?_|refine sNil ?_|refine pBlock ?_|refine pSkip ?_|refine pExit ?_|refine pRet ?_|refine pCond ?_|refine gNone ?_|refine gOn rfl ?_|refine gOff rfl rfl ?_|refine gTup rfl ?_))
  refine slL_same 0 (min ml.length 60) rfl rfl rfl hm3 rfl (show z2 = _ by rw [hz2]; omega) (by omega) fun b1 cc hsl hbl => ?_
  rw [List.drop_zero] at hsl
  have hp60 : min ml.length 60 ≤ 60 := Nat.min_le_right _ _
  have hpl : (ml.take (min ml.length 60)).length = min ml.length 60 := by rw [List.length_take]; omega
  generalize ml.take (min ml.length 60) = p at hsl hpl
  generalize min ml.length 60 = pn at hsl hpl hp60 ⊢
  subst hpl
  (repeat(first|refine pSeq ?_|refine pReg ?_|refine sCons ?_|refine sNil ?_|refine pBlock ?_|refine pSkip ?_|refine pExit ?_|refine pRet ?_|refine pCond ?_|refine gNone ?_|refine gOn rfl ?_|refine gOff rfl rfl ?_|refine gTup rfl ?_))
  have dcap : ({ D with sure := D.now, ws := [] } : Dk).cap = 4000 := hc
  have dful : ({ D with sure := D.now, ws := [] } : Dk).full = false := hf
  refine (o3.append hsl.1 (by omega) hf (by rw [dcap]; omega) (by simp) (fun id q r => by
    have := hmb id (hbl id q); have := hn3 id (List.mem_append_left _ r); omega)).mono fun v s4 q => ?_
  obtain ⟨rfl, D4, B4, z4, o4, e1, e2, e3, e4, e5, c4, a4⟩ := q
  have hn4 := hn3.al a4 hs3
  have al4 := al3.on o3 c4 hg hn3
  have hs4 := Nat.le_trans hs3 c4.next
  (repeat(first|refine pSeq ?_|refine pReg ?_|refine sCons ?_|refine sNil ?_|refine pBlock ?_|refine pSkip ?_|refine pExit ?_|refine pRet ?_|refine pCond ?_|refine gNone ?_|refine gOn rfl ?_|refine gOff rfl rfl ?_|refine gTup rfl ?_))
  have c5 : Chg s4 ({ s4 with heap := (s4.next, some (.cells [.int .i64 keep] tI false false)) :: s4.heap, next := s4.next + 1 } : SS) [] := .new []
  have rI : RdI ({ s4 with heap := (s4.next, some (.cells [.int .i64 keep] tI false false)) :: s4.heap, next := s4.next + 1 } : SS) (some ⟨s4.next, 0, none⟩) 1 [keep] := ⟨rfl, rfl, Nat.lt_succ_self _, _, _, _, lkH, fun i hi => by
    obtain rfl : i = 0 := by omega
    rfl⟩
  generalize ({ s4 with heap := (s4.next, some (.cells [.int .i64 keep] tI false false)) :: s4.heap, next := s4.next + 1 } : SS) = s5 at c5 rI ⊢
  have o5 := o4.same c5
  have al5 := al4.chg c5 (by simp)
  have hs5 := Nat.le_trans hs4 c5.next
  refine (o5.crash rI).mono fun v s6 q => ?_
  obtain ⟨rfl, B6, k6, ev6, c6, a6⟩ := q
  have hn6 := hn4.al a6 hs5
  have al6 := al5.on o5 c6 hg hn4
  have hs6 := Nat.le_trans hs5 c6.next
  obtain ⟨ps', r', hnow', hps', hle', hstop⟩ := torn (ps := ps) (p := p) (k := (max keep 0).toNat) (by omega) h164
  have hD6 : (D4.crashed [keep]).now = ch 0#32 1#32 ps' ++ r' := by
    rw [← hnow']
    show lays (cutW D4.ws [keep]) D4.sure = _
    rw [e4, e3]
    show lays (cutW [((ch 0#32 1#32 ps).length, (lgS ps ps.length).form p)] [keep]) D.now = _
    rw [cutW_one]
    show layF D.now (ch 0#32 1#32 ps).length (((lgS ps ps.length).form p).take (max keep 0).toNat) = _
    have hD : D.now = ch 0#32 1#32 ps := by rw [o.now]; simp
    rw [hD, lay_behind]
  have hr4 : r'.length ≤ 4000 := by
    have h1 := k6.lnow
    have h2 : (D4.crashed [keep]).cap = 4000 := e1.trans hc
    rw [hD6, h2, List.length_append] at h1
    omega
  (repeat(first|refine pSeq ?_|refine pReg ?_|refine sCons ?_|refine sNil ?_|refine pBlock ?_|refine pSkip ?_|refine pExit ?_|refine pRet ?_|refine pCond ?_|refine gNone ?_|refine gOn rfl ?_|refine gOff rfl rfl ?_|refine gTup rfl ?_))
  refine (recovered_on k6 ev6 (by simp [Dk.crashed]) hle' hD6 hstop rfl (.inl (e2.trans dful))).mono fun v s7 q => ?_
  obtain ⟨B7, g7, W7, cw7, qs7, X7, rfl, hX7, o7, hg7, py7, hq7, c7, a7, off7⟩ := q
  have al7 : Al s0.next s7 Wa cw qs := al6.chg c7 fun id q => ⟨hn6 id (List.mem_append_left _ q), fun r => row_off (g := g) (A := lgS ps 0) al6.row k6 id r (List.mem_append_left _ q)⟩
  have l7 : qs7.length = ps'.length := by rw [← hq7, List.length_map]
  have hlen' : ps.length ≤ ps'.length ∧ ps'.take ps.length = ps ∧ ps'.length ≤ 21 := by
    rcases hps' with rfl | rfl
    · exact ⟨Nat.le_refl _, List.take_of_length_le (Nat.le_refl _), by omega⟩
    · exact ⟨by simp, by simp, by simp; omega⟩
  (repeat(first|refine pSeq ?_|refine pReg ?_|refine sCons ?_|refine sNil ?_|refine pBlock ?_|refine pSkip ?_|refine pExit ?_|refine pRet ?_|refine pCond ?_|refine gNone ?_|refine gOn rfl ?_|refine gOff rfl rfl ?_|refine gTup rfl ?_))
  intro q hq
  obtain rfl : q = false := by rw [hq]; rfl
  (repeat(first|refine pSeq ?_|refine pReg ?_|refine sCons ?_|refine sNil ?_|refine pBlock ?_|refine pSkip ?_|refine pExit ?_|refine pRet ?_|refine pCond ?_|refine gNone ?_|refine gOn rfl ?_|refine gOff rfl rfl ?_|refine gTup rfl ?_))
  intro q hq
  obtain rfl : q = false := by rw [hq]; simp; omega
  (repeat(first|refine pSeq ?_|refine pReg ?_|refine sCons ?_|refine sNil ?_|refine pBlock ?_|refine pSkip ?_|refine pExit ?_|refine pRet ?_|refine pCond ?_|refine gNone ?_|refine gOn rfl ?_|refine gOff rfl rfl ?_|refine gTup rfl ?_))
  refine slL_row (m := qs.length) py7.row rfl rfl rfl (by omega) fun c8 => ?_
  (repeat(first|refine pSeq ?_|refine pReg ?_|refine sCons ?_|refine sNil ?_|refine pBlock ?_|refine pSkip ?_|refine pExit ?_|refine pRet ?_|refine pCond ?_|refine gNone ?_|refine gOn rfl ?_|refine gOff rfl rfl ?_|refine gTup rfl ?_))
  have lt8 : (qs7.take qs.length).length = qs.length := by rw [List.length_take]; omega
  have s8 := same_w (c := c8) (e := cw) (py7.row'.front qs.length (by omega)) al7.rowAt (by omega)
  rw [lt8] at s8
  refine s8.mono fun v s7 q => ?_
  obtain ⟨hv, rfl⟩ := q
  obtain rfl : v = .bool true := by rw [hv, List.map_take, hq7, lqs, hqs, hlen'.2.1]; simp
  (repeat(first|refine pSeq ?_|refine pReg ?_|refine sCons ?_|refine sNil ?_|refine pBlock ?_|refine pSkip ?_|refine pExit ?_|refine pRet ?_|refine pCond ?_|refine gNone ?_|refine gOn rfl ?_|refine gOff rfl rfl ?_|refine gTup rfl ?_))
  intro q hq
  obtain rfl : q = false := by rw [hq]; rfl
  (repeat(first|refine pSeq ?_|refine pReg ?_|refine sCons ?_|refine sNil ?_|refine pBlock ?_|refine pSkip ?_|refine pExit ?_|refine pRet ?_|refine pCond ?_|refine gNone ?_|refine gOn rfl ?_|refine gOff rfl rfl ?_|refine gTup rfl ?_))
  refine (size_w o7.la).mono fun v s7 q => ?_
  obtain ⟨rfl, rfl⟩ := q
  (repeat(first|refine pSeq ?_|refine pReg ?_|refine sCons ?_|refine sNil ?_|refine pBlock ?_|refine pSkip ?_|refine pExit ?_|refine pRet ?_|refine pCond ?_|refine gNone ?_|refine gOn rfl ?_|refine gOff rfl rfl ?_|refine gTup rfl ?_))
  have er : (⟨(D4.crashed [keep]).cap, (D4.crashed [keep]).full, X7, X7, []⟩ : Dk).read ((lgS ps' ps'.length).size : Int) 4000 = List.replicate r'.length 0 := read_from (a := ch 0#32 1#32 ps') hX7 4000 (by simpa using hr4)
  refine (read_w (k := (lgS ps' ps'.length).size) (m := 4000) o7.dk (by omega)).mono fun v s9 q => ?_
  obtain ⟨b9, rfl, own9, new9, c9⟩ := q
  rw [er] at own9 ⊢
  have o9 := o7.same c9
  have rd9 := own9.rdb
  rw [List.length_replicate] at rd9 ⊢
  (repeat(first|refine pSeq ?_|refine pReg ?_|refine sCons ?_|refine sNil ?_|refine pBlock ?_|refine pSkip ?_|refine pExit ?_|refine pRet ?_|refine pCond ?_|refine gNone ?_|refine gOn rfl ?_|refine gOff rfl rfl ?_|refine gTup rfl ?_))
  refine pLoop (MW.head good (fun i => r'.length - i) (fun i => i ≤ r'.length) (fun i => [(6, .bool false), (7, .pointer (some ⟨d, 0, none⟩)), (21, .slice W7 qs7.length cw7), (145, .slice b9 r'.length 0), (146, .int .i64 r'.length), (147, .int .i64 i)]) (fun _ => s9) 0 (Nat.zero_le _) (Wk.same ⟨rfl, rfl, rfl, rfl, rfl, rfl, trivial⟩) ?_)
  intro i hi
  (repeat(first|refine pSeq ?_|refine pReg ?_|refine sCons ?_|refine sNil ?_|refine pBlock ?_|refine pSkip ?_|refine pExit ?_|refine pRet ?_|refine pCond ?_|refine gNone ?_|refine gOn rfl ?_|refine gOff rfl rfl ?_|refine gTup rfl ?_))
  intro q hq
  by_cases hlt : i < r'.length
  · obtain rfl : q = true := by rw [hq]; simp [hlt]
    (repeat(first|refine pSeq ?_|refine pReg ?_|refine sCons ?_|refine sNil ?_|refine pBlock ?_|refine pSkip ?_|refine pExit ?_|refine pRet ?_|refine pCond ?_|refine gNone ?_|refine gOn rfl ?_|refine gOff rfl rfl ?_|refine gTup rfl ?_))
    cases b9 with
    | none => have := rd9.2; simp only at this; have h0 := congrArg List.length this; rw [List.length_replicate, List.length_nil] at h0; omega
    | some a =>
      obtain ⟨b, off, sp⟩ := a
      obtain ⟨rfl, cc', t, g', rr, hb1, hat⟩ := rd9.at
      (repeat(first|refine pSeq ?_|refine pReg ?_|refine sCons ?_|refine sNil ?_|refine pBlock ?_|refine pSkip ?_|refine pExit ?_|refine pRet ?_|refine pCond ?_|refine gNone ?_|refine gOn rfl ?_|refine gOff rfl rfl ?_|refine gTup rfl ?_))
      refine ⟨by omega, ?_⟩
      intro m hm o ho
      obtain rfl : m = i := by omega
      (repeat(first|refine pSeq ?_|refine pReg ?_|refine sCons ?_|refine sNil ?_|refine pBlock ?_|refine pSkip ?_|refine pExit ?_|refine pRet ?_|refine pCond ?_|refine gNone ?_|refine gOn rfl ?_|refine gOff rfl rfl ?_|refine gTup rfl ?_))
      refine ldI_at rfl hb1 (by rw [ho, Nat.mul_one]; exact hat _ hlt) ?_
      (repeat(first|refine pSeq ?_|refine pReg ?_|refine sCons ?_|refine sNil ?_|refine pBlock ?_|refine pSkip ?_|refine pExit ?_|refine pRet ?_|refine pCond ?_|refine gNone ?_|refine gOn rfl ?_|refine gOff rfl rfl ?_|refine gTup rfl ?_))
      intro q hq
      obtain rfl : q = false := by
        rw [hq, List.getD, List.getElem?_replicate, if_pos hlt]
        rfl
      (repeat(first|refine pSeq ?_|refine pReg ?_|refine sCons ?_|refine sNil ?_|refine pBlock ?_|refine pSkip ?_|refine pExit ?_|refine pRet ?_|refine pCond ?_|refine gNone ?_|refine gOn rfl ?_|refine gOff rfl rfl ?_|refine gTup rfl ?_))
      intro z3 hz3
      rw [i64_id (by omega)] at hz3
      subst hz3
      (repeat(first|refine pSeq ?_|refine pReg ?_|refine sCons ?_|refine sNil ?_|refine pBlock ?_|refine pSkip ?_|refine pExit ?_|refine pRet ?_|refine pCond ?_|refine gNone ?_|refine gOn rfl ?_|refine gOff rfl rfl ?_|refine gTup rfl ?_))
      exact ⟨m + 1, hlt, by show r'.length - (m + 1) < r'.length - m; omega, Wk.same ⟨rfl, rfl, rfl, rfl, rfl, rfl, trivial⟩⟩
  · obtain rfl : q = false := by rw [hq]; simp; omega
    (repeat(first|refine pSeq ?_|refine pReg ?_|refine sCons ?_|refine sNil ?_|refine pBlock ?_|refine pSkip ?_|refine pExit ?_|refine pRet ?_|refine pCond ?_|refine gNone ?_|refine gOn rfl ?_|refine gOff rfl rfl ?_|refine gTup rfl ?_))
    refine (recovered_on (ps := ps') (r := List.replicate r'.length 0) o9.dk o9.ev (by simp) hle' hX7 (zero_stop (succ_ne (by omega))) rfl (.inl (e2.trans dful))).mono fun v s10 q => ?_
    obtain ⟨B10, g10, W10, cw10, qs10, X10, rfl, -, o10, hg10, py10, hq10, c10, a10, off10⟩ := q
    have py9 := (py7.chg' c9 (by simp)).chg' c10 (fun id q r => (off7 id q).1 (List.mem_append_left _ r))
    (repeat(first|refine pSeq ?_|refine pReg ?_|refine sCons ?_|refine sNil ?_|refine pBlock ?_|refine pSkip ?_|refine pExit ?_|refine pRet ?_|refine pCond ?_|refine gNone ?_|refine gOn rfl ?_|refine gOff rfl rfl ?_|refine gTup rfl ?_))
    intro q hq
    obtain rfl : q = true := by rw [hq]; rfl
    (repeat(first|refine pSeq ?_|refine pReg ?_|refine sCons ?_|refine sNil ?_|refine pBlock ?_|refine pSkip ?_|refine pExit ?_|refine pRet ?_|refine pCond ?_|refine gNone ?_|refine gOn rfl ?_|refine gOff rfl rfl ?_|refine gTup rfl ?_))
    refine (same_w py9.row' py10.row' (by omega)).mono fun v s10 q => ?_
    obtain ⟨hv, rfl⟩ := q
    obtain rfl : v = .bool true := by rw [hv, hq7, hq10]; simp
    (repeat(first|refine pSeq ?_|refine pReg ?_|refine sCons ?_|refine sNil ?_|refine pBlock ?_|refine pSkip ?_|refine pExit ?_|refine pRet ?_|refine pCond ?_|refine gNone ?_|refine gOn rfl ?_|refine gOff rfl rfl ?_|refine gTup rfl ?_))
    refine (waits_w o10.dk).mono fun v s10 q => ?_
    obtain ⟨rfl, rfl⟩ := q
    (repeat(first|refine pSeq ?_|refine pReg ?_|refine sCons ?_|refine sNil ?_|refine pBlock ?_|refine pSkip ?_|refine pExit ?_|refine pRet ?_|refine pCond ?_|refine gNone ?_|refine gOn rfl ?_|refine gOff rfl rfl ?_|refine gTup rfl ?_))
    intro q hq
    obtain rfl : q = true := by rw [hq]; rfl
    (repeat(first|refine pSeq ?_|refine pReg ?_|refine sCons ?_|refine sNil ?_|refine pBlock ?_|refine pSkip ?_|refine pExit ?_|refine pRet ?_|refine pCond ?_|refine gNone ?_|refine gOn rfl ?_|refine gOff rfl rfl ?_|refine gTup rfl ?_))
    refine (wakes_w o10.ev).mono fun v s11 q => ?_
    subst q
    (repeat(first|refine pSeq ?_|refine pReg ?_|refine sCons ?_|refine sNil ?_|refine pBlock ?_|refine pSkip ?_|refine pExit ?_|refine pRet ?_|refine pCond ?_|refine gNone ?_|refine gOn rfl ?_|refine gOff rfl rfl ?_|refine gTup rfl ?_))
    rfl

structure Fa where
  i : Nat
  ps : PL
  qs : List Py
  W : Option Addr
  cw : Nat
  D : Dk
  B : Bs
  s : SS

set_option maxHeartbeats 1000000 in
theorem again_w {s : SS} {lb mb : Option Addr} {rows : List RowT} {ml : List UInt8} (hl : RowsS s.next s lb rows) (ev : Ev s) (keep : Int) (hm : Slc pr s mb ml.length 0 ml) (hmb : ∀ id ∈ blkOf mb, id < s.next) : CallW pr n_law03_LogAgain [.slice lb rows.length 0, .int .i64 keep, .slice mb ml.length 0] s fun v s' => v = .bool true := by
  refine CallW.pieces (nt := 175) (res := [.tmp 6]) (c := .seq code_K05_P0 (.seq code_K05_P1 (.seq code_K05_P2 (.seq code_K05_P3 (.seq code_K05_P4 (.seq (.seq code_K05_P5 (.block 0 (.loop code_K05_LB))) code_K05_TL)))))) (by kernel_rfl) (by kernel_rfl) (by kernel_rfl) (by kernel_rfl) (by simp) ?_
  refine W.seq (comp_ok good ok_K05_P0 (Box.out (p := wp pr 175 s.next _ _ _ _) ?_))
  (repeat(first|refine pSeq ?_|refine pReg ?_|refine sCons ?_|refine sNil ?_|refine pBlock ?_|refine pSkip ?_|refine pExit ?_|refine pRet ?_|refine pCond ?_|refine gNone ?_|refine gOn rfl ?_|refine gOff rfl rfl ?_|refine gTup rfl ?_))
  refine W.seq (comp_ok good ok_K05_P1 (Box.out (p := wp pr 175 s.next _ _ _ _) ?_))
  (repeat(first|refine pSeq ?_|refine pReg ?_|refine sCons ?_|refine sNil ?_|refine pBlock ?_|refine pSkip ?_|refine pExit ?_|refine pRet ?_|refine pCond ?_|refine gNone ?_|refine gOn rfl ?_|refine gOff rfl rfl ?_|refine gTup rfl ?_))
  refine (new_w (c := 4000) (by omega)).mono fun v s1 q => ?_
  obtain ⟨d, hd, rfl, k1, c1⟩ := q
  have ev1 := ev.chg c1 (by simp)
  have hl1 := hl.chg c1 (by simp)
  have hm1 := hm.chg c1 (by simp)
  (repeat(first|refine pSeq ?_|refine pReg ?_|refine sCons ?_|refine sNil ?_|refine pBlock ?_|refine pSkip ?_|refine pExit ?_|refine pRet ?_|refine pCond ?_|refine gNone ?_|refine gOn rfl ?_|refine gOff rfl rfl ?_|refine gTup rfl ?_))
  refine W.seq (comp_ok good ok_K05_P2 (Box.out (p := wp pr 175 s.next _ _ _ _) ?_))
  (repeat(first|refine pSeq ?_|refine pReg ?_|refine sCons ?_|refine sNil ?_|refine pBlock ?_|refine pSkip ?_|refine pExit ?_|refine pRet ?_|refine pCond ?_|refine gNone ?_|refine gOn rfl ?_|refine gOff rfl rfl ?_|refine gTup rfl ?_))
  intro q hq
  obtain rfl : q = false := by rw [hq]; rfl
  (repeat(first|refine pSeq ?_|refine pReg ?_|refine sCons ?_|refine sNil ?_|refine pBlock ?_|refine pSkip ?_|refine pExit ?_|refine pRet ?_|refine pCond ?_|refine gNone ?_|refine gOn rfl ?_|refine gOff rfl rfl ?_|refine gTup rfl ?_))
  refine W.seq (comp_ok good ok_K05_P3 (Box.out (p := wp pr 175 s.next _ _ _ _) ?_))
  (repeat(first|refine pSeq ?_|refine pReg ?_|refine sCons ?_|refine sNil ?_|refine pBlock ?_|refine pSkip ?_|refine pExit ?_|refine pRet ?_|refine pCond ?_|refine gNone ?_|refine gOn rfl ?_|refine gOff rfl rfl ?_|refine gTup rfl ?_))
  refine (recovered_on (ps := []) (r := []) k1 ev1 (by simp [Dk.made]) (by simp) rfl made_stop rfl (.inr rfl)).mono fun v s2 q => ?_
  obtain ⟨B2, g, W0, cw0, qs0, X, rfl, rfl, o2, hg, py0, hq0, c2, al2, -⟩ := q
  have hn1 : NewD s.next d B0 := fun id q => by
    obtain rfl : id = d := by simpa [whole, foot, bytesOfW, B0, blkOf] using q
    exact hd
  have hl2 := hl1.chg c2 (fun id q => hn1 id (List.mem_append_left _ q))
  have hm2 := hm1.chg c2 (fun id q r => by have := hmb id q; have := hn1 id (List.mem_append_left _ r); omega)
  have hs1 := c1.next
  have hs2 := Nat.le_trans hs1 c2.next
  have hn2 := hn1.al al2 hs1
  have hg0 := Nat.le_trans hs1 hg
  (repeat(first|refine pSeq ?_|refine pReg ?_|refine sCons ?_|refine sNil ?_|refine pBlock ?_|refine pSkip ?_|refine pExit ?_|refine pRet ?_|refine pCond ?_|refine gNone ?_|refine gOn rfl ?_|refine gOff rfl rfl ?_|refine gTup rfl ?_))
  refine W.seq (comp_ok good ok_K05_P4 (Box.out (p := wp pr 175 s.next _ _ _ _) ?_))
  (repeat(first|refine pSeq ?_|refine pReg ?_|refine sCons ?_|refine sNil ?_|refine pBlock ?_|refine pSkip ?_|refine pExit ?_|refine pRet ?_|refine pCond ?_|refine gNone ?_|refine gOn rfl ?_|refine gOff rfl rfl ?_|refine gTup rfl ?_))
  refine W.seq (W.seq (comp_ok good ok_K05_P5 (Box.out (p := wp pr 175 s.next _ _ _ _) ?_)))
  (repeat(first|refine pSeq ?_|refine pReg ?_|refine sCons ?_|refine sNil ?_|refine pBlock ?_|refine pSkip ?_|refine pExit ?_|refine pRet ?_|refine pCond ?_|refine gNone ?_|refine gOn rfl ?_|refine gOff rfl rfl ?_|refine gTup rfl ?_))
  refine W.block (W.loop (k := s.next) (fun i : Fa => rows.length - i.i) (fun i => i.i ≤ rows.length ∧ i.i ≤ 20 ∧ On i.s g d i.D i.B i.ps 0 0 ∧ NewD s.next d i.B ∧ s.next ≤ i.s.next ∧ RowsS s.next i.s lb rows ∧ Al s.next i.s i.W i.cw i.qs ∧ i.qs.map (·.2.2) = i.ps ∧ i.ps.length = i.i ∧ (∀ p ∈ i.ps, p.length ≤ 60) ∧ i.D.cap = 4000 ∧ i.D.full = false ∧ i.D.ws.length ≤ i.i ∧ Slc pr i.s mb ml.length 0 ml)
    (fun i => [(1, .int .i64 keep), (2, .slice mb ml.length 0), (6, .bool false), (7, .pointer (some ⟨d, 0, none⟩)), (9, .pointer (some ⟨g, 0, none⟩)), (12, .slice i.W i.qs.length i.cw), (39, .slice lb rows.length 0), (40, .int .i64 rows.length), (41, .int .i64 i.i)]) (fun i => i.s) ⟨0, [], [], none, 0, _, B2, s2⟩
    ⟨Nat.zero_le _, Nat.zero_le _, o2, hn2, hs2, hl2, .no _ _, rfl, rfl, by simp, rfl, rfl, Nat.le_refl _, hm2⟩ (Wk.same ⟨rfl, rfl, rfl, rfl, rfl, rfl, rfl, rfl, rfl, trivial⟩) ?_)
  rintro ⟨i, ps, qs, Wa, cw, D, B, s3⟩ ⟨hi, hi20, o3, hn3, hs3, hl3, al3, hqs, hlen, h60, hcap, hfull, hws, hm3⟩
  dsimp only at hi hi20 o3 hn3 hs3 hl3 al3 hqs hlen h60 hcap hfull hws hm3 ⊢
  refine comp_ok good ok_K05_LB (Box.out (p := wp pr 175 s.next _ _ _ _) ?_)
  (repeat(first|refine pSeq ?_|refine pReg ?_|refine sCons ?_|refine sNil ?_|refine pBlock ?_|refine pSkip ?_|refine pExit ?_|refine pRet ?_|refine pCond ?_|refine gNone ?_|refine gOn rfl ?_|refine gOff rfl rfl ?_|refine gTup rfl ?_))
  intro q hq
  by_cases hlt : i < rows.length
  · obtain rfl : q = true := by rw [hq]; simp [hlt]
    obtain ⟨r, hr⟩ : ∃ r, rows[i]? = some r := ⟨_, List.getElem?_eq_getElem hlt⟩
    obtain ⟨b, rfl, cs, t, g', q', p1, p2⟩ := hl3.at hr
    obtain ⟨rs, rlt⟩ := hl3.each r (List.mem_of_getElem? hr)
    (repeat(first|refine pSeq ?_|refine pReg ?_|refine sCons ?_|refine sNil ?_|refine pBlock ?_|refine pSkip ?_|refine pExit ?_|refine pRet ?_|refine pCond ?_|refine gNone ?_|refine gOn rfl ?_|refine gOff rfl rfl ?_|refine gTup rfl ?_))
    refine ⟨by omega, ?_⟩
    intro m hm' o ho
    obtain rfl : m = i := by omega
    (repeat(first|refine pSeq ?_|refine pReg ?_|refine sCons ?_|refine sNil ?_|refine pBlock ?_|refine pSkip ?_|refine pExit ?_|refine pRet ?_|refine pCond ?_|refine gNone ?_|refine gOn rfl ?_|refine gOff rfl rfl ?_|refine gTup rfl ?_))
    refine ld1_is rfl p1 (by rw [ho, Nat.mul_one, Nat.zero_add]; exact p2) ?_
    (repeat(first|refine pSeq ?_|refine pReg ?_|refine sCons ?_|refine sNil ?_|refine pBlock ?_|refine pSkip ?_|refine pExit ?_|refine pRet ?_|refine pCond ?_|refine gNone ?_|refine gOn rfl ?_|refine gOff rfl rfl ?_|refine gTup rfl ?_))
    intro q hq
    by_cases he : m = 20
    · obtain rfl : q = true := by rw [hq]; simp [he]
      (repeat(first|refine pSeq ?_|refine pReg ?_|refine sCons ?_|refine sNil ?_|refine pBlock ?_|refine pSkip ?_|refine pExit ?_|refine pRet ?_|refine pCond ?_|refine gNone ?_|refine gOn rfl ?_|refine gOff rfl rfl ?_|refine gTup rfl ?_))
      show W pr 175 s.next code_K05_TL _ s3 (runQ pr [.tmp 6] fun v s' => v = .bool true)
      exact W.weak (T' := [(1, .int .i64 keep), (2, .slice mb ml.length 0), (6, .bool false), (7, .pointer (some ⟨d, 0, none⟩)), (9, .pointer (some ⟨g, 0, none⟩)), (12, .slice Wa qs.length cw)]) (s' := s3) (Wk.same ⟨rfl, rfl, rfl, rfl, rfl, rfl, trivial⟩) (again_tail (s0 := s) o3 hg0 hn3 hs3 al3 hqs (by omega) h60 hcap hfull (by omega) hm3 hmb)
    obtain rfl : q = false := by rw [hq]; simp; omega
    (repeat(first|refine pSeq ?_|refine pReg ?_|refine sCons ?_|refine sNil ?_|refine pBlock ?_|refine pSkip ?_|refine pExit ?_|refine pRet ?_|refine pCond ?_|refine gNone ?_|refine gOn rfl ?_|refine gOff rfl rfl ?_|refine gTup rfl ?_))
    intro z hz
    (repeat(first|refine pSeq ?_|refine pReg ?_|refine sCons ?_|refine sNil ?_|refine pBlock ?_|refine pSkip ?_|refine pExit ?_|refine pRet ?_|refine pCond ?_|refine gNone ?_|refine gOn rfl ?_|refine gOff rfl rfl ?_|refine gTup rfl ?_))
    have hrn : r.2.1 = r.2.2.length := rs.1.1
    refine slL_same 0 (min r.2.1 60) rfl rfl rfl rs rfl (show z = _ by rw [hz]; omega) (by omega) fun b1 cc hsl hbl => ?_
    rw [List.drop_zero] at hsl
    have hp60 : min r.2.1 60 ≤ 60 := Nat.min_le_right _ _
    have hpl : (r.2.2.take (min r.2.1 60)).length = min r.2.1 60 := by rw [List.length_take]; omega
    generalize r.2.2.take (min r.2.1 60) = p at hsl hpl
    generalize min r.2.1 60 = pn at hsl hpl hp60 ⊢
    subst hpl
    have blt : ∀ id ∈ blkOf b1, id < s.next := fun id q => rlt id (hbl id q)
    have boff : ∀ (B : Bs), NewD s.next d B → ∀ id ∈ blkOf b1, id ∉ foot d B := fun B h id q r => by
      have := h id (List.mem_append_left _ r); have := blt id q; omega
    have bZ : ∀ (B : Bs), NewD s.next d B → ∀ id ∈ blkOf b1, id ∉ g :: foot d B := fun B h id q r => by
      rcases List.mem_cons.1 r with r | r
      · have := blt id q; omega
      · exact boff B h id q r
    have hsz := ch_size (c := 60) ps 0#32 1#32 h60
    (repeat(first|refine pSeq ?_|refine pReg ?_|refine sCons ?_|refine sNil ?_|refine pBlock ?_|refine pSkip ?_|refine pExit ?_|refine pRet ?_|refine pCond ?_|refine gNone ?_|refine gOn rfl ?_|refine gOff rfl rfl ?_|refine gTup rfl ?_))
    refine (o3.append hsl.1 (by omega) hfull (by omega) (by omega) (boff B hn3)).mono fun v s6 q => ?_
    obtain ⟨rfl, D6, B6, z6, o6, e1, e2, e3, e4, e5, c6, al6⟩ := q
    have hn6 := hn3.al al6 hs3
    obtain rfl : z6 = 0 := by omega
    have hl6 := hl3.on c6 hg0 hn3
    have al6' := al3.on o3 c6 hg0 hn3
    have hs6 := Nat.le_trans hs3 c6.next
    have rp6 := hsl.1.chg c6 (bZ B hn3)
    have hm6 := hm3.chg c6 (fun id q r => by
      have := hmb id q
      rcases List.mem_cons.1 r with r | r
      · omega
      · have := hn3 id (List.mem_append_left _ r); omega)
    (repeat(first|refine pSeq ?_|refine pReg ?_|refine sCons ?_|refine sNil ?_|refine pBlock ?_|refine pSkip ?_|refine pExit ?_|refine pRet ?_|refine pCond ?_|refine gNone ?_|refine gOn rfl ?_|refine gOff rfl rfl ?_|refine gTup rfl ?_))
    intro q hq
    obtain rfl : q = false := by rw [hq]; rfl
    (repeat(first|refine pSeq ?_|refine pReg ?_|refine sCons ?_|refine sNil ?_|refine pBlock ?_|refine pSkip ?_|refine pExit ?_|refine pRet ?_|refine pCond ?_|refine gNone ?_|refine gOn rfl ?_|refine gOff rfl rfl ?_|refine gTup rfl ?_))
    intro z1 hz1
    have hz1' : z1 = ((m + 1 : Nat) : Int) := by
      have e : (BitVec.ofNat 32 (ps.length + 1)).toNat = m + 1 := by simp; omega
      rw [hz1]
      show IntKind.i64.wrap ((BitVec.ofNat 32 (ps.length + 1)).toNat : Int) = _
      rw [e, i64_id (by omega)]
    subst hz1'
    (repeat(first|refine pSeq ?_|refine pReg ?_|refine sCons ?_|refine sNil ?_|refine pBlock ?_|refine pSkip ?_|refine pExit ?_|refine pRet ?_|refine pCond ?_|refine gNone ?_|refine gOn rfl ?_|refine gOff rfl rfl ?_|refine gTup rfl ?_))
    intro z2 hz2
    rw [i64_id (by omega)] at hz2
    subst hz2
    (repeat(first|refine pSeq ?_|refine pReg ?_|refine sCons ?_|refine sNil ?_|refine pBlock ?_|refine pSkip ?_|refine pExit ?_|refine pRet ?_|refine pCond ?_|refine gNone ?_|refine gOn rfl ?_|refine gOff rfl rfl ?_|refine gTup rfl ?_))
    intro q hq
    obtain rfl : q = false := by rw [hq]; simp
    (repeat(first|refine pSeq ?_|refine pReg ?_|refine sCons ?_|refine sNil ?_|refine pBlock ?_|refine pSkip ?_|refine pExit ?_|refine pRet ?_|refine pCond ?_|refine gNone ?_|refine gOn rfl ?_|refine gOff rfl rfl ?_|refine gTup rfl ?_))
    refine Al.snoc (q := (b1, cc, p)) al6' ⟨rp6, blt⟩ hs6 (by have := congrArg List.length hqs; simp at this; omega) rfl rfl fun s8 al8 c8 => ?_
    have o8 := o6.row al6'.row c8
    have hl8 := hl6.chg c8 (fun id q => al6'.new id q)
    have hs8 := Nat.le_trans hs6 c8.next
    have hm8 := hm6.chg c8 (fun id q r => by have := hmb id q; have := al6'.new id r; omega)
    (repeat(first|refine pSeq ?_|refine pReg ?_|refine sCons ?_|refine sNil ?_|refine pBlock ?_|refine pSkip ?_|refine pExit ?_|refine pRet ?_|refine pCond ?_|refine gNone ?_|refine gOn rfl ?_|refine gOff rfl rfl ?_|refine gTup rfl ?_))
    intro z9 hz9
    rw [i64_id (by omega)] at hz9
    subst hz9
    have lws : D6.ws.length = D.ws.length + 1 := by rw [e4]; simp
    (repeat(first|refine pSeq ?_|refine pReg ?_|refine sCons ?_|refine sNil ?_|refine pBlock ?_|refine pSkip ?_|refine pExit ?_|refine pRet ?_|refine pCond ?_|refine gNone ?_|refine gOn rfl ?_|refine gOff rfl rfl ?_|refine gTup rfl ?_))
    refine ⟨⟨m + 1, ps ++ [p], qs ++ [(b1, cc, p)], some ⟨s6.next + 1, 0, none⟩, 0, D6, B6, s8⟩, ⟨by dsimp only; omega, by dsimp only; omega, o8, hn6, hs8, hl8, al8, by dsimp only; rw [List.map_append, hqs]; rfl, by dsimp only; simp; omega, ?_, e1.trans hcap, e2.trans hfull, by dsimp only; omega, hm8⟩, by dsimp only; omega, Wk.same ⟨rfl, rfl, rfl, rfl, rfl, by dsimp only; rw [List.length_append]; rfl, rfl, rfl, rfl, trivial⟩⟩
    intro q hq
    rcases List.mem_append.1 hq with r | r
    · exact h60 q r
    · obtain rfl : q = p := by simpa using r
      exact hp60
  · obtain rfl : q = false := by rw [hq]; simp; omega
    (repeat(first|refine pSeq ?_|refine pReg ?_|refine sCons ?_|refine sNil ?_|refine pBlock ?_|refine pSkip ?_|refine pExit ?_|refine pRet ?_|refine pCond ?_|refine gNone ?_|refine gOn rfl ?_|refine gOff rfl rfl ?_|refine gTup rfl ?_))
    show W pr 175 s.next code_K05_TL _ s3 (runQ pr [.tmp 6] fun v s' => v = .bool true)
    exact W.weak (T' := [(1, .int .i64 keep), (2, .slice mb ml.length 0), (6, .bool false), (7, .pointer (some ⟨d, 0, none⟩)), (9, .pointer (some ⟨g, 0, none⟩)), (12, .slice Wa qs.length cw)]) (s' := s3) (Wk.same ⟨rfl, rfl, rfl, rfl, rfl, rfl, trivial⟩) (again_tail (s0 := s) o3 hg0 hn3 hs3 al3 hqs (by omega) h60 hcap hfull (by omega) hm3 hmb)
end Go.Vf.S
