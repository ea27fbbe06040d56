import Derived.Test.YtioildcpkcijkaaDoorLgU
/- What the law LogSure says: Sync, and a crash. -/
namespace Go.Vf.S
open Go Go.Vf Go.Vf.Fr
attribute [local irreducible] wSeq wRow wp wG
set_option linter.unusedVariables false
set_option linter.unusedSimpArgs false
set_option maxRecDepth 10000

theorem sure_sync {s0 : SS} {k d mb ab : Nat} {ob : Option Addr} {fw : List AV} {x : Sv} (h : SvI s0 d mb ob fw x) :
    W pr 183 k code_K04_SY ((9, .pointer (some ⟨ab, 0, none⟩)) :: svT d mb ob fw.length x.i x.g) x.s (SwQ k s0 d mb ob fw x.i) := by
  have hmb : mb ∉ x.g :: foot d x.B := by
    simp only [List.mem_cons, not_or]
    exact ⟨h.mg.1, fun q => h.mg.2 (List.mem_append_left _ q)⟩
  have hml := h.mlt
  refine comp_ok good ok_K04_SY (Box.out (p := wp pr 183 k _ _ _ _) ?_)
  unfold svT
  (repeat(first|refine pSeq ?_|refine pReg ?_|refine sCons ?_|refine sNil ?_|refine pSkip ?_|refine pRet ?_|refine pCond ?_|refine gNone ?_))
  refine h.on.sync.mono fun v s1 q => ?_
  obtain ⟨rfl, B1, o1, c1, a1⟩ := q
  have hn1 := c1.next
  have in1 : ∀ id, PyIn x.W x.qs id → id ∉ whole d B1 := fun id q r => (a1 id r).elim (fun r => (h.off id q).1 r) (fun r => by have := (h.py.ge q).2; omega)
  have mod1 := c1.blk _ _ h.mlt hmb h.mod
  have mbB : mb ∉ whole d B1 := fun q => (a1 mb q).elim h.mg.2 (fun q => by omega)
  (repeat(first|refine pSeq ?_|refine pReg ?_|refine sCons ?_|refine sNil ?_|refine pSkip ?_|refine pRet ?_|refine pCond ?_|refine gNone ?_))
  intro q hq
  obtain rfl : q = false := by rw [hq]; rfl
  (repeat(first|refine pSeq ?_|refine pReg ?_|refine sCons ?_|refine sNil ?_|refine pSkip ?_|refine pRet ?_|refine pCond ?_|refine gNone ?_))
  refine ld1_is rfl mod1 rfl ?_
  (repeat(first|refine pSeq ?_|refine pReg ?_|refine sCons ?_|refine sNil ?_|refine pSkip ?_|refine pRet ?_|refine pCond ?_|refine gNone ?_))
  refine st_abs rfl rfl mod1 (by omega) rfl rfl fun s2 m2 c2 n2 => ?_
  have hY : SvI s0 d mb ob fw { x with i := x.i + 1, j := x.all.length, D := { x.D with sure := x.D.now, ws := [] }, B := B1, s := s2 } := by
    refine ⟨?_, h.newD.al a1 h.next, h.newG, by have := h.next; have := c2.next; show s0.next ≤ s2.next; omega, h.cap, h.full, ⟨x.z, ?_⟩, .none _, h.h60, Nat.le_succ_of_le h.many, ?_, by have := c2.next; show mb < s2.next; omega, h.mge, ?_, h.pq, fun id q => ⟨in1 id q, (h.off id q).2⟩, ?_, ⟨h.mg.1, mbB⟩⟩
    · exact o1.chg c2 (by simp only [List.mem_singleton]; intro e; exact type_ne o1.ev.steps mod1 (by decide) e) (by simpa using h.mg.1.symm) (fun id q r => mbB (by simp only [List.mem_singleton] at r; rw [← r]; exact q))
    · show x.D.now = _
      rw [List.take_of_length_le (Nat.le_refl _)]
      exact h.on.now
    · rw [← h.len]; exact m2
    · exact (h.py.chg' c1 (fun id q r => by
        obtain ⟨p1, p2, p3⟩ := h.off id q
        rcases List.mem_cons.1 r with r | r
        · exact p2 r
        · exact p1 (List.mem_append_left _ r))).chg' c2 (fun id q r => (h.off id q).2.2 (by simpa using r))
    · exact (h.acts.chg c1 (loose_on h.on)).chg c2 (.cons mod1 (by decide) (.nil _))
  (repeat(first|refine pSeq ?_|refine pReg ?_|refine sCons ?_|refine sNil ?_|refine pSkip ?_|refine pRet ?_|refine pCond ?_|refine gNone ?_))
  exact .inl ⟨rfl, _, hY, rfl, Wk.same ⟨rfl, rfl, rfl, rfl, rfl, rfl, rfl, trivial⟩⟩

theorem rcv_zero {D : Dk} (hf : D.full = false) (hcap : D.now.length ≤ D.cap) : (rcv D).1 = 0 := by
  have hs : (after (recF D)).size ≤ D.now.length := by rw [after_size]; exact frs_total _ _ _ _
  have e : ((after (recF D)).wiped D).1 = 0 := by
    unfold Lg.wiped
    split
    · rfl
    · unfold Dk.wrote
      rw [if_neg (by omega), if_neg (by rw [hf, List.length_replicate]; simp; omega)]
  unfold rcv
  rw [if_neg (by simpa using e)]

set_option maxHeartbeats 2000000 in
theorem sure_crash {s0 : SS} {k d mb ab : Nat} {ob : Option Addr} {fw : List AV} {x : Sv} {a : AV} (h : SvI s0 d mb ob fw x) (hi : x.i < 40) (hA : Ab x.s d mb ab x a) (ha : a ∈ fw) (h20 : a.kl.length ≤ 20) :
    W pr 183 k code_K04_CR ((9, .pointer (some ⟨ab, 0, none⟩)) :: svT d mb ob fw.length x.i x.g) x.s (SwQ k s0 d mb ob fw x.i) := by
  have hkI := (h.acts.ok a ha).2.1
  have hfew := h.few
  have hmany := h.many
  have hlen := h.len
  have hmb : mb ∉ x.g :: foot d x.B := by
    simp only [List.mem_cons, not_or]
    exact ⟨h.mg.1, fun q => h.mg.2 (List.mem_append_left _ q)⟩
  have hml := h.mlt
  refine comp_ok good ok_K04_CR (Box.out (p := wp pr 183 k _ _ _ _) ?_)
  unfold svT
  (repeat(first|refine pSeq ?_|refine pReg ?_|refine sCons ?_|refine sNil ?_|refine pBlock ?_|refine pSkip ?_|refine pExit ?_|refine pRet ?_|refine pCond ?_|refine gNone ?_|refine gOn rfl ?_|refine gOff rfl rfl ?_|refine gTup rfl ?_))
  refine ld1_is rfl hA.cell rfl ?_
  (repeat(first|refine pSeq ?_|refine pReg ?_|refine sCons ?_|refine sNil ?_|refine pBlock ?_|refine pSkip ?_|refine pExit ?_|refine pRet ?_|refine pCond ?_|refine gNone ?_|refine gOn rfl ?_|refine gOff rfl rfl ?_|refine gTup rfl ?_))
  refine (h.on.crash hkI.1).mono fun v s1 q => ?_
  obtain ⟨rfl, B1, k1, ev1, c1, a1⟩ := q
  have hn1 := c1.next
  have in1 : ∀ id, PyIn x.W x.qs id → id ∉ whole d B1 := fun id q r => (a1 id r).elim (fun r => (h.off id q).1 r) (fun r => by have := (h.py.ge q).2; omega)
  have mod1 := c1.blk _ _ h.mlt hmb h.mod
  have mbB1 : mb ∉ whole d B1 := fun q => (a1 mb q).elim h.mg.2 (fun q => by omega)
  have py1 := h.py.chg' c1 (fun id q r => by
    obtain ⟨p1, p2, p3⟩ := h.off id q
    rcases List.mem_cons.1 r with r | r
    · exact p2 r
    · exact p1 (List.mem_append_left _ r))
  have acts1 := h.acts.chg c1 (loose_on h.on)
  have new1 := h.newD.al a1 h.next
  obtain ⟨zs, hsure⟩ := h.sure
  obtain ⟨n, r, hn1', hn2', hcon, htorn⟩ := torn_all (zs := a.kl) h.ws h.h60 (by omega) hsure
  have hnow : (x.D.crashed a.kl).now = ch 0#32 1#32 (x.all.take n) ++ r := hcon
  have full1 : (x.D.crashed a.kl).full = false := h.full
  have cap1 : (x.D.crashed a.kl).cap = 3000 := h.cap
  have hle : ∀ p ∈ x.all.take n, p.length ≤ 16384 := fun p hp => by have := h.h60 p (List.mem_of_mem_take hp); omega
  have ltk : (x.all.take n).length = n := by rw [List.length_take]; omega
  have hz0 := rcv_zero full1 k1.lnow
  (repeat(first|refine pSeq ?_|refine pReg ?_|refine sCons ?_|refine sNil ?_|refine pBlock ?_|refine pSkip ?_|refine pExit ?_|refine pRet ?_|refine pCond ?_|refine gNone ?_|refine gOn rfl ?_|refine gOff rfl rfl ?_|refine gTup rfl ?_))
  refine (recover_w k1 ev1.fine ev1.gl ev1.steps ev1.next (by simp [Dk.crashed])).mono fun v s2 q => ?_
  obtain ⟨B2, k2, c2, a2, q | ⟨-, g2, W2, cw2, gs, rfl, la2, hg2, py2, hgs, off2⟩⟩ := q
  · exact absurd hz0 q.1
  have hn2 := c2.next
  have ev2 := ev1.chg c2 (ev1.off k1)
  have f1 : ∀ id ∈ foot d B1, id ∈ whole d B1 := fun id q => List.mem_append_left _ q
  have mod2 := c2.blk _ _ (Nat.lt_of_lt_of_le h.mlt hn1) (fun q => mbB1 (f1 _ q)) mod1
  have pyA := py1.chg' c2 (fun id q r => in1 id q (f1 _ r))
  have acts2 := acts1.chg c2 (loose_dk k1)
  have hk2 := (acts2.ok a ha).2.1
  -- what was told: the first so many, and what came by chance
  have hext : ∃ ext, (recF (x.D.crashed a.kl)).map (·.p) = x.all.take n ++ ext ∧ (ext = [] ∧ openE (chS 0#32 1#32 (x.all.take n)) (1#32 + BitVec.ofNat 32 n) r ≠ 0 ∨ (∃ p' rest, ext = p' :: rest ∧ n < x.all.length ∧ p' ≠ x.all.getD n [] ∧ n - x.j < a.kl.length ∧
      openE (chS 0#32 1#32 (x.all.take n)) (1#32 + BitVec.ofNat 32 n) (tornL x.all n (kept a.kl (n - x.j))) = 0 ∧ oP (chS 0#32 1#32 (x.all.take n)) (1#32 + BitVec.ofNat 32 n) (tornL x.all n (kept a.kl (n - x.j))) = p')) := by
    have hL : ∀ (ps : PL) (a k : BitVec 32), ps.length ≤ (ch a k ps).length := by
      intro ps
      induction ps with
      | nil => intro a k; exact Nat.zero_le _
      | cons p ps ih => intro a k; have := ih (sumS a k p.length p) (k + 1#32); simp only [ch, List.length_append, sealS_len, List.length_cons]; omega
    have hL' := hL (x.all.take n) 0#32 1#32
    rw [ltk] at hL'
    have e : recF (x.D.crashed a.kl) = chF 0#32 1#32 (x.all.take n) ++ frs ((x.D.crashed a.kl).now.length - n) (chS 0#32 1#32 (x.all.take n)) (1#32 + BitVec.ofNat 32 n) r := by
      unfold recF
      have hl : (x.D.crashed a.kl).now.length = (ch 0#32 1#32 (x.all.take n) ++ r).length := by rw [hnow]
      rw [hnow, frs_ch _ _ _ _ hle (by rw [ltk, List.length_append]; omega), ltk]
    rw [e, List.map_append, chF_p]
    rcases htorn with ht | ⟨ht, t1, t2, t3, t4, t5⟩
    · exact ⟨[], by rw [frs_stop ht]; rfl, .inl ⟨rfl, ht⟩⟩
    · obtain ⟨o1, -, -, -⟩ := open_short ht
      obtain ⟨m, hm⟩ : ∃ m, (x.D.crashed a.kl).now.length - n = m + 1 := ⟨(x.D.crashed a.kl).now.length - n - 1, by rw [hnow, List.length_append]; omega⟩
      rw [hm, frs_more ht]
      exact ⟨_, rfl, .inr ⟨_, _, rfl, t1, t2, t3, t4, t5⟩⟩
  obtain ⟨ext, hext, hcase⟩ := hext
  rw [hext] at hgs
  have lgs : gs.length = n + ext.length := by
    have := congrArg List.length hgs
    rw [List.length_map, List.length_append, ltk] at this
    exact this
  (repeat(first|refine pSeq ?_|refine pReg ?_|refine sCons ?_|refine sNil ?_|refine pBlock ?_|refine pSkip ?_|refine pExit ?_|refine pRet ?_|refine pCond ?_|refine gNone ?_|refine gOn rfl ?_|refine gOff rfl rfl ?_|refine gTup rfl ?_))
  intro q hq
  obtain rfl : q = false := by rw [hq]; rfl
  (repeat(first|refine pSeq ?_|refine pReg ?_|refine sCons ?_|refine sNil ?_|refine pBlock ?_|refine pSkip ?_|refine pExit ?_|refine pRet ?_|refine pCond ?_|refine gNone ?_|refine gOn rfl ?_|refine gOff rfl rfl ?_|refine gTup rfl ?_))
  intro q hq
  obtain rfl : q = false := by rw [hq] <;> rfl
  (repeat(first|refine pSeq ?_|refine pReg ?_|refine sCons ?_|refine sNil ?_|refine pBlock ?_|refine pSkip ?_|refine pExit ?_|refine pRet ?_|refine pCond ?_|refine gNone ?_|refine gOn rfl ?_|refine gOff rfl rfl ?_|refine gTup rfl ?_))
  refine ldI_is rfl mod2 rfl ?_
  (repeat(first|refine pSeq ?_|refine pReg ?_|refine sCons ?_|refine sNil ?_|refine pBlock ?_|refine pSkip ?_|refine pExit ?_|refine pRet ?_|refine pCond ?_|refine gNone ?_|refine gOn rfl ?_|refine gOff rfl rfl ?_|refine gTup rfl ?_))
  intro q hq
  obtain rfl : q = false := by rw [hq]; simp <;> omega
  (repeat(first|refine pSeq ?_|refine pReg ?_|refine sCons ?_|refine sNil ?_|refine pBlock ?_|refine pSkip ?_|refine pExit ?_|refine pRet ?_|refine pCond ?_|refine gNone ?_|refine gOn rfl ?_|refine gOff rfl rfl ?_|refine gTup rfl ?_))
  have gRow := py2.row'
  have aRow := pyA.row'
  have lim : gs.length < 4294967296 := by
    have h1 : gs.length * 10 ≤ (x.D.crashed a.kl).now.length := by
      have e : gs.length = (recF (x.D.crashed a.kl)).length := by
        have := congrArg List.length hext
        rw [List.length_map, List.length_append, ltk] at this
        omega
      rw [e]
      exact frs_len _ _ _ _
    have h2 := k1.lnow
    rw [cap1] at h2
    omega
  refine pLoop (MW.head good (fun i => gs.length - i) (fun i => i ≤ n) (fun i => (9, .pointer (some ⟨ab, 0, none⟩)) :: (12, .slice a.kb a.kl.length 0) :: (13, .pointer (some ⟨g2, 0, none⟩)) :: (14, .slice W2 gs.length cw2) :: (127, .slice W2 gs.length cw2) :: (128, .int .i64 gs.length) :: (129, .int .i64 i) :: svT d mb ob fw.length x.i x.g) (fun _ => s2) 0 (Nat.zero_le _) (Wk.same ⟨rfl, rfl, rfl, rfl, rfl, rfl, rfl, rfl, rfl, rfl, rfl, rfl, rfl, rfl, trivial⟩) ?_)
  intro i hin
  unfold svT
  (repeat(first|refine pSeq ?_|refine pReg ?_|refine sCons ?_|refine sNil ?_|refine pBlock ?_|refine pSkip ?_|refine pExit ?_|refine pRet ?_|refine pCond ?_|refine gNone ?_|refine gOn rfl ?_|refine gOff rfl rfl ?_|refine gTup rfl ?_))
  intro q hq
  by_cases hlt : i < gs.length
  · obtain rfl : q = true := by rw [hq]; simp [hlt]
    obtain ⟨p, hp⟩ : ∃ p, gs[i]? = some p := ⟨_, List.getElem?_eq_getElem hlt⟩
    obtain ⟨b, rfl, cs, t, gg, rr, p1, p2⟩ := gRow.at hp
    have prd := gRow.2 p (List.mem_of_getElem? hp)
    have hpe : (x.all.take n ++ ext)[i]? = some p.2.2 := by rw [← hgs, List.getElem?_map, hp]; rfl
    have hall : i < x.all.length := by
      by_cases q : i < n
      · omega
      · rcases hcase with ⟨rfl, -⟩ | ⟨p', rest, rfl, t1, -⟩
        · have l0 := lgs
          simp only [List.length_nil, Nat.add_zero] at l0
          omega
        · omega
    obtain ⟨c, hc⟩ : ∃ c, x.qs[i]? = some c := ⟨_, List.getElem?_eq_getElem (by omega)⟩
    obtain ⟨b', hb', cs', t', gg', rr', p3, p4⟩ := aRow.at hc
    have crd := aRow.2 c (List.mem_of_getElem? hc)
    have hce : x.all[i]? = some c.2.2 := by rw [← h.pq, List.getElem?_map, hc]; rfl
    (repeat(first|refine pSeq ?_|refine pReg ?_|refine sCons ?_|refine sNil ?_|refine pBlock ?_|refine pSkip ?_|refine pExit ?_|refine pRet ?_|refine pCond ?_|refine gNone ?_|refine gOn rfl ?_|refine gOff rfl rfl ?_|refine gTup rfl ?_))
    refine ⟨by omega, ?_⟩
    intro m hm o ho
    obtain rfl : m = i := by omega
    (repeat(first|refine pSeq ?_|refine pReg ?_|refine sCons ?_|refine sNil ?_|refine pBlock ?_|refine pSkip ?_|refine pExit ?_|refine pRet ?_|refine pCond ?_|refine gNone ?_|refine gOn rfl ?_|refine gOff rfl rfl ?_|refine gTup rfl ?_))
    refine ld1_is rfl p1 (by rw [ho, Nat.mul_one, Nat.zero_add]; exact p2) ?_
    (repeat(first|refine pSeq ?_|refine pReg ?_|refine sCons ?_|refine sNil ?_|refine pBlock ?_|refine pSkip ?_|refine pExit ?_|refine pRet ?_|refine pCond ?_|refine gNone ?_|refine gOn rfl ?_|refine gOff rfl rfl ?_|refine gTup rfl ?_))
    refine ld1_is rfl mod2 rfl ?_
    (repeat(first|refine pSeq ?_|refine pReg ?_|refine sCons ?_|refine sNil ?_|refine pBlock ?_|refine pSkip ?_|refine pExit ?_|refine pRet ?_|refine pCond ?_|refine gNone ?_|refine gOn rfl ?_|refine gOff rfl rfl ?_|refine gTup rfl ?_))
    intro q hq
    obtain rfl : q = false := by rw [hq]; simp; omega
    (repeat(first|refine pSeq ?_|refine pReg ?_|refine sCons ?_|refine sNil ?_|refine pBlock ?_|refine pSkip ?_|refine pExit ?_|refine pRet ?_|refine pCond ?_|refine gNone ?_|refine gOn rfl ?_|refine gOff rfl rfl ?_|refine gTup rfl ?_))
    refine ld1_is rfl mod2 rfl ?_
    rw [hb']
    (repeat(first|refine pSeq ?_|refine pReg ?_|refine sCons ?_|refine sNil ?_|refine pBlock ?_|refine pSkip ?_|refine pExit ?_|refine pRet ?_|refine pCond ?_|refine gNone ?_|refine gOn rfl ?_|refine gOff rfl rfl ?_|refine gTup rfl ?_))
    refine ⟨by omega, ?_⟩
    intro m2 hm2 o2 ho2
    obtain rfl : m2 = m := by omega
    (repeat(first|refine pSeq ?_|refine pReg ?_|refine sCons ?_|refine sNil ?_|refine pBlock ?_|refine pSkip ?_|refine pExit ?_|refine pRet ?_|refine pCond ?_|refine gNone ?_|refine gOn rfl ?_|refine gOff rfl rfl ?_|refine gTup rfl ?_))
    refine ld1_is rfl p3 (by rw [ho2, Nat.mul_one, Nat.zero_add]; exact p4) ?_
    (repeat(first|refine pSeq ?_|refine pReg ?_|refine sCons ?_|refine sNil ?_|refine pBlock ?_|refine pSkip ?_|refine pExit ?_|refine pRet ?_|refine pCond ?_|refine gNone ?_|refine gOn rfl ?_|refine gOff rfl rfl ?_|refine gTup rfl ?_))
    refine (equal_w prd crd).mono fun v s3 q => ?_
    obtain ⟨hv, rfl⟩ := q
    by_cases hmn : m2 < n
    · have e : p.2.2 = c.2.2 := by
        rw [List.getElem?_append_left (by omega), List.getElem?_take, if_pos hmn, hce] at hpe
        exact (Option.some.inj hpe).symm
      obtain rfl : v = .bool true := by rw [hv, e]; simp
      (repeat(first|refine pSeq ?_|refine pReg ?_|refine sCons ?_|refine sNil ?_|refine pBlock ?_|refine pSkip ?_|refine pExit ?_|refine pRet ?_|refine pCond ?_|refine gNone ?_|refine gOn rfl ?_|refine gOff rfl rfl ?_|refine gTup rfl ?_))
      intro q hq
      obtain rfl : q = false := by rw [hq]; rfl
      (repeat(first|refine pSeq ?_|refine pReg ?_|refine sCons ?_|refine sNil ?_|refine pBlock ?_|refine pSkip ?_|refine pExit ?_|refine pRet ?_|refine pCond ?_|refine gNone ?_|refine gOn rfl ?_|refine gOff rfl rfl ?_|refine gTup rfl ?_))
      intro z hz
      rw [i64_id (by omega)] at hz
      subst hz
      (repeat(first|refine pSeq ?_|refine pReg ?_|refine sCons ?_|refine sNil ?_|refine pBlock ?_|refine pSkip ?_|refine pExit ?_|refine pRet ?_|refine pCond ?_|refine gNone ?_|refine gOn rfl ?_|refine gOff rfl rfl ?_|refine gTup rfl ?_))
      exact ⟨m2 + 1, hmn, by show gs.length - (m2 + 1) < gs.length - m2; omega, Wk.same ⟨rfl, rfl, rfl, rfl, rfl, rfl, rfl, rfl, rfl, rfl, rfl, rfl, rfl, rfl, trivial⟩⟩
    · obtain rfl : m2 = n := by omega
      obtain ⟨p', rest, rfl, t1, t2, t3, t4, t5⟩ := hcase.resolve_left (fun q => by
        have l0 := lgs
        rw [q.1, List.length_nil] at l0
        omega)
      have ep : p.2.2 = p' := by
        rw [List.getElem?_append_right (by omega), ltk, Nat.sub_self] at hpe
        exact (Option.some.inj hpe).symm
      have ec : x.all.getD m2 [] = c.2.2 := by rw [List.getD, hce]; rfl
      obtain rfl : v = .bool false := by rw [hv, decide_eq_false (by rw [ep, ← ec]; exact t2)]
      (repeat(first|refine pSeq ?_|refine pReg ?_|refine sCons ?_|refine sNil ?_|refine pBlock ?_|refine pSkip ?_|refine pExit ?_|refine pRet ?_|refine pCond ?_|refine gNone ?_|refine gOn rfl ?_|refine gOff rfl rfl ?_|refine gTup rfl ?_))
      intro q hq
      obtain rfl : q = true := by rw [hq]; rfl
      (repeat(first|refine pSeq ?_|refine pReg ?_|refine sCons ?_|refine sNil ?_|refine pBlock ?_|refine pSkip ?_|refine pExit ?_|refine pRet ?_|refine pCond ?_|refine gNone ?_|refine gOn rfl ?_|refine gOff rfl rfl ?_|refine gTup rfl ?_))
      refine ldN_is (new := [.slice x.W x.qs.length x.cw, .int .i64 x.j]) rfl mod2 rfl ?_
      (repeat(first|refine pSeq ?_|refine pReg ?_|refine sCons ?_|refine sNil ?_|refine pBlock ?_|refine pSkip ?_|refine pExit ?_|refine pRet ?_|refine pCond ?_|refine gNone ?_|refine gOn rfl ?_|refine gOff rfl rfl ?_|refine gTup rfl ?_))
      have h60q : ∀ q ∈ x.qs, q.2.2.length ≤ 60 := fun q hq => h.h60 _ (by rw [← h.pq]; exact List.mem_map.2 ⟨q, hq, rfl⟩)
      refine (chance_w (j := x.j) (k := m2) (gl := p.2.2) (zs := a.kl) ev2 aRow (by omega) h60q (by omega) (by omega) t3 (by omega) hk2.1 prd (by rw [h.pq]; exact t4) (by rw [h.pq, t5, ep])).mono fun v s4 q => ?_
      subst q
      (repeat(first|refine pSeq ?_|refine pReg ?_|refine sCons ?_|refine sNil ?_|refine pBlock ?_|refine pSkip ?_|refine pExit ?_|refine pRet ?_|refine pCond ?_|refine gNone ?_|refine gOn rfl ?_|refine gOff rfl rfl ?_|refine gTup rfl ?_))
      exact .inr ⟨rfl, rfl⟩
  · obtain rfl : q = false := by rw [hq]; simp; omega
    have e0 : ext = [] := List.eq_nil_of_length_eq_zero (by omega)
    obtain ⟨-, hstop⟩ : ext = [] ∧ openE (chS 0#32 1#32 (x.all.take n)) (1#32 + BitVec.ofNat 32 n) r ≠ 0 := hcase.resolve_right (fun ⟨p', rest, q, _⟩ => by rw [q] at e0; cases e0)
    subst e0
    have lgn : gs.length = n := by simpa using lgs
    have hd : rcv (x.D.crashed a.kl) = (0, ⟨3000, false, ch 0#32 1#32 (x.all.take n) ++ List.replicate r.length 0, ch 0#32 1#32 (x.all.take n) ++ List.replicate r.length 0, []⟩) := by
      rw [rcv_ok hle hnow (by rw [ltk]; exact hstop) rfl (.inl full1) k1.lnow, full1, cap1]
    rw [hd] at k2
    have la2' : LAt s2 g2 d (lgS (x.all.take n) n) := by
      have e := recF_is hle hnow (by rw [ltk]; exact hstop)
      rw [e, after_ch, lgS_synced, ltk] at la2
      exact la2
    (repeat(first|refine pSeq ?_|refine pReg ?_|refine sCons ?_|refine sNil ?_|refine pBlock ?_|refine pSkip ?_|refine pExit ?_|refine pRet ?_|refine pCond ?_|refine gNone ?_|refine gOn rfl ?_|refine gOff rfl rfl ?_|refine gTup rfl ?_))
    refine ld1_is rfl mod2 rfl ?_
    (repeat(first|refine pSeq ?_|refine pReg ?_|refine sCons ?_|refine sNil ?_|refine pBlock ?_|refine pSkip ?_|refine pExit ?_|refine pRet ?_|refine pCond ?_|refine gNone ?_|refine gOn rfl ?_|refine gOff rfl rfl ?_|refine gTup rfl ?_))
    refine slL_rowT (m := n) pyA.row rfl rfl (by rw [lgn]) (by omega) ?_
    (repeat(first|refine pSeq ?_|refine pReg ?_|refine sCons ?_|refine sNil ?_|refine pBlock ?_|refine pSkip ?_|refine pExit ?_|refine pRet ?_|refine pCond ?_|refine gNone ?_|refine gOn rfl ?_|refine gOff rfl rfl ?_|refine gTup rfl ?_))
    refine st_abs rfl rfl mod2 (by omega) rfl rfl fun s3 m3 c3 n3 => ?_
    (repeat(first|refine pSeq ?_|refine pReg ?_|refine sCons ?_|refine sNil ?_|refine pBlock ?_|refine pSkip ?_|refine pExit ?_|refine pRet ?_|refine pCond ?_|refine gNone ?_|refine gOn rfl ?_|refine gOff rfl rfl ?_|refine gTup rfl ?_))
    refine st_abs rfl rfl m3 (by omega) rfl rfl fun s4 m4 c4 n4 => ?_
    have o2 : On s2 g2 d ⟨3000, false, ch 0#32 1#32 (x.all.take n) ++ List.replicate r.length 0, ch 0#32 1#32 (x.all.take n) ++ List.replicate r.length 0, []⟩ B2 (x.all.take n) n r.length := ⟨ev2, la2', k2, rfl, hle, rfl⟩
    have mbB2 : mb ∉ whole d B2 := fun q => (a2 mb q).elim mbB1 (fun q => by omega)
    have in2 : ∀ id, PyIn x.W x.qs id → id ∉ whole d B2 := fun id q r => (a2 id r).elim (fun r => in1 id q r) (fun r => by have := (h.py.ge q).2; omega)
    have c34 : Chg s2 s4 [mb] := c3.trans' c4 (fun id q _ => q) (fun id q _ => q)
    have hn4 := c34.next
    have hst := h.next
    have sub : ∀ id, PyIn x.W (x.qs.take n) id → PyIn x.W x.qs id := fun id q => q.imp (fun q => q) (fun ⟨p, hp, q⟩ => ⟨p, List.mem_of_mem_take hp, q⟩)
    have ltq : (x.qs.take n).length = n := by rw [List.length_take]; omega
    have hY : SvI s0 d mb ob fw { i := x.i + 1, g := g2, all := x.all.take n, j := n, W := x.W, cw := x.cw, qs := x.qs.take n, D := ⟨3000, false, ch 0#32 1#32 (x.all.take n) ++ List.replicate r.length 0, ch 0#32 1#32 (x.all.take n) ++ List.replicate r.length 0, []⟩, B := B2, z := r.length, s := s4 } := by
      refine ⟨?_, new1.al a2 (by omega), by show s0.next ≤ g2; omega, by show s0.next ≤ s4.next; omega, rfl, rfl, ⟨r.length, ?_⟩, ?_, ?_, ?_, ?_, by show mb < s4.next; omega, h.mge, ?_, ?_, ?_, ?_, ⟨by show mb ≠ g2; omega, mbB2⟩⟩
      · exact o2.chg c34 (by simp only [List.mem_singleton]; intro e; exact type_ne ev2.steps mod2 (by decide) e) (by simp only [List.mem_singleton]; omega) (fun id q r => mbB2 (by simp only [List.mem_singleton] at r; rw [← r]; exact q))
      · show _ = ch 0#32 1#32 ((x.all.take n).take n) ++ _
        rw [List.take_take, Nat.min_self]
      · have := Ws.none (x.all.take n)
        rw [ltk] at this
        exact this
      · intro p hp; exact h.h60 p (List.mem_of_mem_take hp)
      · show (x.all.take n).length ≤ x.i + 1
        rw [ltk]; omega
      · show lookH s4.heap mb = some (.cells [.slice x.W (x.qs.take n).length x.cw, .int .i64 n] tMd false false)
        rw [ltq, m4, lgn]
      · exact (pyA.cut n (by omega)).chg' c34 (fun id q r => (h.off id (sub id q)).2.2 (by simpa using r))
      · show (x.qs.take n).map (fun q : Py => q.2.2) = x.all.take n
        rw [List.map_take, h.pq]
      · intro id q
        exact ⟨in2 id (sub id q), by have := (h.py.ge (sub id q)).2; show id ≠ g2; omega, (h.off id (sub id q)).2.2⟩
      · exact acts2.chg c34 (.cons mod2 (by decide) (.nil _))
    (repeat(first|refine pSeq ?_|refine pReg ?_|refine sCons ?_|refine sNil ?_|refine pBlock ?_|refine pSkip ?_|refine pExit ?_|refine pRet ?_|refine pCond ?_|refine gNone ?_|refine gOn rfl ?_|refine gOff rfl rfl ?_|refine gTup rfl ?_))
    exact .inl ⟨rfl, _, hY, rfl, Wk.same ⟨rfl, rfl, rfl, rfl, rfl, rfl, rfl, trivial⟩⟩
end Go.Vf.S
