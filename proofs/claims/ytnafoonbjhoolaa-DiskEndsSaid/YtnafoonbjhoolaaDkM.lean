import Derived.Test.YtnafoonbjhoolaaDkL
/- What the law DiskEnds says, from any state. -/
namespace Go.Vf.S
open Go Go.Vf
attribute [local irreducible] wSeq wRow wp
set_option linter.unusedVariables false
set_option linter.unusedSimpArgs false
set_option maxRecDepth 10000

set_option maxHeartbeats 4000000 in
theorem ends_w {s : SS} {lb mb : Option Addr} {l more : List AV} (hl : InA s lb l) (hm : InA s mb more) (hf : Fine s) (hg : s.gl = 0) :
    CallW pr n_law01_DiskEnds [.slice lb l.length 0, .slice mb more.length 0] s fun v _ => v = .bool true := by
  refine CallW.run good ok_law01_DiskEnds (by simp) rfl ?_
  (repeat (first | refine pSeq ?_ | refine pReg ?_ | refine sRaw ?_ | refine sCons ?_ | refine sNil ?_ | refine rCons ?_ | refine rNil ?_ | refine kNo ?_ | refine pRow ?_ | refine pBlock ?_ | refine pSkip ?_ | refine pExit ?_ | refine pRet ?_ | refine pCond ?_ | refine gNone ?_ | refine gOn rfl ?_ | refine gOff rfl rfl ?_))
  refine (run_w hl hf).mono fun v s1 q => ?_
  obtain ⟨d, B, rfl, h1, c1, nB, lB⟩ := q
  have hm1 := hm.chg0 c1
  have hI1 := inv_runV l
  have hcap := runV_cap l
  generalize runV l = A at *
  (repeat (first | refine pSeq ?_ | refine pReg ?_ | refine sRaw ?_ | refine sCons ?_ | refine sNil ?_ | refine rCons ?_ | refine rNil ?_ | refine kNo ?_ | refine pRow ?_ | refine pBlock ?_ | refine pSkip ?_ | refine pExit ?_ | refine pRet ?_ | refine pCond ?_ | refine gNone ?_ | refine gOn rfl ?_ | refine gOff rfl rfl ?_))
  intro q hq
  obtain rfl : q = false := hq
  (repeat (first | refine pSeq ?_ | refine pReg ?_ | refine sRaw ?_ | refine sCons ?_ | refine sNil ?_ | refine rCons ?_ | refine rNil ?_ | refine kNo ?_ | refine pRow ?_ | refine pBlock ?_ | refine pSkip ?_ | refine pExit ?_ | refine pRet ?_ | refine pCond ?_ | refine gNone ?_ | refine gOn rfl ?_ | refine gOff rfl rfl ?_))
  refine (sync_w h1).mono fun v s2 q => ?_
  obtain ⟨rfl, B2, h2, st2, w2⟩ := q
  have hm2 := h1.inA st2 hm1
  (repeat (first | refine pSeq ?_ | refine pReg ?_ | refine sRaw ?_ | refine sCons ?_ | refine sNil ?_ | refine rCons ?_ | refine rNil ?_ | refine kNo ?_ | refine pRow ?_ | refine pBlock ?_ | refine pSkip ?_ | refine pExit ?_ | refine pRet ?_ | refine pCond ?_ | refine gNone ?_ | refine gOn rfl ?_ | refine gOff rfl rfl ?_))
  intro q hq
  obtain rfl : q = false := by rw [hq]; simp
  (repeat (first | refine pSeq ?_ | refine pReg ?_ | refine sRaw ?_ | refine sCons ?_ | refine sNil ?_ | refine rCons ?_ | refine rNil ?_ | refine kNo ?_ | refine pRow ?_ | refine pBlock ?_ | refine pSkip ?_ | refine pExit ?_ | refine pRet ?_ | refine pCond ?_ | refine gNone ?_ | refine gOn rfl ?_ | refine gOff rfl rfl ?_))
  refine (fill_w h2 false).mono fun v s3 q => ?_
  obtain ⟨rfl, h3, st3⟩ := q
  have hm3 := h2.inA st3 hm2
  have f3 : Fine s3 := st3.chg.fine (st2.chg.fine (c1.fine hf))
  obtain ⟨A3, hA3⟩ : ∃ A3, A3 = ({ A.synced with full := false } : Dk) := ⟨_, rfl⟩
  rw [← hA3] at h3
  have i3 : A3.Inv := by rw [hA3]; exact inv_synced hI1
  have ws3 : A3.ws = [] := by rw [hA3]; rfl
  have sure3 : A3.now = A3.sure := by
    have := i3
    unfold Dk.Inv at this
    rw [ws3] at this
    exact this
  have hcap3 := h3.cap
  have hnow3 := h3.lnow
  (repeat (first | refine pSeq ?_ | refine pReg ?_ | refine sRaw ?_ | refine sCons ?_ | refine sNil ?_ | refine rCons ?_ | refine rNil ?_ | refine kNo ?_ | refine pRow ?_ | refine pBlock ?_ | refine pSkip ?_ | refine pExit ?_ | refine pRet ?_ | refine pCond ?_ | refine gNone ?_ | refine gOn rfl ?_ | refine gOff rfl rfl ?_))
  refine (read_w h3 (by decide)).mono fun v s4 q => ?_
  obtain ⟨T1, rfl, o4, n4, c4⟩ := q
  rw [read_all (by omega)] at *
  have h4 := h3.chg c4 (fun _ _ => by simp)
  have n4' : ∀ id ∈ blkOf T1, id ∉ whole d B2 := n4.not h3
  (repeat (first | refine pSeq ?_ | refine pReg ?_ | refine sRaw ?_ | refine sCons ?_ | refine sNil ?_ | refine rCons ?_ | refine rNil ?_ | refine kNo ?_ | refine pRow ?_ | refine pBlock ?_ | refine pSkip ?_ | refine pExit ?_ | refine pRet ?_ | refine pCond ?_ | refine gNone ?_ | refine gOn rfl ?_ | refine gOff rfl rfl ?_))
  refine (few_w (m := 20) (hm3.chg0 c4) (c4.fine f3) (by decide)).mono fun v s5 q => ?_
  obtain ⟨ob, rfl, ho, hno, c5⟩ := q
  have h5 := h4.chg c5 (fun _ _ => by simp)
  have o5 := o4.chg c5 (fun _ _ => by simp)
  have f5 := c5.fine (c4.fine f3)
  have hfl : (fewV 20 more).length ≤ 20 := by simp [fewV]; omega
  have hacts : ∀ a ∈ fewV 20 more, ActOk s5 a ∧ a.bl.length ≤ 40 := by
    intro a ha
    obtain ⟨x, hx, rfl⟩ := List.mem_map.1 ha
    refine ⟨((hm3.2.1 x (List.mem_of_mem_take hx)).chg (c4.nil c5) (fun _ _ => by simp)).cut, ?_⟩
    show (x.bl.take 40).length ≤ 40
    rw [List.length_take]
    omega
  generalize hfw : fewV 20 more = fw at *
  have hwl : B2.wl.length = 0 := by rw [w2]; rfl
  (repeat (first | refine pSeq ?_ | refine pReg ?_ | refine sRaw ?_ | refine sCons ?_ | refine sNil ?_ | refine rCons ?_ | refine rNil ?_ | refine kNo ?_ | refine pRow ?_ | refine pBlock ?_ | refine pSkip ?_ | refine pExit ?_ | refine pRet ?_ | refine pCond ?_ | refine gNone ?_ | refine gOn rfl ?_ | refine gOff rfl rfl ?_))
  refine pLoop (MW.head good (fun x : RunS => fw.length - x.i) (WrI s5 d A3 B2 fw)
    (fun x => [(5, .pointer (some ⟨d, 0, none⟩)), (6, .slice T1 A3.now.length 0), (7, .slice none 0 0), (26, .slice ob fw.length 0), (27, .int .i64 fw.length), (28, .int .i64 x.i)]) (fun x => x.s) ⟨0, s5, B2⟩
    ⟨Nat.zero_le _, h5, .refl _ _ _, Nat.le_refl _⟩ ?_ ?_)
  · exact Wk.same ⟨rfl, rfl, rfl, rfl, rfl, rfl, trivial⟩
  intro ⟨i, s6, B6⟩ hI
  obtain ⟨hi, h6, st6, few6⟩ := hI
  dsimp only at hi h6 st6 few6 ⊢
  have f6 := st6.chg.fine f5
  obtain ⟨ho6, ha6⟩ := h5.acts st6 ho (fun a ha => (hacts a ha).1)
  (repeat (first | refine pSeq ?_ | refine pReg ?_ | refine sRaw ?_ | refine sCons ?_ | refine sNil ?_ | refine rCons ?_ | refine rNil ?_ | refine kNo ?_ | refine pRow ?_ | refine pBlock ?_ | refine pSkip ?_ | refine pExit ?_ | refine pRet ?_ | refine pCond ?_ | refine gNone ?_ | refine gOn rfl ?_ | refine gOff rfl rfl ?_))
  intro q hq
  by_cases hlt : i < fw.length
  · obtain rfl : q = true := by rw [hq]; simp; omega
    obtain ⟨b, g, rfl, hb⟩ := ho6.pos (by omega)
    (repeat (first | refine pSeq ?_ | refine pReg ?_ | refine sRaw ?_ | refine sCons ?_ | refine sNil ?_ | refine rCons ?_ | refine rNil ?_ | refine kNo ?_ | refine pRow ?_ | refine pBlock ?_ | refine pSkip ?_ | refine pExit ?_ | refine pRet ?_ | refine pCond ?_ | refine gNone ?_ | refine gOn rfl ?_ | refine gOff rfl rfl ?_))
    refine ⟨⟨by omega, Int.ofNat_lt.2 hlt⟩, ?_⟩
    intro k hk o hof
    obtain rfl : k = i := by omega
    rw [Nat.zero_add] at hof
    subst hof
    (repeat (first | refine pSeq ?_ | refine pReg ?_ | refine sRaw ?_ | refine sCons ?_ | refine sNil ?_ | refine rCons ?_ | refine rNil ?_ | refine kNo ?_ | refine pRow ?_ | refine pBlock ?_ | refine pSkip ?_ | refine pExit ?_ | refine pRet ?_ | refine pCond ?_ | refine gNone ?_ | refine gOn rfl ?_ | refine gOff rfl rfl ?_))
    refine ldN_is rfl hb (aCells_at hlt) ?_
    (repeat (first | refine pSeq ?_ | refine pReg ?_ | refine sRaw ?_ | refine sCons ?_ | refine sNil ?_ | refine rCons ?_ | refine rNil ?_ | refine kNo ?_ | refine pRow ?_ | refine pBlock ?_ | refine pSkip ?_ | refine pExit ?_ | refine pRet ?_ | refine pCond ?_ | refine gNone ?_ | refine gOn rfl ?_ | refine gOff rfl rfl ?_))
    have cA := Chg.new (s := s6) (b := .cells [.int .i64 0, .int .i64 0, .int .i64 0, .slice none 0 0, .slice none 0 0] tA false false) []
    refine st_abs (cs' := aCell fw[k]) rfl rfl lkH (Nat.lt_succ_self _) rfl rfl fun s7 hbox c7 hn7 => ?_
    have hn7 : s7.next = s6.next + 1 := hn7
    have c67 : Chg s6 s7 [] := cA.fresh c7 (fun id q => by simp at q; omega)
    have h7 := h6.chg c67 (fun _ _ => by simp)
    have hact := (ha6 _ (List.getElem_mem hlt)).chg c67 (fun _ _ => by simp)
    have hbl := (hacts _ (List.getElem_mem hlt)).2
    (repeat (first | refine pSeq ?_ | refine pReg ?_ | refine sRaw ?_ | refine sCons ?_ | refine sNil ?_ | refine rCons ?_ | refine rNil ?_ | refine kNo ?_ | refine pRow ?_ | refine pBlock ?_ | refine pSkip ?_ | refine pExit ?_ | refine pRet ?_ | refine pCond ?_ | refine gNone ?_ | refine gOn rfl ?_ | refine gOff rfl rfl ?_))
    refine ldI_is (z := fw[k].pos) rfl hbox rfl ?_
    (repeat (first | refine pSeq ?_ | refine pReg ?_ | refine sRaw ?_ | refine sCons ?_ | refine sNil ?_ | refine rCons ?_ | refine rNil ?_ | refine kNo ?_ | refine pRow ?_ | refine pBlock ?_ | refine pSkip ?_ | refine pExit ?_ | refine pRet ?_ | refine pCond ?_ | refine gNone ?_ | refine gOn rfl ?_ | refine gOff rfl rfl ?_))
    refine ld1_is (v := .slice fw[k].bb fw[k].bl.length 0) rfl hbox rfl ?_
    (repeat (first | refine pSeq ?_ | refine pReg ?_ | refine sRaw ?_ | refine sCons ?_ | refine sNil ?_ | refine rCons ?_ | refine rNil ?_ | refine kNo ?_ | refine pRow ?_ | refine pBlock ?_ | refine pSkip ?_ | refine pExit ?_ | refine pRet ?_ | refine pCond ?_ | refine gNone ?_ | refine gOn rfl ?_ | refine gOff rfl rfl ?_))
    refine (write_w (cx := 0) h7 (c67.fine f6) hact.1.1.1 (by omega) (by omega) hact.2.2.1.2).mono fun v s8 q => ?_
    obtain ⟨rfl, B8, h8, st8, l8⟩ := q
    (repeat (first | refine pSeq ?_ | refine pReg ?_ | refine sRaw ?_ | refine sCons ?_ | refine sNil ?_ | refine rCons ?_ | refine rNil ?_ | refine kNo ?_ | refine pRow ?_ | refine pBlock ?_ | refine pSkip ?_ | refine pExit ?_ | refine pRet ?_ | refine pCond ?_ | refine gNone ?_ | refine gOn rfl ?_ | refine gOff rfl rfl ?_))
    intro z hz
    rw [i64_id (by omega)] at hz
    (repeat (first | refine pSeq ?_ | refine pReg ?_ | refine sRaw ?_ | refine sCons ?_ | refine sNil ?_ | refine rCons ?_ | refine rNil ?_ | refine kNo ?_ | refine pRow ?_ | refine pBlock ?_ | refine pSkip ?_ | refine pExit ?_ | refine pRet ?_ | refine pCond ?_ | refine gNone ?_ | refine gOn rfl ?_ | refine gOff rfl rfl ?_))
    refine ⟨⟨k + 1, s8, B8⟩, ⟨hlt, by dsimp only; rw [wroteAll_take hlt]; exact h8, st6.trans ((Step.of c67).trans st8), by dsimp only; omega⟩, by dsimp only; omega, Wk.same ⟨rfl, rfl, rfl, rfl, rfl, ?_, trivial⟩⟩
    subst hz
    rfl
  obtain rfl : q = false := by rw [hq]; simp; omega
  obtain rfl : i = fw.length := by omega
  rw [List.take_of_length_le (Nat.le_refl _)] at h6
  obtain ⟨i6, sure6, ws6⟩ := wroteAll_is fw A3 i3
  have len6 : ∀ w ∈ (A3.wroteAll fw).ws, w.2.length ≤ 40 := by
    intro w hw
    rcases ws6 w hw with q | ⟨a, ha, q⟩
    · rw [ws3] at q; cases q
    · rw [q]; exact (hacts a ha).2
  have o6 := o5.chg st6.chg (fun id q r => n4' id q (foot_whole r))
  generalize A3.wroteAll fw = A6 at *
  have hwl6 : A6.ws.length = B6.wl.length := by rw [← h6.ews, List.length_map]
  obtain ⟨n, hn⟩ : ∃ n, n = A6.ws.length := ⟨_, rfl⟩
  have hn20 : n ≤ 20 := by omega
  (repeat (first | refine pSeq ?_ | refine pReg ?_ | refine sRaw ?_ | refine sCons ?_ | refine sNil ?_ | refine rCons ?_ | refine rNil ?_ | refine kNo ?_ | refine pRow ?_ | refine pBlock ?_ | refine pSkip ?_ | refine pExit ?_ | refine pRet ?_ | refine pCond ?_ | refine gNone ?_ | refine gOn rfl ?_ | refine gOff rfl rfl ?_))
  refine (waits_w h6).mono fun v s6 q => ?_
  obtain ⟨rfl, rfl⟩ := q
  rw [← hn]
  (repeat (first | refine pSeq ?_ | refine pReg ?_ | refine sRaw ?_ | refine sCons ?_ | refine sNil ?_ | refine rCons ?_ | refine rNil ?_ | refine kNo ?_ | refine pRow ?_ | refine pBlock ?_ | refine pSkip ?_ | refine pExit ?_ | refine pRet ?_ | refine pCond ?_ | refine gNone ?_ | refine gOn rfl ?_ | refine gOff rfl rfl ?_))
  refine pLoop (MW.head good (fun x : FewS => n - x.i) (fun x => x.i ≤ n ∧ OwnR tI x.s x.ob 0 x.i (List.replicate x.i (.int .i64 40)) ∧ NewA s6 x.ob ∧ Chg s6 x.s [])
    (fun x => [(5, .pointer (some ⟨d, 0, none⟩)), (6, .slice T1 A3.now.length 0), (7, .slice x.ob x.i 0), (40, .int .i64 n), (41, .int .i64 x.i)]) (fun x => x.s) ⟨0, s6, none⟩
    ⟨Nat.zero_le _, ⟨rfl, rfl, rfl⟩, (fun id q => by simp [blkOf] at q), .refl _ _⟩ ?_ ?_)
  · exact Wk.same ⟨rfl, rfl, rfl, rfl, rfl, trivial⟩
  intro ⟨i, s7, kb⟩ ⟨hi, ok7, nk7, c7⟩
  dsimp only at hi ok7 nk7 c7 ⊢
  (repeat (first | refine pSeq ?_ | refine pReg ?_ | refine sRaw ?_ | refine sCons ?_ | refine sNil ?_ | refine rCons ?_ | refine rNil ?_ | refine kNo ?_ | refine pRow ?_ | refine pBlock ?_ | refine pSkip ?_ | refine pExit ?_ | refine pRet ?_ | refine pCond ?_ | refine gNone ?_ | refine gOn rfl ?_ | refine gOff rfl rfl ?_))
  intro q hq
  by_cases hlt : i < n
  · obtain rfl : q = true := by rw [hq]; simp; omega
    (repeat (first | refine pSeq ?_ | refine pReg ?_ | refine sRaw ?_ | refine sCons ?_ | refine sNil ?_ | refine rCons ?_ | refine rNil ?_ | refine kNo ?_ | refine pRow ?_ | refine pBlock ?_ | refine pSkip ?_ | refine pExit ?_ | refine pRet ?_ | refine pCond ?_ | refine gNone ?_ | refine gOn rfl ?_ | refine gOff rfl rfl ?_))
    have cN := Chg.new (s := s7) (b := .cells [.int .i64 40] tI false false) []
    refine appR (new := [.int .i64 40]) (ok7.chg cN (fun _ _ => by simp)) (by simp) ⟨by omega, by omega⟩ rfl rfl lkH rfl rfl fun s8 o8 c8 n8 => ?_
    have n8 : s8.next = s7.next + 1 + 1 := n8
    (repeat (first | refine pSeq ?_ | refine pReg ?_ | refine sRaw ?_ | refine sCons ?_ | refine sNil ?_ | refine rCons ?_ | refine rNil ?_ | refine kNo ?_ | refine pRow ?_ | refine pBlock ?_ | refine pSkip ?_ | refine pExit ?_ | refine pRet ?_ | refine pCond ?_ | refine gNone ?_ | refine gOn rfl ?_ | refine gOff rfl rfl ?_))
    intro z hz
    rw [i64_id (by omega)] at hz
    (repeat (first | refine pSeq ?_ | refine pReg ?_ | refine sRaw ?_ | refine sCons ?_ | refine sNil ?_ | refine rCons ?_ | refine rNil ?_ | refine kNo ?_ | refine pRow ?_ | refine pBlock ?_ | refine pSkip ?_ | refine pExit ?_ | refine pRet ?_ | refine pCond ?_ | refine gNone ?_ | refine gOn rfl ?_ | refine gOff rfl rfl ?_))
    refine ⟨⟨i + 1, s8, some ⟨s7.next + 1, 0, none⟩⟩, ⟨hlt, by dsimp only; rw [List.replicate_succ']; exact o8, ?_, c7.fresh (cN.nil c8) (fun id q => nk7 id q)⟩, by dsimp only; omega, Wk.same ⟨rfl, rfl, rfl, rfl, ?_, trivial⟩⟩
    · intro id q
      simp only [blkOf, List.mem_singleton] at q
      have := c7.next
      omega
    · subst hz
      rfl
  obtain rfl : q = false := by rw [hq]; simp; omega
  obtain rfl : i = n := by omega
  have h7 := h6.chg c7 (fun _ _ => by simp)
  have o7 := o6.chg c7 (fun _ _ => by simp)
  have f7 := c7.fine f6
  have k7 := rdi_row ok7
  have nk7' : ∀ id ∈ blkOf kb, id ∉ whole d B6 := h7.rdi k7
  (repeat (first | refine pSeq ?_ | refine pReg ?_ | refine sRaw ?_ | refine sCons ?_ | refine sNil ?_ | refine rCons ?_ | refine rNil ?_ | refine kNo ?_ | refine pRow ?_ | refine pBlock ?_ | refine pSkip ?_ | refine pExit ?_ | refine pRet ?_ | refine pCond ?_ | refine gNone ?_ | refine gOn rfl ?_ | refine gOff rfl rfl ?_))
  refine (copy_w h7 f7).mono fun v s8 q => ?_
  obtain ⟨d2, B8, rfl, g8, c8, nB8⟩ := q
  have h8 := h7.chg c8 (fun _ _ => by simp)
  have o8 := o7.chg c8 (fun _ _ => by simp)
  have k8 := k7.chg c8 (fun _ _ => by simp)
  have hcap8 := h8.cap
  have hnow8 := h8.lnow
  (repeat (first | refine pSeq ?_ | refine pReg ?_ | refine sRaw ?_ | refine sCons ?_ | refine sNil ?_ | refine rCons ?_ | refine rNil ?_ | refine kNo ?_ | refine pRow ?_ | refine pBlock ?_ | refine pSkip ?_ | refine pExit ?_ | refine pRet ?_ | refine pCond ?_ | refine gNone ?_ | refine gOn rfl ?_ | refine gOff rfl rfl ?_))
  refine (read_w h8 (by decide)).mono fun v s9 q => ?_
  obtain ⟨T2, rfl, t9, nT9, c9⟩ := q
  rw [read_all (by omega)] at *
  have h9 := h8.chg c9 (fun _ _ => by simp)
  have g9 := g8.chg c9 (fun _ _ => by simp)
  have o9 := o8.chg c9 (fun _ _ => by simp)
  have k9 := k8.chg c9 (fun _ _ => by simp)
  have f9 := c9.fine (c8.fine f7)
  have nT9' := nT9.not h8
  have nT9g := nT9.not g8
  have apart : ∀ id ∈ whole d2 B8, id ∉ whole d B6 := fun id q r => by have := nB8 id q; have := h7.blt id r; omega
  have oApart : ∀ id ∈ blkOf T1, id ∉ whole d B6 := fun id q r => by
    have := o5.lt id q
    rcases st6.al id r with r | r
    · exact n4' id q r
    · omega
  have oApart2 : ∀ id ∈ blkOf T1, id ∉ whole d2 B8 := fun id q r => by have := nB8 id r; have := o7.lt id q; omega
  (repeat (first | refine pSeq ?_ | refine pReg ?_ | refine sRaw ?_ | refine sCons ?_ | refine sNil ?_ | refine rCons ?_ | refine rNil ?_ | refine kNo ?_ | refine pRow ?_ | refine pBlock ?_ | refine pSkip ?_ | refine pExit ?_ | refine pRet ?_ | refine pCond ?_ | refine gNone ?_ | refine gOn rfl ?_ | refine gOff rfl rfl ?_))
  refine (crash_w h9 f9 k9).mono fun v s10 q => ?_
  obtain ⟨rfl, B10, h10, st10, w10⟩ := q
  have g10 := g9.chg st10.chg (fun id q r => apart id q (foot_whole r))
  have o10 := o9.chg st10.chg (fun id q r => oApart id q (foot_whole r))
  have t10 := t9.chg st10.chg (fun id q r => nT9' id q (foot_whole r))
  have f10 := st10.chg.fine f9
  (repeat (first | refine pSeq ?_ | refine pReg ?_ | refine sRaw ?_ | refine sCons ?_ | refine sNil ?_ | refine rCons ?_ | refine rNil ?_ | refine kNo ?_ | refine pRow ?_ | refine pBlock ?_ | refine pSkip ?_ | refine pExit ?_ | refine pRet ?_ | refine pCond ?_ | refine gNone ?_ | refine gOn rfl ?_ | refine gOff rfl rfl ?_))
  intro q hq
  obtain rfl : q = false := by rw [hq]; simp
  (repeat (first | refine pSeq ?_ | refine pReg ?_ | refine sRaw ?_ | refine sCons ?_ | refine sNil ?_ | refine rCons ?_ | refine rNil ?_ | refine kNo ?_ | refine pRow ?_ | refine pBlock ?_ | refine pSkip ?_ | refine pExit ?_ | refine pRet ?_ | refine pCond ?_ | refine gNone ?_ | refine gOn rfl ?_ | refine gOff rfl rfl ?_))
  refine ⟨⟨by omega, by omega, by omega, by omega⟩, ?_⟩
  intro m m' hm hm' cs hcs
  obtain rfl : m = i := by omega
  obtain rfl : m' = m := by omega
  rw [repeat_int] at hcs
  subst hcs
  (repeat (first | refine pSeq ?_ | refine pReg ?_ | refine sRaw ?_ | refine sCons ?_ | refine sNil ?_ | refine rCons ?_ | refine rNil ?_ | refine kNo ?_ | refine pRow ?_ | refine pBlock ?_ | refine pSkip ?_ | refine pExit ?_ | refine pRet ?_ | refine pCond ?_ | refine gNone ?_ | refine gOn rfl ?_ | refine gOff rfl rfl ?_))
  have cZ := Chg.new (s := s10) (b := .cells (List.replicate m' (.int .i64 0)) tI false false) []
  have kZ : RdI { s10 with heap := (s10.next, some (.cells (List.replicate m' (.int .i64 0)) tI false false)) :: s10.heap, next := s10.next + 1 } (some ⟨s10.next, 0, none⟩) m' (List.replicate m' 0) := by
    refine rdi_row (cw := m') ⟨rfl, rfl, Nat.lt_succ_self _, false, lkH, fun _ => rfl⟩
  have g11 := g10.chg cZ (fun _ _ => by simp)
  have h11 := h10.chg cZ (fun _ _ => by simp)
  refine (crash_w g11 (cZ.fine f10) kZ).mono fun v s12 q => ?_
  obtain ⟨rfl, B12, g12, st12, w12⟩ := q
  have apart2 : ∀ id ∈ whole d B10, id ∉ whole d2 B8 := fun id q r => by
    rcases st10.al id q with q | q
    · exact apart id r q
    · have := g9.blt id r; omega
  have h12 := h11.chg st12.chg (fun id q r => apart2 id q (foot_whole r))
  have o12 := (o10.chg cZ (fun _ _ => by simp)).chg st12.chg (fun id q r => oApart2 id q (foot_whole r))
  have t12 := (t10.chg cZ (fun _ _ => by simp)).chg st12.chg (fun id q r => nT9g id q (foot_whole r))
  (repeat (first | refine pSeq ?_ | refine pReg ?_ | refine sRaw ?_ | refine sCons ?_ | refine sNil ?_ | refine rCons ?_ | refine rNil ?_ | refine kNo ?_ | refine pRow ?_ | refine pBlock ?_ | refine pSkip ?_ | refine pExit ?_ | refine pRet ?_ | refine pCond ?_ | refine gNone ?_ | refine gOn rfl ?_ | refine gOff rfl rfl ?_))
  intro q hq
  obtain rfl : q = false := by rw [hq]; simp
  have e1 : (A6.crashed (List.replicate m' 40)).now = A6.now := by
    show lays (cutW A6.ws (List.replicate m' 40)) A6.sure = A6.now
    rw [hn, cutW_all len6]
    exact i6.symm
  have e2 : (A6.crashed (List.replicate m' 0)).now = A3.now := by
    show lays (cutW A6.ws (List.replicate m' 0)) A6.sure = A3.now
    rw [cutW_none, sure6, sure3]
  have hl12 := h12.lnow
  have hc12 := h12.cap
  have gl12 := g12.lnow
  have gc12 := g12.cap
  (repeat (first | refine pSeq ?_ | refine pReg ?_ | refine sRaw ?_ | refine sCons ?_ | refine sNil ?_ | refine rCons ?_ | refine rNil ?_ | refine kNo ?_ | refine pRow ?_ | refine pBlock ?_ | refine pSkip ?_ | refine pExit ?_ | refine pRet ?_ | refine pCond ?_ | refine gNone ?_ | refine gOn rfl ?_ | refine gOff rfl rfl ?_))
  refine (read_w h12 (by decide)).mono fun v s13 q => ?_
  obtain ⟨T3, rfl, t13, nT13, c13⟩ := q
  rw [read_all (by omega), e1] at *
  have g13 := g12.chg c13 (fun _ _ => by simp)
  have o13 := o12.chg c13 (fun _ _ => by simp)
  have t13' := t12.chg c13 (fun _ _ => by simp)
  (repeat (first | refine pSeq ?_ | refine pReg ?_ | refine sRaw ?_ | refine sCons ?_ | refine sNil ?_ | refine rCons ?_ | refine rNil ?_ | refine kNo ?_ | refine pRow ?_ | refine pBlock ?_ | refine pSkip ?_ | refine pExit ?_ | refine pRet ?_ | refine pCond ?_ | refine gNone ?_ | refine gOn rfl ?_ | refine gOff rfl rfl ?_))
  refine (equal_w t13.rdb t13'.rdb).mono fun v s13 q => ?_
  obtain ⟨rfl, rfl⟩ := q
  rw [decide_eq_true rfl]
  (repeat (first | refine pSeq ?_ | refine pReg ?_ | refine sRaw ?_ | refine sCons ?_ | refine sNil ?_ | refine rCons ?_ | refine rNil ?_ | refine kNo ?_ | refine pRow ?_ | refine pBlock ?_ | refine pSkip ?_ | refine pExit ?_ | refine pRet ?_ | refine pCond ?_ | refine gNone ?_ | refine gOn rfl ?_ | refine gOff rfl rfl ?_))
  refine (read_w g13 (by decide)).mono fun v s14 q => ?_
  obtain ⟨T4, rfl, t14, nT14, c14⟩ := q
  rw [read_all (by omega), e2] at *
  have o14 := o13.chg c14 (fun _ _ => by simp)
  (repeat (first | refine pSeq ?_ | refine pReg ?_ | refine sRaw ?_ | refine sCons ?_ | refine sNil ?_ | refine rCons ?_ | refine rNil ?_ | refine kNo ?_ | refine pRow ?_ | refine pBlock ?_ | refine pSkip ?_ | refine pExit ?_ | refine pRet ?_ | refine pCond ?_ | refine gNone ?_ | refine gOn rfl ?_ | refine gOff rfl rfl ?_))
  refine (equal_w t14.rdb o14.rdb).mono fun v s14 q => ?_
  obtain ⟨rfl, rfl⟩ := q
  rw [decide_eq_true rfl]
  have hgl : s14.gl = 0 := by
    rw [c14.gl, c13.gl, st12.chg.gl, cZ.gl, st10.chg.gl, c9.gl, c8.gl, c7.gl, st6.chg.gl, c5.gl, c4.gl, st3.chg.gl, st2.chg.gl, c1.gl, hg]
  (repeat (first | refine pSeq ?_ | refine pReg ?_ | refine sRaw ?_ | refine sCons ?_ | refine sNil ?_ | refine rCons ?_ | refine rNil ?_ | refine kNo ?_ | refine pRow ?_ | refine pBlock ?_ | refine pSkip ?_ | refine pExit ?_ | refine pRet ?_ | refine pCond ?_ | refine gNone ?_ | refine gOn rfl ?_ | refine gOff rfl rfl ?_))
  refine (wakes_w hgl).mono fun v s15 q => ?_
  obtain ⟨rfl, rfl⟩ := q
  (repeat (first | refine pSeq ?_ | refine pReg ?_ | refine sRaw ?_ | refine sCons ?_ | refine sNil ?_ | refine rCons ?_ | refine rNil ?_ | refine kNo ?_ | refine pRow ?_ | refine pBlock ?_ | refine pSkip ?_ | refine pExit ?_ | refine pRet ?_ | refine pCond ?_ | refine gNone ?_ | refine gOn rfl ?_ | refine gOff rfl rfl ?_))
  rfl
end Go.Vf.S
