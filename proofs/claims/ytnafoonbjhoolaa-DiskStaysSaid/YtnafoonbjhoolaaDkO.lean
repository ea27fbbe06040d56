import Derived.Test.YtnafoonbjhoolaaDkN
/- What the law DiskStays says, from any state. -/
namespace Go.Vf.S
open Go Go.Vf
attribute [local irreducible] wSeq wRow wp
set_option linter.unusedVariables false
set_option linter.unusedSimpArgs false
set_option maxRecDepth 10000

/-- A map lies apart from a disk. -/
theorem DAt.map {s : SS} {d m : Nat} {A : Dk} {B : Bs} {Kp : Int → Prop} (h : DAt s d A B) (hm : MapAt s m Kp) : m ∉ whole d B := by
  obtain ⟨-, es, clock, h1, -, -⟩ := hm
  intro q
  have no : ∀ {c t g r}, lookH s.heap m = some (.cells c t g r) → False := fun e => by rw [h1] at e; cases e
  simp only [whole, foot, bytesOfW, List.mem_append, List.mem_cons, List.mem_flatMap] at q
  rcases q with (rfl | (q | q) | q) | ⟨w, hw, q⟩
  · exact no h.obj
  · obtain ⟨_, e⟩ := h.sure.at _ q; exact no e
  · obtain ⟨_, e⟩ := h.now.at _ q; exact no e
  · obtain ⟨_, e⟩ := h.row.at _ q; exact no e
  · obtain ⟨_, e⟩ := (h.each w hw).1.at _ q; exact no e
theorem MapAt.not {s : SS} {m b : Nat} {Kp : Int → Prop} (hm : MapAt s m Kp) {c : List Value} {t : TypeId} {g r : Bool} (e : lookH s.heap b = some (.cells c t g r)) : b ≠ m := by
  obtain ⟨-, es, clock, h1, -, -⟩ := hm
  intro q
  subst q
  rw [h1] at e
  cases e

def Covers (A : Dk) (Kp : Int → Prop) : Prop := ∀ w ∈ A.ws, ∀ j, j < w.2.length → Kp ((w.1 + j : Nat) : Int)

structure StI (s5 : SS) (d m : Nat) (A : Dk) (B : Bs) (fw : List AV) (ob T1 : Option Addr) (x : RunS) : Prop where
  le : x.i ≤ fw.length
  at_ : DAt x.s d (A.wroteAll (fw.take x.i)) x.B
  few : x.B.wl.length ≤ B.wl.length + x.i
  row : OwnR tA x.s ob 0 fw.length (aCells fw)
  acts : ∀ a ∈ fw, ActOk x.s a
  keep : Own tB x.s T1 A.now
  kept : ∀ id ∈ blkOf T1, id ∉ whole d x.B
  chg : s5.next ≤ x.s.next ∧ x.s.gl = s5.gl ∧ Fine x.s
  ro : ∀ id b, id < s5.next → lookH s5.heap id = some b → b.ro = true → lookH x.s.heap id = some b
  map : ∃ Kp, MapAt x.s m Kp ∧ Covers (A.wroteAll (fw.take x.i)) Kp

theorem InI.ro {s s' : SS} {base : Option Addr} {l : List Int} (h : InI s base l) (hn : s.next ≤ s'.next) (hr : ∀ id b, id < s.next → lookH s.heap id = some b → b.ro = true → lookH s'.heap id = some b) : InI s' base l := by
  have ro : ∀ id ∈ blkOf base, ∃ c, lookH s'.heap id = some (.cells c tI true true) := fun id q => let ⟨c, e⟩ := h.2 id q; ⟨c, hr id _ (h.lt id q) e rfl⟩
  refine ⟨?_, ro⟩
  have h1 := h.1
  have h2 := h.2
  have hl := h.lt
  cases base with
  | none => exact h1
  | some a =>
    obtain ⟨b, off, sp⟩ := a
    obtain ⟨e1, e2, e3, c, g, r, e4, e5⟩ := h1
    obtain ⟨c', e6⟩ := h2 b (by simp [blkOf])
    rw [e6] at e4
    cases e4
    exact ⟨e1, e2, Nat.lt_of_lt_of_le e3 hn, _, _, _, hr b _ e3 e6 rfl, e5⟩
theorem _root_.Go.Vf.Own.some_at {s : SS} {base : Option Addr} {l : List UInt8} {i : Nat} (h : Own tB s base l) (hi : i < l.length) : ∃ b g, base = some ⟨b, 0, none⟩ ∧ lookH s.heap b = some (.cells (bytesV l) tB g false) := by
  cases base with
  | none => have : l = [] := h; subst this; simp at hi
  | some a =>
    obtain ⟨b, off, sp⟩ := a
    obtain ⟨rfl, rfl, h3, g, h4, h5⟩ := h
    exact ⟨b, g, rfl, h4⟩

structure InS where
  j : Nat
  s : SS
  Kp : Int → Prop

set_option maxHeartbeats 4000000 in
theorem stays_w {s : SS} {lb mb kb : Option Addr} {l more : List AV} {zs : List Int} (hl : InA s lb l) (hm : InA s mb more) (hk : InI s kb zs) (hf : Fine s) (hg : s.gl = 0) :
    CallW pr n_law01_DiskStays [.slice lb l.length 0, .slice mb more.length 0, .slice kb zs.length 0] s fun v _ => v = .bool true := by
  refine CallW.run good ok_law01_DiskStays (by simp) rfl ?_
  (repeat (first | refine pSeq ?_ | refine pReg ?_ | refine sRaw ?_ | refine sCons ?_ | refine sNil ?_ | refine rCons ?_ | refine rNil ?_ | refine kNo ?_ | refine pRow ?_ | refine pBlock ?_ | refine pSkip ?_ | refine pExit ?_ | refine pRet ?_ | refine pCond ?_ | refine gNone ?_ | refine gOn rfl ?_ | refine gOff rfl rfl ?_))
  refine (run_w hl hf).mono fun v s1 q => ?_
  obtain ⟨d, B, rfl, h1, c1, nB, lB⟩ := q
  have hm1 := hm.chg0 c1
  have hk1 := hk.chg c1 (fun _ _ => by simp)
  have hI1 := inv_runV l
  have hcap := runV_cap l
  generalize runV l = A at *
  (repeat (first | refine pSeq ?_ | refine pReg ?_ | refine sRaw ?_ | refine sCons ?_ | refine sNil ?_ | refine rCons ?_ | refine rNil ?_ | refine kNo ?_ | refine pRow ?_ | refine pBlock ?_ | refine pSkip ?_ | refine pExit ?_ | refine pRet ?_ | refine pCond ?_ | refine gNone ?_ | refine gOn rfl ?_ | refine gOff rfl rfl ?_))
  intro q hq
  obtain rfl : q = false := hq
  (repeat (first | refine pSeq ?_ | refine pReg ?_ | refine sRaw ?_ | refine sCons ?_ | refine sNil ?_ | refine rCons ?_ | refine rNil ?_ | refine kNo ?_ | refine pRow ?_ | refine pBlock ?_ | refine pSkip ?_ | refine pExit ?_ | refine pRet ?_ | refine pCond ?_ | refine gNone ?_ | refine gOn rfl ?_ | refine gOff rfl rfl ?_))
  refine (sync_w h1).mono fun v s2 q => ?_
  obtain ⟨rfl, B2, h2, st2, w2⟩ := q
  have hm2 := h1.inA st2 hm1
  have hk2 := hk1.chg st2.chg (fun id q r => let ⟨_, e⟩ := hk1.2 id q; h1.footR e (foot_whole r))
  (repeat (first | refine pSeq ?_ | refine pReg ?_ | refine sRaw ?_ | refine sCons ?_ | refine sNil ?_ | refine rCons ?_ | refine rNil ?_ | refine kNo ?_ | refine pRow ?_ | refine pBlock ?_ | refine pSkip ?_ | refine pExit ?_ | refine pRet ?_ | refine pCond ?_ | refine gNone ?_ | refine gOn rfl ?_ | refine gOff rfl rfl ?_))
  intro q hq
  obtain rfl : q = false := by rw [hq]; simp
  (repeat (first | refine pSeq ?_ | refine pReg ?_ | refine sRaw ?_ | refine sCons ?_ | refine sNil ?_ | refine rCons ?_ | refine rNil ?_ | refine kNo ?_ | refine pRow ?_ | refine pBlock ?_ | refine pSkip ?_ | refine pExit ?_ | refine pRet ?_ | refine pCond ?_ | refine gNone ?_ | refine gOn rfl ?_ | refine gOff rfl rfl ?_))
  refine (fill_w h2 false).mono fun v s3 q => ?_
  obtain ⟨rfl, h3, st3⟩ := q
  have hm3 := h2.inA st3 hm2
  have hk3 := hk2.chg st3.chg (fun id q r => let ⟨_, e⟩ := hk2.2 id q; h2.footR e (foot_whole r))
  have f3 : Fine s3 := st3.chg.fine (st2.chg.fine (c1.fine hf))
  have g3 : s3.gl = 0 := by rw [st3.chg.gl, st2.chg.gl, c1.gl, hg]
  obtain ⟨A3, hA3⟩ : ∃ A3, A3 = ({ A.synced with full := false } : Dk) := ⟨_, rfl⟩
  rw [← hA3] at h3
  have i3 : A3.Inv := by rw [hA3]; exact inv_synced hI1
  have ws3 : A3.ws = [] := by rw [hA3]; rfl
  have sure3 : A3.now = A3.sure := by
    have := i3
    unfold Dk.Inv at this
    rw [ws3] at this
    exact this
  have cap3 : A3.cap = 400 := by rw [hA3]; exact hcap
  have hnow3 := h3.lnow
  (repeat (first | refine pSeq ?_ | refine pReg ?_ | refine sRaw ?_ | refine sCons ?_ | refine sNil ?_ | refine rCons ?_ | refine rNil ?_ | refine kNo ?_ | refine pRow ?_ | refine pBlock ?_ | refine pSkip ?_ | refine pExit ?_ | refine pRet ?_ | refine pCond ?_ | refine gNone ?_ | refine gOn rfl ?_ | refine gOff rfl rfl ?_))
  refine (read_w h3 (by decide)).mono fun v s4 q => ?_
  obtain ⟨T1, rfl, o4, n4, c4⟩ := q
  rw [read_all (by omega)] at *
  have h4 := h3.chg c4 (fun _ _ => by simp)
  have n4' : ∀ id ∈ blkOf T1, id ∉ whole d B2 := n4.not h3
  (repeat (first | refine pSeq ?_ | refine pReg ?_ | refine sRaw ?_ | refine sCons ?_ | refine sNil ?_ | refine rCons ?_ | refine rNil ?_ | refine kNo ?_ | refine pRow ?_ | refine pBlock ?_ | refine pSkip ?_ | refine pExit ?_ | refine pRet ?_ | refine pCond ?_ | refine gNone ?_ | refine gOn rfl ?_ | refine gOff rfl rfl ?_))
  refine ⟨.new (.map [] 0) fun id => .map (some id), rfl, ?_⟩
  (repeat (first | refine pSeq ?_ | refine pReg ?_ | refine sRaw ?_ | refine sCons ?_ | refine sNil ?_ | refine rCons ?_ | refine rNil ?_ | refine kNo ?_ | refine pRow ?_ | refine pBlock ?_ | refine pSkip ?_ | refine pExit ?_ | refine pRet ?_ | refine pCond ?_ | refine gNone ?_ | refine gOn rfl ?_ | refine gOff rfl rfl ?_))
  have cM := Chg.new (s := s4) (b := .map [] 0) []
  have mN : MapAt { s4 with heap := (s4.next, some (.map [] 0)) :: s4.heap, next := s4.next + 1 } s4.next (fun _ => False) :=
    ⟨Nat.lt_succ_self _, [], 0, lkH, by simp, by simp⟩
  refine (few_w (m := 20) ((hm3.chg0 c4).chg0 cM) (cM.fine (c4.fine f3)) (by decide)).mono fun v s5 q => ?_
  obtain ⟨ob, rfl, ho, hno, c5⟩ := q
  have h5 := (h4.chg cM (fun _ _ => by simp)).chg c5 (fun _ _ => by simp)
  have o5 := (o4.chg cM (fun _ _ => by simp)).chg c5 (fun _ _ => by simp)
  have m5 := mN.chg c5 (by simp)
  have hk5 := ((hk3.chg c4 (fun _ _ => by simp)).chg cM (fun _ _ => by simp)).chg c5 (fun _ _ => by simp)
  have f5 := c5.fine (cM.fine (c4.fine f3))
  have g5 : s5.gl = 0 := by rw [c5.gl, cM.gl, c4.gl, g3]
  have hfl : (fewV 20 more).length ≤ 20 := by simp [fewV]; omega
  have hacts : ∀ a ∈ fewV 20 more, ActOk s5 a ∧ a.bl.length ≤ 40 := by
    intro a ha
    obtain ⟨x, hx, rfl⟩ := List.mem_map.1 ha
    refine ⟨((hm3.2.1 x (List.mem_of_mem_take hx)).chg ((c4.nil cM).nil c5) (fun _ _ => by simp)).cut, ?_⟩
    show (x.bl.take 40).length ≤ 40
    rw [List.length_take]
    omega
  generalize hfw : fewV 20 more = fw at *
  generalize s4.next = m at *
  have hwl : B2.wl.length = 0 := by rw [w2]; rfl
  (repeat (first | refine pSeq ?_ | refine pReg ?_ | refine sRaw ?_ | refine sCons ?_ | refine sNil ?_ | refine rCons ?_ | refine rNil ?_ | refine kNo ?_ | refine pRow ?_ | refine pBlock ?_ | refine pSkip ?_ | refine pExit ?_ | refine pRet ?_ | refine pCond ?_ | refine gNone ?_ | refine gOn rfl ?_ | refine gOff rfl rfl ?_))
  refine pLoop (MW.head good (fun x : RunS => fw.length - x.i) (StI s5 d m A3 B2 fw ob T1)
    (fun x => [(2, .slice kb zs.length 0), (7, .pointer (some ⟨d, 0, none⟩)), (8, .slice T1 A3.now.length 0), (9, .map (some m)), (10, .int .i64 (A3.wroteAll (fw.take x.i)).ws.length), (33, .slice ob fw.length 0), (34, .int .i64 fw.length), (35, .int .i64 x.i)]) (fun x => x.s) ⟨0, s5, B2⟩
    ⟨Nat.zero_le _, h5, Nat.le_refl _, ho, fun a ha => (hacts a ha).1, o5, n4', ⟨Nat.le_refl _, rfl, f5⟩, fun _ _ _ h _ => h, _, m5, fun w hw => by
      have : w ∈ A3.ws := hw
      rw [ws3] at this; cases this⟩ ?_ ?_)
  · refine Wk.same ⟨rfl, rfl, rfl, rfl, ?_, rfl, rfl, rfl, trivial⟩
    show _ = some (Value.int .i64 ((A3.ws.length : Nat) : Int))
    rw [ws3]
    rfl
  intro ⟨i, s6, B6⟩ hI
  obtain ⟨hi, h6, few6, ho6, ha6, o6, n6, ⟨nx6, gl6, f6⟩, ro6, Kp, m6, cov6⟩ := hI
  dsimp only at hi h6 few6 ho6 ha6 o6 n6 nx6 gl6 f6 ro6 m6 cov6 ⊢
  (repeat (first | refine pSeq ?_ | refine pReg ?_ | refine sRaw ?_ | refine sCons ?_ | refine sNil ?_ | refine rCons ?_ | refine rNil ?_ | refine kNo ?_ | refine pRow ?_ | refine pBlock ?_ | refine pSkip ?_ | refine pExit ?_ | refine pRet ?_ | refine pCond ?_ | refine gNone ?_ | refine gOn rfl ?_ | refine gOff rfl rfl ?_))
  intro q hq
  by_cases hlt : i < fw.length
  · obtain rfl : q = true := by rw [hq]; simp; omega
    obtain ⟨b, g, hob, hb⟩ := ho6.pos (by omega)
    subst hob
    (repeat (first | refine pSeq ?_ | refine pReg ?_ | refine sRaw ?_ | refine sCons ?_ | refine sNil ?_ | refine rCons ?_ | refine rNil ?_ | refine kNo ?_ | refine pRow ?_ | refine pBlock ?_ | refine pSkip ?_ | refine pExit ?_ | refine pRet ?_ | refine pCond ?_ | refine gNone ?_ | refine gOn rfl ?_ | refine gOff rfl rfl ?_))
    refine ⟨⟨by omega, Int.ofNat_lt.2 hlt⟩, ?_⟩
    intro k hk' o hof
    obtain rfl : k = i := by omega
    rw [Nat.zero_add] at hof
    subst hof
    (repeat (first | refine pSeq ?_ | refine pReg ?_ | refine sRaw ?_ | refine sCons ?_ | refine sNil ?_ | refine rCons ?_ | refine rNil ?_ | refine kNo ?_ | refine pRow ?_ | refine pBlock ?_ | refine pSkip ?_ | refine pExit ?_ | refine pRet ?_ | refine pCond ?_ | refine gNone ?_ | refine gOn rfl ?_ | refine gOff rfl rfl ?_))
    refine ldN_is rfl hb (aCells_at hlt) ?_
    (repeat (first | refine pSeq ?_ | refine pReg ?_ | refine sRaw ?_ | refine sCons ?_ | refine sNil ?_ | refine rCons ?_ | refine rNil ?_ | refine kNo ?_ | refine pRow ?_ | refine pBlock ?_ | refine pSkip ?_ | refine pExit ?_ | refine pRet ?_ | refine pCond ?_ | refine gNone ?_ | refine gOn rfl ?_ | refine gOff rfl rfl ?_))
    have cA := Chg.new (s := s6) (b := .cells [.int .i64 0, .int .i64 0, .int .i64 0, .slice none 0 0, .slice none 0 0] tA false false) []
    refine st_abs (cs' := aCell fw[k]) rfl rfl lkH (Nat.lt_succ_self _) rfl rfl fun s7 hbox c7 hn7 => ?_
    have hn7 : s7.next = s6.next + 1 := hn7
    have c67 : Chg s6 s7 [] := cA.fresh c7 (fun id q => by simp at q; omega)
    have h7 := h6.chg c67 (fun _ _ => by simp)
    have hact := (ha6 _ (List.getElem_mem hlt)).chg c67 (fun _ _ => by simp)
    have hbl := (hacts _ (List.getElem_mem hlt)).2
    have ho7 := ho6.chg c67 (fun _ _ => by simp)
    have ha7 := fun a ha => (ha6 a ha).chg c67 (fun _ _ => by simp)
    have m7 := m6.chg c67 (by simp)
    have f7 := c67.fine f6
    (repeat (first | refine pSeq ?_ | refine pReg ?_ | refine sRaw ?_ | refine sCons ?_ | refine sNil ?_ | refine rCons ?_ | refine rNil ?_ | refine kNo ?_ | refine pRow ?_ | refine pBlock ?_ | refine pSkip ?_ | refine pExit ?_ | refine pRet ?_ | refine pCond ?_ | refine gNone ?_ | refine gOn rfl ?_ | refine gOff rfl rfl ?_))
    refine ldI_is (z := fw[k].pos) rfl hbox rfl ?_
    (repeat (first | refine pSeq ?_ | refine pReg ?_ | refine sRaw ?_ | refine sCons ?_ | refine sNil ?_ | refine rCons ?_ | refine rNil ?_ | refine kNo ?_ | refine pRow ?_ | refine pBlock ?_ | refine pSkip ?_ | refine pExit ?_ | refine pRet ?_ | refine pCond ?_ | refine gNone ?_ | refine gOn rfl ?_ | refine gOff rfl rfl ?_))
    refine ld1_is (v := .slice fw[k].bb fw[k].bl.length 0) rfl hbox rfl ?_
    (repeat (first | refine pSeq ?_ | refine pReg ?_ | refine sRaw ?_ | refine sCons ?_ | refine sNil ?_ | refine rCons ?_ | refine rNil ?_ | refine kNo ?_ | refine pRow ?_ | refine pBlock ?_ | refine pSkip ?_ | refine pExit ?_ | refine pRet ?_ | refine pCond ?_ | refine gNone ?_ | refine gOn rfl ?_ | refine gOff rfl rfl ?_))
    refine (write_w (cx := 0) h7 f7 hact.1.1.1 (by omega) (by omega) hact.2.2.1.2).mono fun v s8 q => ?_
    obtain ⟨rfl, B8, h8, st8, l8⟩ := q
    obtain ⟨ho8, ha8⟩ := h7.acts st8 ho7 ha7
    have m8 := m7.chg st8.chg (fun r => h7.map m7 (foot_whole r))
    have o8 := (o6.chg c67 (fun _ _ => by simp)).chg st8.chg (fun id q r => n6 id q (foot_whole r))
    have n8 : ∀ id ∈ blkOf T1, id ∉ whole d B8 := fun id q r => by
      rcases st8.al id r with r | r
      · exact n6 id q r
      · have := o6.lt id q; omega
    have f8 := st8.chg.fine f7
    have x8 := st8.chg.next
    have hbox8 : lookH s8.heap s6.next = some (.cells (aCell fw[k]) tA false false) := by
      refine st8.chg.blk _ _ (by omega) (fun r => h7.foot3 hbox ⟨by decide, by decide, by decide⟩ (foot_whole r)) hbox
    have ro8 : ∀ id b, id < s5.next → lookH s5.heap id = some b → b.ro = true → lookH s8.heap id = some b := by
      intro id bb hid hbb hr
      have e6 := ro6 id bb hid hbb hr
      have e7 := c67.blk id bb (by omega) (by simp) e6
      refine st8.chg.blk id bb (by omega) (fun r => ?_) e7
      cases bb with
      | cells c t g ro =>
        have : ro = true := hr
        subst this
        exact h7.footR e7 (foot_whole r)
      | _ => cases hr
    have ewt := wroteAll_take (A := A3) hlt
    (repeat (first | refine pSeq ?_ | refine pReg ?_ | refine sRaw ?_ | refine sCons ?_ | refine sNil ?_ | refine rCons ?_ | refine rNil ?_ | refine kNo ?_ | refine pRow ?_ | refine pBlock ?_ | refine pSkip ?_ | refine pExit ?_ | refine pRet ?_ | refine pCond ?_ | refine gNone ?_ | refine gOn rfl ?_ | refine gOff rfl rfl ?_))
    intro q hq
    rcases wrote_cases (A3.wroteAll (fw.take k)) fw[k].pos fw[k].bl with ⟨e1, e2⟩ | ⟨⟨p1, p2⟩, e2⟩
    · obtain rfl : q = false := by rw [hq]; simpa using e1
      rw [e2] at h8 ewt
      (repeat (first | refine pSeq ?_ | refine pReg ?_ | refine sRaw ?_ | refine sCons ?_ | refine sNil ?_ | refine rCons ?_ | refine rNil ?_ | refine kNo ?_ | refine pRow ?_ | refine pBlock ?_ | refine pSkip ?_ | refine pExit ?_ | refine pRet ?_ | refine pCond ?_ | refine gNone ?_ | refine gOn rfl ?_ | refine gOff rfl rfl ?_))
      intro z hz
      rw [i64_id (by omega)] at hz
      (repeat (first | refine pSeq ?_ | refine pReg ?_ | refine sRaw ?_ | refine sCons ?_ | refine sNil ?_ | refine rCons ?_ | refine rNil ?_ | refine kNo ?_ | refine pRow ?_ | refine pBlock ?_ | refine pSkip ?_ | refine pExit ?_ | refine pRet ?_ | refine pCond ?_ | refine gNone ?_ | refine gOn rfl ?_ | refine gOff rfl rfl ?_))
      refine ⟨⟨k + 1, s8, B8⟩, ⟨hlt, by dsimp only; rw [ewt]; exact h8, by dsimp only; omega, ho8, ha8, o8, n8, ⟨by dsimp only; omega, by dsimp only; rw [st8.chg.gl, c67.gl, gl6], f8⟩, ro8, Kp, m8, by dsimp only; rw [ewt]; exact cov6⟩, by dsimp only; omega, Wk.same ⟨rfl, rfl, rfl, rfl, by dsimp only; rw [ewt]; rfl, rfl, rfl, ?_, trivial⟩⟩
      subst hz
      rfl
    · have hq1 : (((A3.wroteAll (fw.take k)).wrote fw[k].pos fw[k].bl).1 : Int) = 0 := by rw [e2]
      obtain rfl : q = true := by rw [hq, hq1]; simp
      have hcap6 := h6.cap
      have hnow6 := h6.lnow
      obtain ⟨pos, hpos⟩ := Int.eq_ofNat_of_zero_le p1
      have hposl : pos ≤ 1048576 := by omega
      rw [hpos] at e2
      rw [hpos, e2] at h8 ewt
      rw [Int.toNat_natCast] at h8 ewt
      have hlw : (A3.wroteAll (fw.take k)).ws.length ≤ 20 := by
        rw [← h6.ews, List.length_map]
        omega
      (repeat (first | refine pSeq ?_ | refine pReg ?_ | refine sRaw ?_ | refine sCons ?_ | refine sNil ?_ | refine rCons ?_ | refine rNil ?_ | refine kNo ?_ | refine pRow ?_ | refine pBlock ?_ | refine pSkip ?_ | refine pExit ?_ | refine pRet ?_ | refine pCond ?_ | refine gNone ?_ | refine gOn rfl ?_ | refine gOff rfl rfl ?_))
      intro z hz
      rw [i64_id (by omega)] at hz
      (repeat (first | refine pSeq ?_ | refine pReg ?_ | refine sRaw ?_ | refine sCons ?_ | refine sNil ?_ | refine rCons ?_ | refine rNil ?_ | refine kNo ?_ | refine pRow ?_ | refine pBlock ?_ | refine pSkip ?_ | refine pExit ?_ | refine pRet ?_ | refine pCond ?_ | refine gNone ?_ | refine gOn rfl ?_ | refine gOff rfl rfl ?_))
      refine ld1_is (v := .slice fw[k].bb fw[k].bl.length 0) rfl hbox8 rfl ?_
      (repeat (first | refine pSeq ?_ | refine pReg ?_ | refine sRaw ?_ | refine sCons ?_ | refine sNil ?_ | refine rCons ?_ | refine rNil ?_ | refine kNo ?_ | refine pRow ?_ | refine pBlock ?_ | refine pSkip ?_ | refine pExit ?_ | refine pRet ?_ | refine pCond ?_ | refine gNone ?_ | refine gOn rfl ?_ | refine gOff rfl rfl ?_))
      refine pLoop (MW.head good (fun x : InS => fw[k].bl.length - x.j) (fun x => x.j ≤ fw[k].bl.length ∧ MapAt x.s m x.Kp ∧ Chg s8 x.s [m] ∧ (∀ z, Kp z → x.Kp z) ∧ ∀ j, j < x.j → x.Kp ((pos + j : Nat) : Int))
        (fun x => [(2, .slice kb zs.length 0), (7, .pointer (some ⟨d, 0, none⟩)), (8, .slice T1 A3.now.length 0), (9, .map (some m)), (10, .int .i64 z), (12, .pointer (some ⟨s6.next, 0, none⟩)), (33, .slice (some ⟨b, 0, none⟩) fw.length 0), (34, .int .i64 fw.length), (35, .int .i64 k), (50, .int .i64 fw[k].bl.length), (51, .int .i64 x.j)])
        (fun x => x.s) ⟨0, s8, Kp⟩ ⟨Nat.zero_le _, m8, .refl _ _, fun _ h => h, fun j h => absurd h (Nat.not_lt_zero j)⟩ ?_ ?_)
      · exact Wk.same ⟨rfl, rfl, rfl, rfl, rfl, rfl, rfl, rfl, rfl, rfl, rfl, trivial⟩
      intro ⟨j, s9, Kq⟩ ⟨hj, m9, c9, sub9, cov9⟩
      dsimp only at hj m9 c9 sub9 cov9 ⊢
      have hbox9 := c9.blk _ _ (by omega) (fun r => m8.not hbox8 (List.mem_singleton.1 r)) hbox8
      (repeat (first | refine pSeq ?_ | refine pReg ?_ | refine sRaw ?_ | refine sCons ?_ | refine sNil ?_ | refine rCons ?_ | refine rNil ?_ | refine kNo ?_ | refine pRow ?_ | refine pBlock ?_ | refine pSkip ?_ | refine pExit ?_ | refine pRet ?_ | refine pCond ?_ | refine gNone ?_ | refine gOn rfl ?_ | refine gOff rfl rfl ?_))
      intro q hq
      by_cases hjl : j < fw[k].bl.length
      · obtain rfl : q = true := by rw [hq]; simp; omega
        (repeat (first | refine pSeq ?_ | refine pReg ?_ | refine sRaw ?_ | refine sCons ?_ | refine sNil ?_ | refine rCons ?_ | refine rNil ?_ | refine kNo ?_ | refine pRow ?_ | refine pBlock ?_ | refine pSkip ?_ | refine pExit ?_ | refine pRet ?_ | refine pCond ?_ | refine gNone ?_ | refine gOn rfl ?_ | refine gOff rfl rfl ?_))
        refine ldI_is (z := fw[k].pos) rfl hbox9 rfl ?_
        (repeat (first | refine pSeq ?_ | refine pReg ?_ | refine sRaw ?_ | refine sCons ?_ | refine sNil ?_ | refine rCons ?_ | refine rNil ?_ | refine kNo ?_ | refine pRow ?_ | refine pBlock ?_ | refine pSkip ?_ | refine pExit ?_ | refine pRet ?_ | refine pCond ?_ | refine gNone ?_ | refine gOn rfl ?_ | refine gOff rfl rfl ?_))
        intro z2 hz2
        rw [hpos, i64_id (by omega)] at hz2
        (repeat (first | refine pSeq ?_ | refine pReg ?_ | refine sRaw ?_ | refine sCons ?_ | refine sNil ?_ | refine rCons ?_ | refine rNil ?_ | refine kNo ?_ | refine pRow ?_ | refine pBlock ?_ | refine pSkip ?_ | refine pExit ?_ | refine pRet ?_ | refine pCond ?_ | refine gNone ?_ | refine gOn rfl ?_ | refine gOff rfl rfl ?_))
        refine update_w m9 rfl rfl rfl rfl fun s10 m10 c10 n10 => ?_
        (repeat (first | refine pSeq ?_ | refine pReg ?_ | refine sRaw ?_ | refine sCons ?_ | refine sNil ?_ | refine rCons ?_ | refine rNil ?_ | refine kNo ?_ | refine pRow ?_ | refine pBlock ?_ | refine pSkip ?_ | refine pExit ?_ | refine pRet ?_ | refine pCond ?_ | refine gNone ?_ | refine gOn rfl ?_ | refine gOff rfl rfl ?_))
        intro z3 hz3
        rw [i64_id (by omega)] at hz3
        (repeat (first | refine pSeq ?_ | refine pReg ?_ | refine sRaw ?_ | refine sCons ?_ | refine sNil ?_ | refine rCons ?_ | refine rNil ?_ | refine kNo ?_ | refine pRow ?_ | refine pBlock ?_ | refine pSkip ?_ | refine pExit ?_ | refine pRet ?_ | refine pCond ?_ | refine gNone ?_ | refine gOn rfl ?_ | refine gOff rfl rfl ?_))
        refine ⟨⟨j + 1, s10, fun k => Kq k ∨ k = z2⟩, ⟨hjl, m10, c9.trans' c10 (fun id q _ => q) (fun id q _ => q), fun z h => .inl (sub9 z h), fun i hi => ?_⟩, by dsimp only; omega, Wk.same ⟨rfl, rfl, rfl, rfl, rfl, rfl, rfl, rfl, rfl, rfl, ?_, trivial⟩⟩
        · by_cases e : i = j
          · subst e
            right
            show ((pos + i : Nat) : Int) = z2
            omega
          · exact .inl (cov9 i (by dsimp only at hi; omega))
        · subst hz3
          rfl
      · obtain rfl : q = false := by rw [hq]; simp; omega
        obtain rfl : j = fw[k].bl.length := by omega
        (repeat (first | refine pSeq ?_ | refine pReg ?_ | refine sRaw ?_ | refine sCons ?_ | refine sNil ?_ | refine rCons ?_ | refine rNil ?_ | refine kNo ?_ | refine pRow ?_ | refine pBlock ?_ | refine pSkip ?_ | refine pExit ?_ | refine pRet ?_ | refine pCond ?_ | refine gNone ?_ | refine gOn rfl ?_ | refine gOff rfl rfl ?_))
        intro z3 hz3
        rw [i64_id (by omega)] at hz3
        (repeat (first | refine pSeq ?_ | refine pReg ?_ | refine sRaw ?_ | refine sCons ?_ | refine sNil ?_ | refine rCons ?_ | refine rNil ?_ | refine kNo ?_ | refine pRow ?_ | refine pBlock ?_ | refine pSkip ?_ | refine pExit ?_ | refine pRet ?_ | refine pCond ?_ | refine gNone ?_ | refine gOn rfl ?_ | refine gOff rfl rfl ?_))
        have h9 := h8.chg c9 (fun id q r => by rw [List.mem_singleton.1 r] at q; exact h8.map m8 q)
        have x9 := c9.next
        have ho9 := ho8.chg c9 (fun id q r => by obtain ⟨g, e⟩ := ho8.at id q; exact m8.not e (List.mem_singleton.1 r))
        have ha9 : ∀ a ∈ fw, ActOk s9 a := fun a ha => (ha8 a ha).chg c9 (fun id q r => by obtain ⟨_, _, _, e⟩ := (ha8 a ha).ro id q; exact m8.not e (List.mem_singleton.1 r))
        have o9 := o8.chg c9 (fun id q r => by obtain ⟨g, e⟩ := o8.at id q; exact m8.not e (List.mem_singleton.1 r))
        refine ⟨⟨k + 1, s9, B8⟩, ⟨hlt, by dsimp only; rw [ewt]; exact h9, by dsimp only; omega, ho9, ha9, o9, n8, ⟨by dsimp only; omega, by dsimp only; rw [c9.gl, st8.chg.gl, c67.gl, gl6], c9.fine f8⟩, fun id bb hid hbb hr => ?_, Kq, m9, ?_⟩, by dsimp only; omega, Wk.same ⟨rfl, rfl, rfl, rfl, ?_, rfl, rfl, ?_, trivial⟩⟩
        · refine c9.blk id bb (by omega) (fun r => ?_) (ro8 id bb hid hbb hr)
          have e8 := ro8 id bb hid hbb hr
          cases bb with
          | cells c t g ro => exact m8.not e8 (List.mem_singleton.1 r)
          | _ => cases hr
        · dsimp only
          rw [ewt]
          intro w hw j hj
          rcases List.mem_append.1 hw with q | q
          · exact sub9 _ (cov6 w q j hj)
          · rw [List.mem_singleton.1 q] at hj ⊢
            exact cov9 j hj
        · dsimp only
          rw [ewt]
          have : z = (((A3.wroteAll (fw.take k)).ws ++ [(pos, fw[k].bl)]).length : Int) := by simp; omega
          rw [← this]
          rfl
        · subst hz3
          rfl
  obtain rfl : q = false := by rw [hq]; simp; omega
  obtain rfl : i = fw.length := by omega
  rw [List.take_of_length_le (Nat.le_refl _)] at h6 cov6 ⊢
  obtain ⟨i6, sure6, ws6⟩ := wroteAll_is fw A3 i3
  have hk6 := hk5.ro nx6 ro6
  generalize A3.wroteAll fw = A6 at *
  have hwl6 : A6.ws.length = B6.wl.length := by rw [← h6.ews, List.length_map]
  (repeat (first | refine pSeq ?_ | refine pReg ?_ | refine sRaw ?_ | refine sCons ?_ | refine sNil ?_ | refine rCons ?_ | refine rNil ?_ | refine kNo ?_ | refine pRow ?_ | refine pBlock ?_ | refine pSkip ?_ | refine pExit ?_ | refine pRet ?_ | refine pCond ?_ | refine gNone ?_ | refine gOn rfl ?_ | refine gOff rfl rfl ?_))
  refine (waits_w h6).mono fun v s6 q => ?_
  obtain ⟨rfl, rfl⟩ := q
  (repeat (first | refine pSeq ?_ | refine pReg ?_ | refine sRaw ?_ | refine sCons ?_ | refine sNil ?_ | refine rCons ?_ | refine rNil ?_ | refine kNo ?_ | refine pRow ?_ | refine pBlock ?_ | refine pSkip ?_ | refine pExit ?_ | refine pRet ?_ | refine pCond ?_ | refine gNone ?_ | refine gOn rfl ?_ | refine gOff rfl rfl ?_))
  intro q hq
  obtain rfl : q = false := by rw [hq]; simp
  (repeat (first | refine pSeq ?_ | refine pReg ?_ | refine sRaw ?_ | refine sCons ?_ | refine sNil ?_ | refine rCons ?_ | refine rNil ?_ | refine kNo ?_ | refine pRow ?_ | refine pBlock ?_ | refine pSkip ?_ | refine pExit ?_ | refine pRet ?_ | refine pCond ?_ | refine gNone ?_ | refine gOn rfl ?_ | refine gOff rfl rfl ?_))
  refine (crash_w h6 f6 hk6.1).mono fun v s7 q => ?_
  obtain ⟨rfl, B7, h7, st7, w7⟩ := q
  have o7 := o6.chg st7.chg (fun id q r => n6 id q (foot_whole r))
  have m7 := m6.chg st7.chg (fun r => h6.map m6 (foot_whole r))
  have f7 := st7.chg.fine f6
  obtain ⟨N, hN⟩ : ∃ N, N = lays (cutW A6.ws zs) A6.sure := ⟨_, rfl⟩
  have e7 : A6.crashed zs = { A6 with sure := N, now := N, ws := [] } := by rw [hN]; rfl
  rw [e7] at h7
  have hlen : A3.now.length ≤ N.length := by
    rw [hN, sure6, ← sure3]
    exact lays_ge _ _
  have hget : ∀ j : Nat, ¬ Kp (j : Int) → N.getD j 0 = A3.now.getD j 0 := by
    intro j hj
    rw [hN, sure6, ← sure3]
    refine lays_get _ _ _ fun w hw => ?_
    obtain ⟨x, hx, x1, x2⟩ := cutW_mem hw
    by_cases q1 : j < w.1
    · exact .inl q1
    · refine .inr ?_
      refine Nat.le_of_not_lt fun q2 => hj ?_
      have := cov6 x hx (j - x.1) (by omega)
      rw [show x.1 + (j - x.1) = j from by omega] at this
      exact this
  have hcap7 := h7.cap
  have hnow7 := h7.lnow
  have hNl : N.length ≤ 1048576 := by
    have a : N.length ≤ A6.cap := hnow7
    have b : A6.cap ≤ 1048576 := hcap7
    omega
  (repeat (first | refine pSeq ?_ | refine pReg ?_ | refine sRaw ?_ | refine sCons ?_ | refine sNil ?_ | refine rCons ?_ | refine rNil ?_ | refine kNo ?_ | refine pRow ?_ | refine pBlock ?_ | refine pSkip ?_ | refine pExit ?_ | refine pRet ?_ | refine pCond ?_ | refine gNone ?_ | refine gOn rfl ?_ | refine gOff rfl rfl ?_))
  intro q hq
  obtain rfl : q = false := by rw [hq]; simp
  (repeat (first | refine pSeq ?_ | refine pReg ?_ | refine sRaw ?_ | refine sCons ?_ | refine sNil ?_ | refine rCons ?_ | refine rNil ?_ | refine kNo ?_ | refine pRow ?_ | refine pBlock ?_ | refine pSkip ?_ | refine pExit ?_ | refine pRet ?_ | refine pCond ?_ | refine gNone ?_ | refine gOn rfl ?_ | refine gOff rfl rfl ?_))
  refine (waits_w h7).mono fun v s7 q => ?_
  obtain ⟨rfl, rfl⟩ := q
  (repeat (first | refine pSeq ?_ | refine pReg ?_ | refine sRaw ?_ | refine sCons ?_ | refine sNil ?_ | refine rCons ?_ | refine rNil ?_ | refine kNo ?_ | refine pRow ?_ | refine pBlock ?_ | refine pSkip ?_ | refine pExit ?_ | refine pRet ?_ | refine pCond ?_ | refine gNone ?_ | refine gOn rfl ?_ | refine gOff rfl rfl ?_))
  intro q hq
  obtain rfl : q = false := by rw [hq]; simp
  (repeat (first | refine pSeq ?_ | refine pReg ?_ | refine sRaw ?_ | refine sCons ?_ | refine sNil ?_ | refine rCons ?_ | refine rNil ?_ | refine kNo ?_ | refine pRow ?_ | refine pBlock ?_ | refine pSkip ?_ | refine pExit ?_ | refine pRet ?_ | refine pCond ?_ | refine gNone ?_ | refine gOn rfl ?_ | refine gOff rfl rfl ?_))
  refine (read_w h7 (by decide)).mono fun v s8 q => ?_
  obtain ⟨T2, rfl, t8, n8, c8⟩ := q
  rw [read_all (by exact hNl)] at *
  dsimp only at t8 ⊢
  have h8 := h7.chg c8 (fun _ _ => by simp)
  have o8 := o7.chg c8 (fun _ _ => by simp)
  have m8 := m7.chg c8 (by simp)
  have f8 := c8.fine f7
  (repeat (first | refine pSeq ?_ | refine pReg ?_ | refine sRaw ?_ | refine sCons ?_ | refine sNil ?_ | refine rCons ?_ | refine rNil ?_ | refine kNo ?_ | refine pRow ?_ | refine pBlock ?_ | refine pSkip ?_ | refine pExit ?_ | refine pRet ?_ | refine pCond ?_ | refine gNone ?_ | refine gOn rfl ?_ | refine gOff rfl rfl ?_))
  intro q hq
  obtain rfl : q = false := by rw [hq]; simp; omega
  (repeat (first | refine pSeq ?_ | refine pReg ?_ | refine sRaw ?_ | refine sCons ?_ | refine sNil ?_ | refine rCons ?_ | refine rNil ?_ | refine kNo ?_ | refine pRow ?_ | refine pBlock ?_ | refine pSkip ?_ | refine pExit ?_ | refine pRet ?_ | refine pCond ?_ | refine gNone ?_ | refine gOn rfl ?_ | refine gOff rfl rfl ?_))
  refine (end_w h8).mono fun v s8 q => ?_
  obtain ⟨rfl, rfl⟩ := q
  (repeat (first | refine pSeq ?_ | refine pReg ?_ | refine sRaw ?_ | refine sCons ?_ | refine sNil ?_ | refine rCons ?_ | refine rNil ?_ | refine kNo ?_ | refine pRow ?_ | refine pBlock ?_ | refine pSkip ?_ | refine pExit ?_ | refine pRet ?_ | refine pCond ?_ | refine gNone ?_ | refine gOn rfl ?_ | refine gOff rfl rfl ?_))
  intro q hq
  obtain rfl : q = false := by rw [hq]; simp
  (repeat (first | refine pSeq ?_ | refine pReg ?_ | refine sRaw ?_ | refine sCons ?_ | refine sNil ?_ | refine rCons ?_ | refine rNil ?_ | refine kNo ?_ | refine pRow ?_ | refine pBlock ?_ | refine pSkip ?_ | refine pExit ?_ | refine pRet ?_ | refine pCond ?_ | refine gNone ?_ | refine gOn rfl ?_ | refine gOff rfl rfl ?_))
  refine pLoop (MW.head good (fun i : Nat => A3.now.length - i) (fun i => i ≤ A3.now.length)
    (fun i => [(7, .pointer (some ⟨d, 0, none⟩)), (8, .slice T1 A3.now.length 0), (9, .map (some m)), (14, .slice T2 N.length 0), (90, .slice T1 A3.now.length 0), (91, .int .i64 A3.now.length), (92, .int .i64 i)]) (fun _ => s8) 0 (Nat.zero_le _) ?_ ?_)
  · exact Wk.same ⟨rfl, rfl, rfl, rfl, rfl, rfl, rfl, trivial⟩
  intro i hi
  (repeat (first | refine pSeq ?_ | refine pReg ?_ | refine sRaw ?_ | refine sCons ?_ | refine sNil ?_ | refine rCons ?_ | refine rNil ?_ | refine kNo ?_ | refine pRow ?_ | refine pBlock ?_ | refine pSkip ?_ | refine pExit ?_ | refine pRet ?_ | refine pCond ?_ | refine gNone ?_ | refine gOn rfl ?_ | refine gOff rfl rfl ?_))
  intro q hq
  by_cases hlt : i < A3.now.length
  · obtain rfl : q = true := by rw [hq]; simp; omega
    obtain ⟨bt, gt, rfl, hbt⟩ := o8.some_at hlt
    obtain ⟨bn, gn, rfl, hbn⟩ := t8.some_at (show i < N.length by omega)
    (repeat (first | refine pSeq ?_ | refine pReg ?_ | refine sRaw ?_ | refine sCons ?_ | refine sNil ?_ | refine rCons ?_ | refine rNil ?_ | refine kNo ?_ | refine pRow ?_ | refine pBlock ?_ | refine pSkip ?_ | refine pExit ?_ | refine pRet ?_ | refine pCond ?_ | refine gNone ?_ | refine gOn rfl ?_ | refine gOff rfl rfl ?_))
    refine ⟨⟨by omega, Int.ofNat_lt.2 hlt⟩, ?_⟩
    intro k hk' o hof
    obtain rfl : k = i := by omega
    rw [Nat.zero_add, Nat.mul_one] at hof
    subst hof
    (repeat (first | refine pSeq ?_ | refine pReg ?_ | refine sRaw ?_ | refine sCons ?_ | refine sNil ?_ | refine rCons ?_ | refine rNil ?_ | refine kNo ?_ | refine pRow ?_ | refine pBlock ?_ | refine pSkip ?_ | refine pExit ?_ | refine pRet ?_ | refine pCond ?_ | refine gNone ?_ | refine gOn rfl ?_ | refine gOff rfl rfl ?_))
    refine ldI_is rfl hbt (bytesV_get hlt) ?_
    (repeat (first | refine pSeq ?_ | refine pReg ?_ | refine sRaw ?_ | refine sCons ?_ | refine sNil ?_ | refine rCons ?_ | refine rNil ?_ | refine kNo ?_ | refine pRow ?_ | refine pBlock ?_ | refine pSkip ?_ | refine pExit ?_ | refine pRet ?_ | refine pCond ?_ | refine gNone ?_ | refine gOn rfl ?_ | refine gOff rfl rfl ?_))
    refine lookup_w m8 rfl rfl rfl (fun hin => ?_) (fun hout => ?_)
    · (repeat (first | refine pSeq ?_ | refine pReg ?_ | refine sRaw ?_ | refine sCons ?_ | refine sNil ?_ | refine rCons ?_ | refine rNil ?_ | refine kNo ?_ | refine pRow ?_ | refine pBlock ?_ | refine pSkip ?_ | refine pExit ?_ | refine pRet ?_ | refine pCond ?_ | refine gNone ?_ | refine gOn rfl ?_ | refine gOff rfl rfl ?_))
      intro q hq
      obtain rfl : q = false := by rw [hq]; decide
      (repeat (first | refine pSeq ?_ | refine pReg ?_ | refine sRaw ?_ | refine sCons ?_ | refine sNil ?_ | refine rCons ?_ | refine rNil ?_ | refine kNo ?_ | refine pRow ?_ | refine pBlock ?_ | refine pSkip ?_ | refine pExit ?_ | refine pRet ?_ | refine pCond ?_ | refine gNone ?_ | refine gOn rfl ?_ | refine gOff rfl rfl ?_))
      intro z hz
      rw [i64_id (by omega)] at hz
      (repeat (first | refine pSeq ?_ | refine pReg ?_ | refine sRaw ?_ | refine sCons ?_ | refine sNil ?_ | refine rCons ?_ | refine rNil ?_ | refine kNo ?_ | refine pRow ?_ | refine pBlock ?_ | refine pSkip ?_ | refine pExit ?_ | refine pRet ?_ | refine pCond ?_ | refine gNone ?_ | refine gOn rfl ?_ | refine gOff rfl rfl ?_))
      refine ⟨o + 1, hlt, by show A3.now.length - (o + 1) < A3.now.length - o; omega, Wk.same ⟨rfl, rfl, rfl, rfl, rfl, rfl, ?_, trivial⟩⟩
      subst hz
      rfl
    · have eg := hget o hout
      (repeat (first | refine pSeq ?_ | refine pReg ?_ | refine sRaw ?_ | refine sCons ?_ | refine sNil ?_ | refine rCons ?_ | refine rNil ?_ | refine kNo ?_ | refine pRow ?_ | refine pBlock ?_ | refine pSkip ?_ | refine pExit ?_ | refine pRet ?_ | refine pCond ?_ | refine gNone ?_ | refine gOn rfl ?_ | refine gOff rfl rfl ?_))
      intro q hq
      obtain rfl : q = true := by rw [hq]; decide
      (repeat (first | refine pSeq ?_ | refine pReg ?_ | refine sRaw ?_ | refine sCons ?_ | refine sNil ?_ | refine rCons ?_ | refine rNil ?_ | refine kNo ?_ | refine pRow ?_ | refine pBlock ?_ | refine pSkip ?_ | refine pExit ?_ | refine pRet ?_ | refine pCond ?_ | refine gNone ?_ | refine gOn rfl ?_ | refine gOff rfl rfl ?_))
      refine ⟨⟨by omega, by show (o : Int) < (N.length : Int); omega⟩, ?_⟩
      intro k2 hk2 o2 hof
      obtain rfl : k2 = o := by omega
      rw [Nat.zero_add, Nat.mul_one] at hof
      subst hof
      (repeat (first | refine pSeq ?_ | refine pReg ?_ | refine sRaw ?_ | refine sCons ?_ | refine sNil ?_ | refine rCons ?_ | refine rNil ?_ | refine kNo ?_ | refine pRow ?_ | refine pBlock ?_ | refine pSkip ?_ | refine pExit ?_ | refine pRet ?_ | refine pCond ?_ | refine gNone ?_ | refine gOn rfl ?_ | refine gOff rfl rfl ?_))
      refine ldI_is rfl hbn (bytesV_get (show o2 < N.length by omega)) ?_
      (repeat (first | refine pSeq ?_ | refine pReg ?_ | refine sRaw ?_ | refine sCons ?_ | refine sNil ?_ | refine rCons ?_ | refine rNil ?_ | refine kNo ?_ | refine pRow ?_ | refine pBlock ?_ | refine pSkip ?_ | refine pExit ?_ | refine pRet ?_ | refine pCond ?_ | refine gNone ?_ | refine gOn rfl ?_ | refine gOff rfl rfl ?_))
      intro q hq
      obtain rfl : q = false := by rw [hq, eg]; simp
      (repeat (first | refine pSeq ?_ | refine pReg ?_ | refine sRaw ?_ | refine sCons ?_ | refine sNil ?_ | refine rCons ?_ | refine rNil ?_ | refine kNo ?_ | refine pRow ?_ | refine pBlock ?_ | refine pSkip ?_ | refine pExit ?_ | refine pRet ?_ | refine pCond ?_ | refine gNone ?_ | refine gOn rfl ?_ | refine gOff rfl rfl ?_))
      intro z hz
      rw [i64_id (by omega)] at hz
      (repeat (first | refine pSeq ?_ | refine pReg ?_ | refine sRaw ?_ | refine sCons ?_ | refine sNil ?_ | refine rCons ?_ | refine rNil ?_ | refine kNo ?_ | refine pRow ?_ | refine pBlock ?_ | refine pSkip ?_ | refine pExit ?_ | refine pRet ?_ | refine pCond ?_ | refine gNone ?_ | refine gOn rfl ?_ | refine gOff rfl rfl ?_))
      refine ⟨o2 + 1, hlt, by show A3.now.length - (o2 + 1) < A3.now.length - o2; omega, Wk.same ⟨rfl, rfl, rfl, rfl, rfl, rfl, ?_, trivial⟩⟩
      subst hz
      rfl
  obtain rfl : q = false := by rw [hq]; simp; omega
  (repeat (first | refine pSeq ?_ | refine pReg ?_ | refine sRaw ?_ | refine sCons ?_ | refine sNil ?_ | refine rCons ?_ | refine rNil ?_ | refine kNo ?_ | refine pRow ?_ | refine pBlock ?_ | refine pSkip ?_ | refine pExit ?_ | refine pRet ?_ | refine pCond ?_ | refine gNone ?_ | refine gOn rfl ?_ | refine gOff rfl rfl ?_))
  refine pLoop (MW.head good (fun i : Nat => N.length - i) (fun i => A3.now.length ≤ i ∧ i ≤ N.length)
    (fun i => [(7, .pointer (some ⟨d, 0, none⟩)), (9, .map (some m)), (14, .slice T2 N.length 0), (17, .int .i64 i)]) (fun _ => s8) A3.now.length ⟨Nat.le_refl _, hlen⟩ ?_ ?_)
  · exact Wk.same ⟨rfl, rfl, rfl, rfl, trivial⟩
  intro i ⟨hi1, hi2⟩
  (repeat (first | refine pSeq ?_ | refine pReg ?_ | refine sRaw ?_ | refine sCons ?_ | refine sNil ?_ | refine rCons ?_ | refine rNil ?_ | refine kNo ?_ | refine pRow ?_ | refine pBlock ?_ | refine pSkip ?_ | refine pExit ?_ | refine pRet ?_ | refine pCond ?_ | refine gNone ?_ | refine gOn rfl ?_ | refine gOff rfl rfl ?_))
  intro q hq
  by_cases hlt : i < N.length
  · obtain rfl : q = true := by rw [hq]; simp; omega
    obtain ⟨bn, gn, rfl, hbn⟩ := t8.some_at hlt
    (repeat (first | refine pSeq ?_ | refine pReg ?_ | refine sRaw ?_ | refine sCons ?_ | refine sNil ?_ | refine rCons ?_ | refine rNil ?_ | refine kNo ?_ | refine pRow ?_ | refine pBlock ?_ | refine pSkip ?_ | refine pExit ?_ | refine pRet ?_ | refine pCond ?_ | refine gNone ?_ | refine gOn rfl ?_ | refine gOff rfl rfl ?_))
    refine lookup_w m8 rfl rfl rfl (fun hin => ?_) (fun hout => ?_)
    · (repeat (first | refine pSeq ?_ | refine pReg ?_ | refine sRaw ?_ | refine sCons ?_ | refine sNil ?_ | refine rCons ?_ | refine rNil ?_ | refine kNo ?_ | refine pRow ?_ | refine pBlock ?_ | refine pSkip ?_ | refine pExit ?_ | refine pRet ?_ | refine pCond ?_ | refine gNone ?_ | refine gOn rfl ?_ | refine gOff rfl rfl ?_))
      intro q hq
      obtain rfl : q = false := by rw [hq]; decide
      (repeat (first | refine pSeq ?_ | refine pReg ?_ | refine sRaw ?_ | refine sCons ?_ | refine sNil ?_ | refine rCons ?_ | refine rNil ?_ | refine kNo ?_ | refine pRow ?_ | refine pBlock ?_ | refine pSkip ?_ | refine pExit ?_ | refine pRet ?_ | refine pCond ?_ | refine gNone ?_ | refine gOn rfl ?_ | refine gOff rfl rfl ?_))
      intro z hz
      rw [i64_id (by omega)] at hz
      (repeat (first | refine pSeq ?_ | refine pReg ?_ | refine sRaw ?_ | refine sCons ?_ | refine sNil ?_ | refine rCons ?_ | refine rNil ?_ | refine kNo ?_ | refine pRow ?_ | refine pBlock ?_ | refine pSkip ?_ | refine pExit ?_ | refine pRet ?_ | refine pCond ?_ | refine gNone ?_ | refine gOn rfl ?_ | refine gOff rfl rfl ?_))
      refine ⟨i + 1, ⟨by omega, hlt⟩, by show N.length - (i + 1) < N.length - i; omega, Wk.same ⟨rfl, rfl, rfl, ?_, trivial⟩⟩
      subst hz
      rfl
    · have eg := hget i hout
      have e0 : A3.now.getD i 0 = 0 := by rw [List.getD, List.getElem?_eq_none hi1]; rfl
      rw [e0] at eg
      (repeat (first | refine pSeq ?_ | refine pReg ?_ | refine sRaw ?_ | refine sCons ?_ | refine sNil ?_ | refine rCons ?_ | refine rNil ?_ | refine kNo ?_ | refine pRow ?_ | refine pBlock ?_ | refine pSkip ?_ | refine pExit ?_ | refine pRet ?_ | refine pCond ?_ | refine gNone ?_ | refine gOn rfl ?_ | refine gOff rfl rfl ?_))
      intro q hq
      obtain rfl : q = true := by rw [hq]; decide
      (repeat (first | refine pSeq ?_ | refine pReg ?_ | refine sRaw ?_ | refine sCons ?_ | refine sNil ?_ | refine rCons ?_ | refine rNil ?_ | refine kNo ?_ | refine pRow ?_ | refine pBlock ?_ | refine pSkip ?_ | refine pExit ?_ | refine pRet ?_ | refine pCond ?_ | refine gNone ?_ | refine gOn rfl ?_ | refine gOff rfl rfl ?_))
      refine ⟨⟨by omega, by show (i : Int) < (N.length : Int); omega⟩, ?_⟩
      intro k2 hk2 o2 hof
      obtain rfl : k2 = i := by omega
      rw [Nat.zero_add, Nat.mul_one] at hof
      subst hof
      (repeat (first | refine pSeq ?_ | refine pReg ?_ | refine sRaw ?_ | refine sCons ?_ | refine sNil ?_ | refine rCons ?_ | refine rNil ?_ | refine kNo ?_ | refine pRow ?_ | refine pBlock ?_ | refine pSkip ?_ | refine pExit ?_ | refine pRet ?_ | refine pCond ?_ | refine gNone ?_ | refine gOn rfl ?_ | refine gOff rfl rfl ?_))
      refine ldI_is rfl hbn (bytesV_get hlt) ?_
      (repeat (first | refine pSeq ?_ | refine pReg ?_ | refine sRaw ?_ | refine sCons ?_ | refine sNil ?_ | refine rCons ?_ | refine rNil ?_ | refine kNo ?_ | refine pRow ?_ | refine pBlock ?_ | refine pSkip ?_ | refine pExit ?_ | refine pRet ?_ | refine pCond ?_ | refine gNone ?_ | refine gOn rfl ?_ | refine gOff rfl rfl ?_))
      intro q hq
      obtain rfl : q = false := by rw [hq, eg]; decide
      (repeat (first | refine pSeq ?_ | refine pReg ?_ | refine sRaw ?_ | refine sCons ?_ | refine sNil ?_ | refine rCons ?_ | refine rNil ?_ | refine kNo ?_ | refine pRow ?_ | refine pBlock ?_ | refine pSkip ?_ | refine pExit ?_ | refine pRet ?_ | refine pCond ?_ | refine gNone ?_ | refine gOn rfl ?_ | refine gOff rfl rfl ?_))
      intro z hz
      rw [i64_id (by omega)] at hz
      (repeat (first | refine pSeq ?_ | refine pReg ?_ | refine sRaw ?_ | refine sCons ?_ | refine sNil ?_ | refine rCons ?_ | refine rNil ?_ | refine kNo ?_ | refine pRow ?_ | refine pBlock ?_ | refine pSkip ?_ | refine pExit ?_ | refine pRet ?_ | refine pCond ?_ | refine gNone ?_ | refine gOn rfl ?_ | refine gOff rfl rfl ?_))
      refine ⟨o2 + 1, ⟨by omega, hlt⟩, by show N.length - (o2 + 1) < N.length - o2; omega, Wk.same ⟨rfl, rfl, rfl, ?_, trivial⟩⟩
      subst hz
      rfl
  obtain rfl : q = false := by rw [hq]; simp; omega
  (repeat (first | refine pSeq ?_ | refine pReg ?_ | refine sRaw ?_ | refine sCons ?_ | refine sNil ?_ | refine rCons ?_ | refine rNil ?_ | refine kNo ?_ | refine pRow ?_ | refine pBlock ?_ | refine pSkip ?_ | refine pExit ?_ | refine pRet ?_ | refine pCond ?_ | refine gNone ?_ | refine gOn rfl ?_ | refine gOff rfl rfl ?_))
  have cZ := Chg.new (s := s8) (b := .cells [.int .i64 9, .int .i64 9] tI false false) []
  have kZ : RdI { s8 with heap := (s8.next, some (.cells [.int .i64 9, .int .i64 9] tI false false)) :: s8.heap, next := s8.next + 1 } (some ⟨s8.next, 0, none⟩) 2 [9, 9] := by
    refine ⟨rfl, rfl, Nat.lt_succ_self _, _, _, _, lkH, fun i hi => ?_⟩
    match i, hi with
    | 0, _ => rfl
    | 1, _ => rfl
  have h9 := h8.chg cZ (fun _ _ => by simp)
  refine (crash_w h9 (cZ.fine f8) kZ).mono fun v s10 q => ?_
  obtain ⟨rfl, B10, h10, st10, w10⟩ := q
  have t10 := (t8.chg cZ (fun _ _ => by simp)).chg st10.chg (fun id q r => n8.not h7 id q (foot_whole r))
  (repeat (first | refine pSeq ?_ | refine pReg ?_ | refine sRaw ?_ | refine sCons ?_ | refine sNil ?_ | refine rCons ?_ | refine rNil ?_ | refine kNo ?_ | refine pRow ?_ | refine pBlock ?_ | refine pSkip ?_ | refine pExit ?_ | refine pRet ?_ | refine pCond ?_ | refine gNone ?_ | refine gOn rfl ?_ | refine gOff rfl rfl ?_))
  intro q hq
  obtain rfl : q = true := by rw [hq]; simp
  (repeat (first | refine pSeq ?_ | refine pReg ?_ | refine sRaw ?_ | refine sCons ?_ | refine sNil ?_ | refine rCons ?_ | refine rNil ?_ | refine kNo ?_ | refine pRow ?_ | refine pBlock ?_ | refine pSkip ?_ | refine pExit ?_ | refine pRet ?_ | refine pCond ?_ | refine gNone ?_ | refine gOn rfl ?_ | refine gOff rfl rfl ?_))
  refine (read_w h10 (by decide)).mono fun v s11 q => ?_
  obtain ⟨T3, rfl, t11, n11, c11⟩ := q
  have e10 : (({ A6 with sure := N, now := N, ws := [] } : Dk).crashed [9, 9]).read 0 1048576 = N := (read_all (A := ({ A6 with sure := N, now := N, ws := [] } : Dk).crashed [9, 9]) hNl).trans rfl
  rw [e10] at t11 ⊢
  have t11' := t10.chg c11 (fun _ _ => by simp)
  (repeat (first | refine pSeq ?_ | refine pReg ?_ | refine sRaw ?_ | refine sCons ?_ | refine sNil ?_ | refine rCons ?_ | refine rNil ?_ | refine kNo ?_ | refine pRow ?_ | refine pBlock ?_ | refine pSkip ?_ | refine pExit ?_ | refine pRet ?_ | refine pCond ?_ | refine gNone ?_ | refine gOn rfl ?_ | refine gOff rfl rfl ?_))
  refine (equal_w t11.rdb t11'.rdb).mono fun v s11 q => ?_
  obtain ⟨rfl, rfl⟩ := q
  rw [decide_eq_true rfl]
  have hgl : s11.gl = 0 := by
    rw [c11.gl, st10.chg.gl, cZ.gl, c8.gl, st7.chg.gl, gl6, g5]
  (repeat (first | refine pSeq ?_ | refine pReg ?_ | refine sRaw ?_ | refine sCons ?_ | refine sNil ?_ | refine rCons ?_ | refine rNil ?_ | refine kNo ?_ | refine pRow ?_ | refine pBlock ?_ | refine pSkip ?_ | refine pExit ?_ | refine pRet ?_ | refine pCond ?_ | refine gNone ?_ | refine gOn rfl ?_ | refine gOff rfl rfl ?_))
  refine (wakes_w hgl).mono fun v s12 q => ?_
  obtain ⟨rfl, rfl⟩ := q
  (repeat (first | refine pSeq ?_ | refine pReg ?_ | refine sRaw ?_ | refine sCons ?_ | refine sNil ?_ | refine rCons ?_ | refine rNil ?_ | refine kNo ?_ | refine pRow ?_ | refine pBlock ?_ | refine pSkip ?_ | refine pExit ?_ | refine pRet ?_ | refine pCond ?_ | refine gNone ?_ | refine gOn rfl ?_ | refine gOff rfl rfl ?_))
  rfl
end Go.Vf.S
