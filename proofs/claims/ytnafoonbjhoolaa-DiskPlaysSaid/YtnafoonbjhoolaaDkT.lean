import Derived.Test.YtnafoonbjhoolaaDkS
/- What the law DiskPlays says, from any state. -/
namespace Go.Vf.S
open Go Go.Vf
attribute [local irreducible] wSeq wRow wp
set_option linter.unusedVariables false
set_option linter.unusedSimpArgs false
set_option maxRecDepth 10000

/-- A copy, and what was read of it. -/
abbrev Tw := Option (Nat × Bs × Dk × Option Addr)
def twV : Tw → Value
  | none => .pointer none
  | some (dt, _, _, _) => .pointer (some ⟨dt, 0, none⟩)
def keV : Tw → Value
  | none => .slice none 0 0
  | some (_, _, A, K) => .slice K A.now.length 0
def TwOk (s : SS) (d r : Nat) (B : Bs) (R : RB) : Tw → Prop
  | none => True
  | some (dt, Bt, At, K) => DAt s dt At Bt ∧ (∀ id ∈ whole dt Bt, id ∉ whole d B ∧ id ∉ rwhole r R) ∧ Own tB s K At.now ∧ ∀ id ∈ blkOf K, id ∉ whole d B ∧ id ∉ rwhole r R

theorem TwOk.chg0 {s s' : SS} {d r : Nat} {B : Bs} {R : RB} {tw : Tw} (h : TwOk s d r B R tw) (c : Chg s s' []) : TwOk s' d r B R tw := by
  cases tw with
  | none => trivial
  | some x =>
    obtain ⟨dt, Bt, At, K⟩ := x
    obtain ⟨h1, h2, h3, h4⟩ := h
    exact ⟨h1.chg c (fun _ _ => by simp), h2, h3.chg c (fun _ _ => by simp), h4⟩

structure PlS where
  i : Nat
  s : SS
  B : Bs
  R : RB
  tw : Tw

structure PlI (d r c : Nat) (fw : List AV) (ob : Option Addr) (x : PlS) : Prop where
  le : x.i ≤ fw.length
  both : Both x.s d r ((fw.take x.i).foldl Dk.one (Dk.made c)) x.B x.R
  row : OwnR tA x.s ob 0 fw.length (aCells fw)
  acts : ∀ a ∈ fw, ActOk x.s a
  fine : Fine x.s
  gl : x.s.gl = 0
  few : x.B.wl.length ≤ x.i
  rfew : x.R.wl.length ≤ x.i
  tw : TwOk x.s d r x.B x.R x.tw

theorem step_eq {fw : List AV} {k c : Nat} (h : k < fw.length) : (fw.take (k + 1)).foldl Dk.one (Dk.made c) = Dk.one ((fw.take k).foldl Dk.one (Dk.made c)) fw[k] := by
  rw [List.take_add_one, List.foldl_append, List.getElem?_eq_getElem h]
  rfl

theorem pl_step {s s' : SS} {d r : Nat} {A : Dk} {B B' : Bs} {R R' : RB} {fw : List AV} {ob : Option Addr} {tw : Tw} (h : Both s d r A B R) (t : Two d r s B R s' B' R') (ho : OwnR tA s ob 0 fw.length (aCells fw)) (ha : ∀ a ∈ fw, ActOk s a) (hT : TwOk s d r B R tw) (hf : Fine s) (hg : s.gl = 0) :
    OwnR tA s' ob 0 fw.length (aCells fw) ∧ (∀ a ∈ fw, ActOk s' a) ∧ TwOk s' d r B' R' tw ∧ Fine s' ∧ s'.gl = 0 := by
  have no : ∀ id, id ∈ foot d B ++ rfoot r R → id ∈ whole d B ∨ id ∈ rwhole r R := fun id q => (List.mem_append.1 q).imp foot_whole (fun q => List.mem_append_left _ q)
  refine ⟨ho.chg t.chg fun id q q2 => ?_, fun a hx => (ha a hx).chg t.chg fun id q q2 => ?_, ?_, t.chg.fine hf, by rw [t.chg.gl]; exact hg⟩
  · obtain ⟨g, e⟩ := ho.at id q
    rcases List.mem_append.1 q2 with q2 | q2
    · exact h.disk.foot3 e ⟨by decide, by decide, by decide⟩ (foot_whole q2)
    · exact h.ref.foot3 e ⟨by decide, by decide⟩ q2
  · obtain ⟨_, _, _, e⟩ := (ha a hx).ro id q
    rcases no id q2 with q2 | q2
    · exact h.disk.footR e q2
    · exact h.ref.footR e q2
  · cases tw with
    | none => trivial
    | some x =>
      obtain ⟨dt, Bt, At, K⟩ := x
      obtain ⟨h1, h2, h3, h4⟩ := hT
      have key : ∀ id, id < s.next → (id ∉ whole d B ∧ id ∉ rwhole r R) → id ∉ whole d B' ∧ id ∉ rwhole r R' := fun id hlt q => ⟨fun q2 => (t.al id q2).elim q.1 (fun q2 => by omega), fun q2 => (t.rl id q2).elim q.2 (fun q2 => by omega)⟩
      exact ⟨h1.chg t.chg (fun id q q2 => (no id q2).elim (h2 id q).1 (h2 id q).2), fun id q => key id (h1.blt id q) (h2 id q), h3.chg t.chg (fun id q q2 => (no id q2).elim (h4 id q).1 (h4 id q).2), fun id q => key id (h3.lt id q) (h4 id q)⟩

set_option maxHeartbeats 4000000 in
theorem plays_w {s : SS} {lb : Option Addr} {l : List AV} {cap : Int} (hl : InA s lb l) (hf : Fine s) (hg : s.gl = 0) :
    CallW pr n_law01_DiskPlays [.int .i64 cap, .slice lb l.length 0] s fun v _ => v = .bool true := by
  refine CallW.run good ok_law01_DiskPlays (by simp) rfl ?_
  (repeat (first | refine pSeq ?_ | refine pReg ?_ | refine sRaw ?_ | refine sCons ?_ | refine sNil ?_ | refine rCons ?_ | refine rNil ?_ | refine kNo ?_ | refine pRow ?_ | refine pBlock ?_ | refine pSkip ?_ | refine pExit ?_ | refine pRet ?_ | refine pCond ?_ | refine gNone ?_ | refine gOn rfl ?_ | refine gOff rfl rfl ?_))
  by_cases hbad : cap < 0 ∨ 1048576 < cap
  · refine (new_bad hbad).mono fun v s q => ?_
    obtain ⟨rfl, rfl⟩ := q
    (repeat (first | refine pSeq ?_ | refine pReg ?_ | refine sRaw ?_ | refine sCons ?_ | refine sNil ?_ | refine rCons ?_ | refine rNil ?_ | refine kNo ?_ | refine pRow ?_ | refine pBlock ?_ | refine pSkip ?_ | refine pExit ?_ | refine pRet ?_ | refine pCond ?_ | refine gNone ?_ | refine gOn rfl ?_ | refine gOff rfl rfl ?_))
    refine (rnew_bad hbad).mono fun v s q => ?_
    obtain ⟨rfl, rfl⟩ := q
    (repeat (first | refine pSeq ?_ | refine pReg ?_ | refine sRaw ?_ | refine sCons ?_ | refine sNil ?_ | refine rCons ?_ | refine rNil ?_ | refine kNo ?_ | refine pRow ?_ | refine pBlock ?_ | refine pSkip ?_ | refine pExit ?_ | refine pRet ?_ | refine pCond ?_ | refine gNone ?_ | refine gOn rfl ?_ | refine gOff rfl rfl ?_))
    intro q hq
    obtain rfl : q = false := by rw [hq]; decide
    (repeat (first | refine pSeq ?_ | refine pReg ?_ | refine sRaw ?_ | refine sCons ?_ | refine sNil ?_ | refine rCons ?_ | refine rNil ?_ | refine kNo ?_ | refine pRow ?_ | refine pBlock ?_ | refine pSkip ?_ | refine pExit ?_ | refine pRet ?_ | refine pCond ?_ | refine gNone ?_ | refine gOn rfl ?_ | refine gOff rfl rfl ?_))
    intro q hq
    obtain rfl : q = true := by rw [hq]; decide
    (repeat (first | refine pSeq ?_ | refine pReg ?_ | refine sRaw ?_ | refine sCons ?_ | refine sNil ?_ | refine rCons ?_ | refine rNil ?_ | refine kNo ?_ | refine pRow ?_ | refine pBlock ?_ | refine pSkip ?_ | refine pExit ?_ | refine pRet ?_ | refine pCond ?_ | refine gNone ?_ | refine gOn rfl ?_ | refine gOff rfl rfl ?_))
    intro q hq
    obtain rfl : q = true := hq
    (repeat (first | refine pSeq ?_ | refine pReg ?_ | refine sRaw ?_ | refine sCons ?_ | refine sNil ?_ | refine rCons ?_ | refine rNil ?_ | refine kNo ?_ | refine pRow ?_ | refine pBlock ?_ | refine pSkip ?_ | refine pExit ?_ | refine pRet ?_ | refine pCond ?_ | refine gNone ?_ | refine gOn rfl ?_ | refine gOff rfl rfl ?_))
    refine (wakes_w hg).mono fun v s q => ?_
    obtain ⟨rfl, rfl⟩ := q
    (repeat (first | refine pSeq ?_ | refine pReg ?_ | refine sRaw ?_ | refine sCons ?_ | refine sNil ?_ | refine rCons ?_ | refine rNil ?_ | refine kNo ?_ | refine pRow ?_ | refine pBlock ?_ | refine pSkip ?_ | refine pExit ?_ | refine pRet ?_ | refine pCond ?_ | refine gNone ?_ | refine gOn rfl ?_ | refine gOff rfl rfl ?_))
    rfl
  obtain ⟨c, rfl⟩ := Int.eq_ofNat_of_zero_le (show 0 ≤ cap by omega)
  refine (new_w (c := c) (by omega)).mono fun v s1 q => ?_
  obtain ⟨d, hd, rfl, h1, c1⟩ := q
  (repeat (first | refine pSeq ?_ | refine pReg ?_ | refine sRaw ?_ | refine sCons ?_ | refine sNil ?_ | refine rCons ?_ | refine rNil ?_ | refine kNo ?_ | refine pRow ?_ | refine pBlock ?_ | refine pSkip ?_ | refine pExit ?_ | refine pRet ?_ | refine pCond ?_ | refine gNone ?_ | refine gOn rfl ?_ | refine gOff rfl rfl ?_))
  refine (rnew_w (c := c) (by omega)).mono fun v s2 q => ?_
  obtain ⟨r, hr, rfl, r2, c2⟩ := q
  have hB2 : Both s2 d r (Dk.made c) B0 ⟨none, none, 0, []⟩ := ⟨h1.chg c2 (fun _ _ => by simp), r2, inv_made c, fun id q => by simp [rbytes, blkOf] at q⟩
  (repeat (first | refine pSeq ?_ | refine pReg ?_ | refine sRaw ?_ | refine sCons ?_ | refine sNil ?_ | refine rCons ?_ | refine rNil ?_ | refine kNo ?_ | refine pRow ?_ | refine pBlock ?_ | refine pSkip ?_ | refine pExit ?_ | refine pRet ?_ | refine pCond ?_ | refine gNone ?_ | refine gOn rfl ?_ | refine gOff rfl rfl ?_))
  intro q hq
  obtain rfl : q = false := by rw [hq]; decide
  (repeat (first | refine pSeq ?_ | refine pReg ?_ | refine sRaw ?_ | refine sCons ?_ | refine sNil ?_ | refine rCons ?_ | refine rNil ?_ | refine kNo ?_ | refine pRow ?_ | refine pBlock ?_ | refine pSkip ?_ | refine pExit ?_ | refine pRet ?_ | refine pCond ?_ | refine gNone ?_ | refine gOn rfl ?_ | refine gOff rfl rfl ?_))
  intro q hq
  obtain rfl : q = false := by rw [hq]; decide
  (repeat (first | refine pSeq ?_ | refine pReg ?_ | refine sRaw ?_ | refine sCons ?_ | refine sNil ?_ | refine rCons ?_ | refine rNil ?_ | refine kNo ?_ | refine pRow ?_ | refine pBlock ?_ | refine pSkip ?_ | refine pExit ?_ | refine pRet ?_ | refine pCond ?_ | refine gNone ?_ | refine gOn rfl ?_ | refine gOff rfl rfl ?_))
  refine (few_w (m := 40) ((hl.chg0 c1).chg0 c2) (c2.fine (c1.fine hf)) (by decide)).mono fun v s3 q => ?_
  obtain ⟨ob, rfl, ho, hno, c3⟩ := q
  have hfl : (fewV 40 l).length ≤ 40 := by simp [fewV]; omega
  have hll := hl.2.2
  have hacts0 : ∀ a ∈ fewV 40 l, ActOk s3 a ∧ a.bl.length ≤ 40 := by
    intro a ha
    obtain ⟨x, hx, rfl⟩ := List.mem_map.1 ha
    refine ⟨((hl.2.1 x (List.mem_of_mem_take hx)).chg ((c1.nil c2).nil c3) (fun _ _ => by simp)).cut, ?_⟩
    show (x.bl.take 40).length ≤ 40
    rw [List.length_take]
    omega
  generalize hfw : fewV 40 l = fw at *
  have hacts : ∀ a ∈ fw, a.bl.length ≤ 40 := fun a ha => (hacts0 a ha).2
  (repeat (first | refine pSeq ?_ | refine pReg ?_ | refine sRaw ?_ | refine sCons ?_ | refine sNil ?_ | refine rCons ?_ | refine rNil ?_ | refine kNo ?_ | refine pRow ?_ | refine pBlock ?_ | refine pSkip ?_ | refine pExit ?_ | refine pRet ?_ | refine pCond ?_ | refine gNone ?_ | refine gOn rfl ?_ | refine gOff rfl rfl ?_))
  refine pLoop (MW.head good (fun x : PlS => fw.length - x.i) (PlI d r c fw ob)
    (fun x => [(1, .slice lb l.length 0), (5, .pointer (some ⟨d, 0, none⟩)), (7, .pointer (some ⟨r, 0, none⟩)), (9, twV x.tw), (10, keV x.tw), (35, .slice ob fw.length 0), (36, .int .i64 fw.length), (37, .int .i64 x.i)]) (fun x => x.s) ⟨0, s3, B0, ⟨none, none, 0, []⟩, none⟩
    ⟨Nat.zero_le _, hB2.chg0 c3, ho, fun a ha => (hacts0 a ha).1, c3.fine (c2.fine (c1.fine hf)), by dsimp only; rw [c3.gl, c2.gl, c1.gl, hg], Nat.zero_le _, Nat.zero_le _, trivial⟩ (Wk.same ⟨rfl, rfl, rfl, rfl, rfl, rfl, rfl, rfl, trivial⟩) ?_)
  intro ⟨i, s4, B4, R4, tw4⟩ hI
  obtain ⟨hi, h4, ho4, ha4, f4, g4, few4, rfew4, hT4⟩ := hI
  dsimp only at hi h4 ho4 ha4 f4 g4 few4 rfew4 hT4 ⊢
  (repeat (first | refine pSeq ?_ | refine pReg ?_ | refine sRaw ?_ | refine sCons ?_ | refine sNil ?_ | refine rCons ?_ | refine rNil ?_ | refine kNo ?_ | refine pRow ?_ | refine pBlock ?_ | refine pSkip ?_ | refine pExit ?_ | refine pRet ?_ | refine pCond ?_ | refine gNone ?_ | refine gOn rfl ?_ | refine gOff rfl rfl ?_))
  intro q hq
  by_cases hlt : i < fw.length
  · obtain rfl : q = true := by rw [hq]; simp; omega
    obtain ⟨b, g, rfl, hb⟩ := ho4.pos (by omega)
    (repeat (first | refine pSeq ?_ | refine pReg ?_ | refine sRaw ?_ | refine sCons ?_ | refine sNil ?_ | refine rCons ?_ | refine rNil ?_ | refine kNo ?_ | refine pRow ?_ | refine pBlock ?_ | refine pSkip ?_ | refine pExit ?_ | refine pRet ?_ | refine pCond ?_ | refine gNone ?_ | refine gOn rfl ?_ | refine gOff rfl rfl ?_))
    refine ⟨⟨by omega, Int.ofNat_lt.2 hlt⟩, ?_⟩
    intro k hk o hof
    obtain rfl : k = i := by omega
    rw [Nat.zero_add] at hof
    subst hof
    (repeat (first | refine pSeq ?_ | refine pReg ?_ | refine sRaw ?_ | refine sCons ?_ | refine sNil ?_ | refine rCons ?_ | refine rNil ?_ | refine kNo ?_ | refine pRow ?_ | refine pBlock ?_ | refine pSkip ?_ | refine pExit ?_ | refine pRet ?_ | refine pCond ?_ | refine gNone ?_ | refine gOn rfl ?_ | refine gOff rfl rfl ?_))
    refine ldN_is rfl hb (aCells_at hlt) ?_
    (repeat (first | refine pSeq ?_ | refine pReg ?_ | refine sRaw ?_ | refine sCons ?_ | refine sNil ?_ | refine rCons ?_ | refine rNil ?_ | refine kNo ?_ | refine pRow ?_ | refine pBlock ?_ | refine pSkip ?_ | refine pExit ?_ | refine pRet ?_ | refine pCond ?_ | refine gNone ?_ | refine gOn rfl ?_ | refine gOff rfl rfl ?_))
    have cA := Chg.new (s := s4) (b := .cells [.int .i64 0, .int .i64 0, .int .i64 0, .slice none 0 0, .slice none 0 0] tA false false) []
    refine st_abs (cs' := aCell fw[k]) rfl rfl lkH (Nat.lt_succ_self _) rfl rfl fun s5 hbox c5 hn5 => ?_
    have hn5 : s5.next = s4.next + 1 := hn5
    have c45 : Chg s4 s5 [] := cA.fresh c5 (fun id q => by simp at q; omega)
    have h5 := h4.chg0 c45
    have ho5 := ho4.chg c45 (fun _ _ => by simp)
    have ha5 := fun a ha => (ha4 a ha).chg c45 (fun _ _ => by simp)
    have hT5 := hT4.chg0 c45
    have f5 := c45.fine f4
    have g5 : s5.gl = 0 := by rw [c45.gl]; exact g4
    have blt5 := h5.disk.blt
    have rlt5 := h5.ref.blt
    have hcap5 := h5.disk.cap
    have hnow5 := h5.disk.lnow
    (repeat (first | refine pSeq ?_ | refine pReg ?_ | refine sRaw ?_ | refine sCons ?_ | refine sNil ?_ | refine rCons ?_ | refine rNil ?_ | refine kNo ?_ | refine pRow ?_ | refine pBlock ?_ | refine pSkip ?_ | refine pExit ?_ | refine pRet ?_ | refine pCond ?_ | refine gNone ?_ | refine gOn rfl ?_ | refine gOff rfl rfl ?_))
    refine ⟨by decide, ?_⟩
    intro zz hzz
    (repeat (first | refine pSeq ?_ | refine pReg ?_ | refine sRaw ?_ | refine sCons ?_ | refine sNil ?_ | refine rCons ?_ | refine rNil ?_ | refine kNo ?_ | refine pRow ?_ | refine pBlock ?_ | refine pSkip ?_ | refine pExit ?_ | refine pRet ?_ | refine pCond ?_ | refine gNone ?_ | refine gOn rfl ?_ | refine gOff rfl rfl ?_))
    intro q hq
    cases q with
    | true =>
      (repeat (first | refine pSeq ?_ | refine pReg ?_ | refine sRaw ?_ | refine sCons ?_ | refine sNil ?_ | refine rCons ?_ | refine rNil ?_ | refine kNo ?_ | refine pRow ?_ | refine pBlock ?_ | refine pSkip ?_ | refine pExit ?_ | refine pRet ?_ | refine pCond ?_ | refine gNone ?_ | refine gOn rfl ?_ | refine gOff rfl rfl ?_))
      refine (copy_w h5.disk f5).mono fun v s6 q => ?_
      obtain ⟨dt, Bt, rfl, g6, c6, nBt⟩ := q
      (repeat (first | refine pSeq ?_ | refine pReg ?_ | refine sRaw ?_ | refine sCons ?_ | refine sNil ?_ | refine rCons ?_ | refine rNil ?_ | refine kNo ?_ | refine pRow ?_ | refine pBlock ?_ | refine pSkip ?_ | refine pExit ?_ | refine pRet ?_ | refine pCond ?_ | refine gNone ?_ | refine gOn rfl ?_ | refine gOff rfl rfl ?_))
      refine (read_w g6 (by decide)).mono fun v s7 q => ?_
      obtain ⟨K, rfl, o7, n7, c7⟩ := q
      rw [read_all (by omega)] at *
      have c57 := c6.nil c7
      have x6 := c6.next
      have hB7 := h5.chg0 c57
      have ho7 := ho5.chg c57 (fun _ _ => by simp)
      have ha7 := fun a ha => (ha5 a ha).chg c57 (fun _ _ => by simp)
      have hI7f := c57.fine f5
      have g7 : s7.gl = 0 := by rw [c57.gl]; exact g5
      have hbox7 := c57.blk _ _ (by omega) (by simp) hbox
      have hT7 : TwOk s7 d r B4 R4 (some (dt, Bt, (fw.take k).foldl Dk.one (Dk.made c), K)) := ⟨g6.chg c7 (fun _ _ => by simp), fun id q => ⟨fun q2 => by have := nBt id q; have := blt5 id q2; omega, fun q2 => by have := nBt id q; have := rlt5 id q2; omega⟩, o7,
        fun id q => ⟨fun q2 => by have := n7 id q; have := blt5 id q2; omega, fun q2 => by have := n7 id q; have := rlt5 id q2; omega⟩⟩
      have f7 := hI7f
      (repeat (first | refine pSeq ?_ | refine pReg ?_ | refine sRaw ?_ | refine sCons ?_ | refine sNil ?_ | refine rCons ?_ | refine rNil ?_ | refine kNo ?_ | refine pRow ?_ | refine pBlock ?_ | refine pSkip ?_ | refine pExit ?_ | refine pRet ?_ | refine pCond ?_ | refine gNone ?_ | refine gOn rfl ?_ | refine gOff rfl rfl ?_))
      refine ldN_is (new := aCell fw[k]) rfl hbox7 rfl ?_
      (repeat (first | refine pSeq ?_ | refine pReg ?_ | refine sRaw ?_ | refine sCons ?_ | refine sNil ?_ | refine rCons ?_ | refine rNil ?_ | refine kNo ?_ | refine pRow ?_ | refine pBlock ?_ | refine pSkip ?_ | refine pExit ?_ | refine pRet ?_ | refine pCond ?_ | refine gNone ?_ | refine gOn rfl ?_ | refine gOff rfl rfl ?_))
      refine (one_w hB7 f7 (ha7 _ (List.getElem_mem hlt)) (hacts _ (List.getElem_mem hlt)) ⟨by omega, by omega⟩).mono fun v s8 q => ?_
      obtain ⟨rfl, B8, R8, h8, t8, l8, m8⟩ := q
      obtain ⟨ho8, ha8, tw8, f8, g8⟩ := pl_step hB7 t8 ho7 ha7 hT7 f7 g7
      rw [← step_eq hlt] at h8
      generalize hA8 : ((fw.take (k + 1)).foldl Dk.one (Dk.made c)) = A8 at *
      have hcap8 := h8.disk.cap
      have hnow8 := h8.disk.lnow
      (repeat (first | refine pSeq ?_ | refine pReg ?_ | refine sRaw ?_ | refine sCons ?_ | refine sNil ?_ | refine rCons ?_ | refine rNil ?_ | refine kNo ?_ | refine pRow ?_ | refine pBlock ?_ | refine pSkip ?_ | refine pExit ?_ | refine pRet ?_ | refine pCond ?_ | refine gNone ?_ | refine gOn rfl ?_ | refine gOff rfl rfl ?_))
      intro q hq
      obtain rfl : q = false := hq
      (repeat (first | refine pSeq ?_ | refine pReg ?_ | refine sRaw ?_ | refine sCons ?_ | refine sNil ?_ | refine rCons ?_ | refine rNil ?_ | refine kNo ?_ | refine pRow ?_ | refine pBlock ?_ | refine pSkip ?_ | refine pExit ?_ | refine pRet ?_ | refine pCond ?_ | refine gNone ?_ | refine gOn rfl ?_ | refine gOff rfl rfl ?_))
      refine (seen_w h8.ref).mono fun v s9 q => ?_
      obtain ⟨O9, rfl, o9, n9, c9⟩ := q
      have h9 := h8.chg0 c9
      rw [show lays A8.ws A8.sure = A8.now from h8.inv.symm] at *
      have wsl : A8.ws.length = R8.wl.length := by rw [← h8.ref.ews, List.length_map]
      (repeat (first | refine pSeq ?_ | refine pReg ?_ | refine sRaw ?_ | refine sCons ?_ | refine sNil ?_ | refine rCons ?_ | refine rNil ?_ | refine kNo ?_ | refine pRow ?_ | refine pBlock ?_ | refine pSkip ?_ | refine pExit ?_ | refine pRet ?_ | refine pCond ?_ | refine gNone ?_ | refine gOn rfl ?_ | refine gOff rfl rfl ?_))
      refine (end_w h9.disk).mono fun v s9 q => ?_
      obtain ⟨rfl, rfl⟩ := q
      first
        | refine kAll .refl ?_
        | skip
      (repeat (first | refine pSeq ?_ | refine pReg ?_ | refine sRaw ?_ | refine sCons ?_ | refine sNil ?_ | refine rCons ?_ | refine rNil ?_ | refine kNo ?_ | refine pRow ?_ | refine pBlock ?_ | refine pSkip ?_ | refine pExit ?_ | refine pRet ?_ | refine pCond ?_ | refine gNone ?_ | refine gOn rfl ?_ | refine gOff rfl rfl ?_))
      intro q hq
      obtain rfl : q = false := by rw [hq]; simp
      (repeat (first | refine pSeq ?_ | refine pReg ?_ | refine sRaw ?_ | refine sCons ?_ | refine sNil ?_ | refine rCons ?_ | refine rNil ?_ | refine kNo ?_ | refine pRow ?_ | refine pBlock ?_ | refine pSkip ?_ | refine pExit ?_ | refine pRet ?_ | refine pCond ?_ | refine gNone ?_ | refine gOn rfl ?_ | refine gOff rfl rfl ?_))
      refine ld1_is rfl h9.ref.obj rfl ?_
      (repeat (first | refine pSeq ?_ | refine pReg ?_ | refine sRaw ?_ | refine sCons ?_ | refine sNil ?_ | refine rCons ?_ | refine rNil ?_ | refine kNo ?_ | refine pRow ?_ | refine pBlock ?_ | refine pSkip ?_ | refine pExit ?_ | refine pRet ?_ | refine pCond ?_ | refine gNone ?_ | refine gOn rfl ?_ | refine gOff rfl rfl ?_))
      refine (waits_w h9.disk).mono fun v s9 q => ?_
      obtain ⟨rfl, rfl⟩ := q
      first
        | refine kAll .refl ?_
        | skip
      (repeat (first | refine pSeq ?_ | refine pReg ?_ | refine sRaw ?_ | refine sCons ?_ | refine sNil ?_ | refine rCons ?_ | refine rNil ?_ | refine kNo ?_ | refine pRow ?_ | refine pBlock ?_ | refine pSkip ?_ | refine pExit ?_ | refine pRet ?_ | refine pCond ?_ | refine gNone ?_ | refine gOn rfl ?_ | refine gOff rfl rfl ?_))
      intro q hq
      obtain rfl : q = false := by rw [hq, wsl]; simp
      (repeat (first | refine pSeq ?_ | refine pReg ?_ | refine sRaw ?_ | refine sCons ?_ | refine sNil ?_ | refine rCons ?_ | refine rNil ?_ | refine kNo ?_ | refine pRow ?_ | refine pBlock ?_ | refine pSkip ?_ | refine pExit ?_ | refine pRet ?_ | refine pCond ?_ | refine gNone ?_ | refine gOn rfl ?_ | refine gOff rfl rfl ?_))
      refine (read_w h9.disk (by decide)).mono fun v s10 q => ?_
      obtain ⟨T10, rfl, o10, n10, c10⟩ := q
      rw [read_all (by omega)] at *
      have h10 := h9.chg0 c10
      have o910 := o9.chg c10 (fun _ _ => by simp)
      (repeat (first | refine pSeq ?_ | refine pReg ?_ | refine sRaw ?_ | refine sCons ?_ | refine sNil ?_ | refine rCons ?_ | refine rNil ?_ | refine kNo ?_ | refine pRow ?_ | refine pBlock ?_ | refine pSkip ?_ | refine pExit ?_ | refine pRet ?_ | refine pCond ?_ | refine gNone ?_ | refine gOn rfl ?_ | refine gOff rfl rfl ?_))
      refine (equal_w o10.rdb o910.rdb).mono fun v s10 q => ?_
      obtain ⟨rfl, rfl⟩ := q
      rw [decide_eq_true rfl]
      (repeat (first | refine pSeq ?_ | refine pReg ?_ | refine sRaw ?_ | refine sCons ?_ | refine sNil ?_ | refine rCons ?_ | refine rNil ?_ | refine kNo ?_ | refine pRow ?_ | refine pBlock ?_ | refine pSkip ?_ | refine pExit ?_ | refine pRet ?_ | refine pCond ?_ | refine gNone ?_ | refine gOn rfl ?_ | refine gOff rfl rfl ?_))
      intro q hq
      obtain rfl : q = false := hq
      (repeat (first | refine pSeq ?_ | refine pReg ?_ | refine sRaw ?_ | refine sCons ?_ | refine sNil ?_ | refine rCons ?_ | refine rNil ?_ | refine kNo ?_ | refine pRow ?_ | refine pBlock ?_ | refine pSkip ?_ | refine pExit ?_ | refine pRet ?_ | refine pCond ?_ | refine gNone ?_ | refine gOn rfl ?_ | refine gOff rfl rfl ?_))
      intro z hz
      rw [i64_id (by omega)] at hz
      (repeat (first | refine pSeq ?_ | refine pReg ?_ | refine sRaw ?_ | refine sCons ?_ | refine sNil ?_ | refine rCons ?_ | refine rNil ?_ | refine kNo ?_ | refine pRow ?_ | refine pBlock ?_ | refine pSkip ?_ | refine pExit ?_ | refine pRet ?_ | refine pCond ?_ | refine gNone ?_ | refine gOn rfl ?_ | refine gOff rfl rfl ?_))
      have c8 := c9.nil c10
      refine ⟨⟨k + 1, s10, B8, R8, some (dt, Bt, (fw.take k).foldl Dk.one (Dk.made c), K)⟩, ⟨hlt, by dsimp only; rw [hA8]; exact h10, ho8.chg c8 (fun _ _ => by simp), fun a ha => (ha8 a ha).chg c8 (fun _ _ => by simp), c8.fine f8, by dsimp only; rw [c8.gl]; exact g8, by dsimp only; omega, by dsimp only; omega, tw8.chg0 c8⟩, by dsimp only; omega, Wk.same ⟨rfl, rfl, rfl, rfl, rfl, rfl, rfl, ?_, trivial⟩⟩
      subst hz
      rfl
    | false =>
      have hB7 := h5
      have ho7 := ho5
      have ha7 := ha5
      have hI7f := f5
      have g7 := g5
      have hbox7 := hbox
      have hT7 := hT5
      have f7 := hI7f
      (repeat (first | refine pSeq ?_ | refine pReg ?_ | refine sRaw ?_ | refine sCons ?_ | refine sNil ?_ | refine rCons ?_ | refine rNil ?_ | refine kNo ?_ | refine pRow ?_ | refine pBlock ?_ | refine pSkip ?_ | refine pExit ?_ | refine pRet ?_ | refine pCond ?_ | refine gNone ?_ | refine gOn rfl ?_ | refine gOff rfl rfl ?_))
      refine ldN_is (new := aCell fw[k]) rfl hbox7 rfl ?_
      (repeat (first | refine pSeq ?_ | refine pReg ?_ | refine sRaw ?_ | refine sCons ?_ | refine sNil ?_ | refine rCons ?_ | refine rNil ?_ | refine kNo ?_ | refine pRow ?_ | refine pBlock ?_ | refine pSkip ?_ | refine pExit ?_ | refine pRet ?_ | refine pCond ?_ | refine gNone ?_ | refine gOn rfl ?_ | refine gOff rfl rfl ?_))
      refine (one_w hB7 f7 (ha7 _ (List.getElem_mem hlt)) (hacts _ (List.getElem_mem hlt)) ⟨by omega, by omega⟩).mono fun v s8 q => ?_
      obtain ⟨rfl, B8, R8, h8, t8, l8, m8⟩ := q
      obtain ⟨ho8, ha8, tw8, f8, g8⟩ := pl_step hB7 t8 ho7 ha7 hT7 f7 g7
      rw [← step_eq hlt] at h8
      generalize hA8 : ((fw.take (k + 1)).foldl Dk.one (Dk.made c)) = A8 at *
      have hcap8 := h8.disk.cap
      have hnow8 := h8.disk.lnow
      (repeat (first | refine pSeq ?_ | refine pReg ?_ | refine sRaw ?_ | refine sCons ?_ | refine sNil ?_ | refine rCons ?_ | refine rNil ?_ | refine kNo ?_ | refine pRow ?_ | refine pBlock ?_ | refine pSkip ?_ | refine pExit ?_ | refine pRet ?_ | refine pCond ?_ | refine gNone ?_ | refine gOn rfl ?_ | refine gOff rfl rfl ?_))
      intro q hq
      obtain rfl : q = false := hq
      (repeat (first | refine pSeq ?_ | refine pReg ?_ | refine sRaw ?_ | refine sCons ?_ | refine sNil ?_ | refine rCons ?_ | refine rNil ?_ | refine kNo ?_ | refine pRow ?_ | refine pBlock ?_ | refine pSkip ?_ | refine pExit ?_ | refine pRet ?_ | refine pCond ?_ | refine gNone ?_ | refine gOn rfl ?_ | refine gOff rfl rfl ?_))
      refine (seen_w h8.ref).mono fun v s9 q => ?_
      obtain ⟨O9, rfl, o9, n9, c9⟩ := q
      have h9 := h8.chg0 c9
      rw [show lays A8.ws A8.sure = A8.now from h8.inv.symm] at *
      have wsl : A8.ws.length = R8.wl.length := by rw [← h8.ref.ews, List.length_map]
      (repeat (first | refine pSeq ?_ | refine pReg ?_ | refine sRaw ?_ | refine sCons ?_ | refine sNil ?_ | refine rCons ?_ | refine rNil ?_ | refine kNo ?_ | refine pRow ?_ | refine pBlock ?_ | refine pSkip ?_ | refine pExit ?_ | refine pRet ?_ | refine pCond ?_ | refine gNone ?_ | refine gOn rfl ?_ | refine gOff rfl rfl ?_))
      refine (end_w h9.disk).mono fun v s9 q => ?_
      obtain ⟨rfl, rfl⟩ := q
      first
        | refine kAll .refl ?_
        | skip
      (repeat (first | refine pSeq ?_ | refine pReg ?_ | refine sRaw ?_ | refine sCons ?_ | refine sNil ?_ | refine rCons ?_ | refine rNil ?_ | refine kNo ?_ | refine pRow ?_ | refine pBlock ?_ | refine pSkip ?_ | refine pExit ?_ | refine pRet ?_ | refine pCond ?_ | refine gNone ?_ | refine gOn rfl ?_ | refine gOff rfl rfl ?_))
      intro q hq
      obtain rfl : q = false := by rw [hq]; simp
      (repeat (first | refine pSeq ?_ | refine pReg ?_ | refine sRaw ?_ | refine sCons ?_ | refine sNil ?_ | refine rCons ?_ | refine rNil ?_ | refine kNo ?_ | refine pRow ?_ | refine pBlock ?_ | refine pSkip ?_ | refine pExit ?_ | refine pRet ?_ | refine pCond ?_ | refine gNone ?_ | refine gOn rfl ?_ | refine gOff rfl rfl ?_))
      refine ld1_is rfl h9.ref.obj rfl ?_
      (repeat (first | refine pSeq ?_ | refine pReg ?_ | refine sRaw ?_ | refine sCons ?_ | refine sNil ?_ | refine rCons ?_ | refine rNil ?_ | refine kNo ?_ | refine pRow ?_ | refine pBlock ?_ | refine pSkip ?_ | refine pExit ?_ | refine pRet ?_ | refine pCond ?_ | refine gNone ?_ | refine gOn rfl ?_ | refine gOff rfl rfl ?_))
      refine (waits_w h9.disk).mono fun v s9 q => ?_
      obtain ⟨rfl, rfl⟩ := q
      first
        | refine kAll .refl ?_
        | skip
      (repeat (first | refine pSeq ?_ | refine pReg ?_ | refine sRaw ?_ | refine sCons ?_ | refine sNil ?_ | refine rCons ?_ | refine rNil ?_ | refine kNo ?_ | refine pRow ?_ | refine pBlock ?_ | refine pSkip ?_ | refine pExit ?_ | refine pRet ?_ | refine pCond ?_ | refine gNone ?_ | refine gOn rfl ?_ | refine gOff rfl rfl ?_))
      intro q hq
      obtain rfl : q = false := by rw [hq, wsl]; simp
      (repeat (first | refine pSeq ?_ | refine pReg ?_ | refine sRaw ?_ | refine sCons ?_ | refine sNil ?_ | refine rCons ?_ | refine rNil ?_ | refine kNo ?_ | refine pRow ?_ | refine pBlock ?_ | refine pSkip ?_ | refine pExit ?_ | refine pRet ?_ | refine pCond ?_ | refine gNone ?_ | refine gOn rfl ?_ | refine gOff rfl rfl ?_))
      refine (read_w h9.disk (by decide)).mono fun v s10 q => ?_
      obtain ⟨T10, rfl, o10, n10, c10⟩ := q
      rw [read_all (by omega)] at *
      have h10 := h9.chg0 c10
      have o910 := o9.chg c10 (fun _ _ => by simp)
      (repeat (first | refine pSeq ?_ | refine pReg ?_ | refine sRaw ?_ | refine sCons ?_ | refine sNil ?_ | refine rCons ?_ | refine rNil ?_ | refine kNo ?_ | refine pRow ?_ | refine pBlock ?_ | refine pSkip ?_ | refine pExit ?_ | refine pRet ?_ | refine pCond ?_ | refine gNone ?_ | refine gOn rfl ?_ | refine gOff rfl rfl ?_))
      refine (equal_w o10.rdb o910.rdb).mono fun v s10 q => ?_
      obtain ⟨rfl, rfl⟩ := q
      rw [decide_eq_true rfl]
      (repeat (first | refine pSeq ?_ | refine pReg ?_ | refine sRaw ?_ | refine sCons ?_ | refine sNil ?_ | refine rCons ?_ | refine rNil ?_ | refine kNo ?_ | refine pRow ?_ | refine pBlock ?_ | refine pSkip ?_ | refine pExit ?_ | refine pRet ?_ | refine pCond ?_ | refine gNone ?_ | refine gOn rfl ?_ | refine gOff rfl rfl ?_))
      intro q hq
      obtain rfl : q = false := hq
      (repeat (first | refine pSeq ?_ | refine pReg ?_ | refine sRaw ?_ | refine sCons ?_ | refine sNil ?_ | refine rCons ?_ | refine rNil ?_ | refine kNo ?_ | refine pRow ?_ | refine pBlock ?_ | refine pSkip ?_ | refine pExit ?_ | refine pRet ?_ | refine pCond ?_ | refine gNone ?_ | refine gOn rfl ?_ | refine gOff rfl rfl ?_))
      intro z hz
      rw [i64_id (by omega)] at hz
      (repeat (first | refine pSeq ?_ | refine pReg ?_ | refine sRaw ?_ | refine sCons ?_ | refine sNil ?_ | refine rCons ?_ | refine rNil ?_ | refine kNo ?_ | refine pRow ?_ | refine pBlock ?_ | refine pSkip ?_ | refine pExit ?_ | refine pRet ?_ | refine pCond ?_ | refine gNone ?_ | refine gOn rfl ?_ | refine gOff rfl rfl ?_))
      have c8 := c9.nil c10
      refine ⟨⟨k + 1, s10, B8, R8, tw4⟩, ⟨hlt, by dsimp only; rw [hA8]; exact h10, ho8.chg c8 (fun _ _ => by simp), fun a ha => (ha8 a ha).chg c8 (fun _ _ => by simp), c8.fine f8, by dsimp only; rw [c8.gl]; exact g8, by dsimp only; omega, by dsimp only; omega, tw8.chg0 c8⟩, by dsimp only; omega, Wk.same ⟨rfl, rfl, rfl, rfl, rfl, rfl, rfl, ?_, trivial⟩⟩
      subst hz
      rfl
  obtain rfl : q = false := by rw [hq]; simp; omega
  (repeat (first | refine pSeq ?_ | refine pReg ?_ | refine sRaw ?_ | refine sCons ?_ | refine sNil ?_ | refine rCons ?_ | refine rNil ?_ | refine kNo ?_ | refine pRow ?_ | refine pBlock ?_ | refine pSkip ?_ | refine pExit ?_ | refine pRet ?_ | refine pCond ?_ | refine gNone ?_ | refine gOn rfl ?_ | refine gOff rfl rfl ?_))
  cases tw4 with
  | none =>
    intro q hq
    obtain rfl : q = true := hq
    (repeat (first | refine pSeq ?_ | refine pReg ?_ | refine sRaw ?_ | refine sCons ?_ | refine sNil ?_ | refine rCons ?_ | refine rNil ?_ | refine kNo ?_ | refine pRow ?_ | refine pBlock ?_ | refine pSkip ?_ | refine pExit ?_ | refine pRet ?_ | refine pCond ?_ | refine gNone ?_ | refine gOn rfl ?_ | refine gOff rfl rfl ?_))
    refine (wakes_w g4).mono fun v s q => ?_
    obtain ⟨rfl, rfl⟩ := q
    (repeat (first | refine pSeq ?_ | refine pReg ?_ | refine sRaw ?_ | refine sCons ?_ | refine sNil ?_ | refine rCons ?_ | refine rNil ?_ | refine kNo ?_ | refine pRow ?_ | refine pBlock ?_ | refine pSkip ?_ | refine pExit ?_ | refine pRet ?_ | refine pCond ?_ | refine gNone ?_ | refine gOn rfl ?_ | refine gOff rfl rfl ?_))
    rfl
  | some x =>
    obtain ⟨dt, Bt, At, K⟩ := x
    obtain ⟨t1, -, t3, -⟩ := hT4
    have hcapt := t1.cap
    have hnowt := t1.lnow
    intro q hq
    obtain rfl : q = false := hq
    (repeat (first | refine pSeq ?_ | refine pReg ?_ | refine sRaw ?_ | refine sCons ?_ | refine sNil ?_ | refine rCons ?_ | refine rNil ?_ | refine kNo ?_ | refine pRow ?_ | refine pBlock ?_ | refine pSkip ?_ | refine pExit ?_ | refine pRet ?_ | refine pCond ?_ | refine gNone ?_ | refine gOn rfl ?_ | refine gOff rfl rfl ?_))
    refine (read_w t1 (by decide)).mono fun v s5 q => ?_
    obtain ⟨T5, rfl, o5, n5, c5⟩ := q
    rw [read_all (by omega)] at *
    have t35 := t3.chg c5 (fun _ _ => by simp)
    (repeat (first | refine pSeq ?_ | refine pReg ?_ | refine sRaw ?_ | refine sCons ?_ | refine sNil ?_ | refine rCons ?_ | refine rNil ?_ | refine kNo ?_ | refine pRow ?_ | refine pBlock ?_ | refine pSkip ?_ | refine pExit ?_ | refine pRet ?_ | refine pCond ?_ | refine gNone ?_ | refine gOn rfl ?_ | refine gOff rfl rfl ?_))
    refine (equal_w o5.rdb t35.rdb).mono fun v s5 q => ?_
    obtain ⟨rfl, rfl⟩ := q
    rw [decide_eq_true rfl]
    have g5 : s5.gl = 0 := by rw [c5.gl]; exact g4
    (repeat (first | refine pSeq ?_ | refine pReg ?_ | refine sRaw ?_ | refine sCons ?_ | refine sNil ?_ | refine rCons ?_ | refine rNil ?_ | refine kNo ?_ | refine pRow ?_ | refine pBlock ?_ | refine pSkip ?_ | refine pExit ?_ | refine pRet ?_ | refine pCond ?_ | refine gNone ?_ | refine gOn rfl ?_ | refine gOff rfl rfl ?_))
    refine (wakes_w g5).mono fun v s q => ?_
    obtain ⟨rfl, rfl⟩ := q
    (repeat (first | refine pSeq ?_ | refine pReg ?_ | refine sRaw ?_ | refine sCons ?_ | refine sNil ?_ | refine rCons ?_ | refine rNil ?_ | refine kNo ?_ | refine pRow ?_ | refine pBlock ?_ | refine pSkip ?_ | refine pExit ?_ | refine pRet ?_ | refine pCond ?_ | refine gNone ?_ | refine gOn rfl ?_ | refine gOff rfl rfl ?_))
    rfl
end Go.Vf.S
