import Derived.Test.YthhcngkblihliaaDoorHdLc
/- A field laid ahead of all others; one laid in its place. -/
namespace Go.Vf.S
open Go Go.Vf Go.Proofs Go.RowKit
attribute [local irreducible] wSeq wRow wp wG
set_option linter.unusedVariables false
set_option linter.unusedSimpArgs false
set_option maxRecDepth 10000

abbrev aheadF (m : Msg) (nm v : List UInt8) : Msg × Nat := withF m 0 0 nm v
def putF (m : Msg) (k : Int) (v : List UInt8) : Msg × Nat := if k < 0 then (msZ, 1) else match m.fs[k.toNat]? with
  | none => (msZ, 1)
  | some f => withF m k.toNat (k.toNat + 1) f.n v
/-- What a call tells that answers a message. -/
def TellM (s : SS) (r : Msg × Nat) (u : Value) (s' : SS) : Prop := ∃ W cw, u = .tuple ⟨[msV r.1 W cw, .int .i64 r.2]⟩ ∧ FsO s' W cw r.1.fs ∧ Chg s s' [] ∧ ∀ id ∈ blkOf W, s.next ≤ id

set_option maxHeartbeats 1000000 in
theorem ahead_w {s : SS} {m : Msg} {W : Option Addr} {cw : Nat} {nm v : List UInt8} (hf : Fine s) (h : FsO s W cw m.fs) (hn : m.fs.length ≤ 90000) (hnm : nm.length ≤ 1000) (hv : v.length ≤ 9000) (hl : (textM m).length ≤ 60000) :
    CallW pr n_head_Message_Ahead [msV m W cw, str nm, str v] s (TellM s (aheadF m nm v)) := by
  refine CallW.run good ok_head_Message_Ahead (by simp) rfl ?_
  obtain ⟨s1, hs1⟩ : ∃ s1 : SS, s1 = { s with heap := (s.next + 1, some (.cells (msC msZ none 0) tMs false false)) :: (s.next, some (.cells (msC m W cw) tMs false false)) :: s.heap, next := s.next + 1 + 1 } := ⟨_, rfl⟩
  have c1 : Chg s s1 [] := by rw [hs1]; exact (Chg.new (b := .cells (msC m W cw) tMs false false) []).nil (Chg.new [])
  have k1 : lookH s1.heap s.next = some (.cells (msC m W cw) tMs false false) := by rw [hs1]; exact lkT (by omega) lkH
  have j1 : lookH s1.heap (s.next + 1) = some (.cells (msC msZ none 0) tMs false false) := by rw [hs1]; exact lkH
  have n1 : s1.next = s.next + 2 := by rw [hs1]
  (repeat(first|refine pSeq ?_|refine pReg ?_|refine sCons ?_|refine sNil ?_|refine pRet ?_|refine gNone ?_))
  refine ldN_is rfl (show lookH _ _ = some (.cells (msC m W cw) tMs false false) from (by subst hs1; exact k1)) agm3 ?_
  (repeat(first|refine pSeq ?_|refine pReg ?_|refine sCons ?_|refine sNil ?_|refine pRet ?_|refine gNone ?_))
  refine (with_w (i := 0) (j := 0) (nm := nm) (v := v) (show Fine _ from (by subst hs1; exact c1.fine hf)) (show FsO _ W cw m.fs from (by subst hs1; exact h.chg c1 (by simp))) (Nat.le_refl _) (Nat.zero_le _) hn hnm hv hl).mono fun u s2 q => ?_
  replace q : TellM s1 (aheadF m nm v) u s2 := by subst hs1; exact q
  clear hs1
  generalize aheadF m nm v = A at *
  obtain ⟨a, e⟩ := A
  obtain ⟨V, cv, rfl, o2, c2, w2⟩ := q
  dsimp only at o2
  have n2 := c2.next
  have j2 := c2.blk _ _ (by omega) (by simp) j1
  (repeat(first|refine pSeq ?_|refine pReg ?_|refine sCons ?_|refine sNil ?_|refine pRet ?_|refine gNone ?_))
  refine st_abs (cs' := msC a V cv) rfl rfl j2 (show s.next + 1 < s2.next by omega) rfl rfl fun s3 e3 c3 n3 => ?_
  (repeat(first|refine pSeq ?_|refine pReg ?_|refine sCons ?_|refine sNil ?_|refine pRet ?_|refine gNone ?_))
  (repeat (first | with_reducible refine sqRet ?_ | with_reducible refine bkRet ?_ | with_reducible refine hdRet ?_))
  refine ret_cell agg_Ms sz_Ms rfl e3 agm3 rfl ⟨V, cv, rfl, o2.chg c3 (fun id hid q => ?_), (c1.nil c2).fresh c3 (by simp), fun id hid => ?_⟩
  · have := w2 id hid
    simp only [List.mem_singleton] at q
    omega
  · have := w2 id hid
    omega

set_option maxHeartbeats 2000000 in
theorem put_w {s : SS} {m : Msg} {W : Option Addr} {cw : Nat} {k : Int} {v : List UInt8} (hf : Fine s) (h : FsO s W cw m.fs) (hn : m.fs.length ≤ 90000) (hnm : ∀ f ∈ m.fs, f.n.length ≤ 1000) (hv : v.length ≤ 9000) (hl : (textM m).length ≤ 60000) :
    CallW pr n_head_Message_Put [msV m W cw, .int .i64 k, str v] s (TellM s (putF m k v)) := by
  refine CallW.run good ok_head_Message_Put (by simp) rfl ?_
  obtain ⟨s1, hs1⟩ : ∃ s1 : SS, s1 = { s with heap := (s.next + 1, some (.cells (msC msZ none 0) tMs false false)) :: (s.next, some (.cells (msC m W cw) tMs false false)) :: s.heap, next := s.next + 1 + 1 } := ⟨_, rfl⟩
  have c1 : Chg s s1 [] := by rw [hs1]; exact (Chg.new (b := .cells (msC m W cw) tMs false false) []).nil (Chg.new [])
  have k1 : lookH s1.heap s.next = some (.cells (msC m W cw) tMs false false) := by rw [hs1]; exact lkT (by omega) lkH
  have j1 : lookH s1.heap (s.next + 1) = some (.cells (msC msZ none 0) tMs false false) := by rw [hs1]; exact lkH
  have n1 : s1.next = s.next + 2 := by rw [hs1]
  have f1 := c1.fine hf
  have h1 := h.chg c1 (by simp)
  have no : (k < 0 ∨ (m.fs.length : Int) ≤ k) → putF m k v = (msZ, 1) := fun q => by
    unfold putF
    by_cases e : k < 0
    · rw [if_pos e]
    · rw [if_neg e, List.getElem?_eq_none (by omega)]
  (repeat(first|refine pSeq ?_|refine pReg ?_|refine sCons ?_|refine sNil ?_|refine rCons ?_|refine rNil ?_|refine kNo ?_|refine pRow ?_|refine pSkip ?_|refine pRet ?_|refine pCond ?_|refine gNone ?_|refine gOn rfl ?_|refine gOff rfl rfl ?_|refine gTup rfl ?_))
  intro q hq
  by_cases hk : k < 0
  · obtain rfl : q = true := by rw [hq]; simp; omega
    rw [no (.inl hk)]
    (repeat(first|refine pSeq ?_|refine pReg ?_|refine sCons ?_|refine sNil ?_|refine rCons ?_|refine rNil ?_|refine kNo ?_|refine pRow ?_|refine pSkip ?_|refine pRet ?_|refine pCond ?_|refine gNone ?_|refine gOn rfl ?_|refine gOff rfl rfl ?_|refine gTup rfl ?_))
    refine st_abs (cs' := msC msZ none 0) rfl rfl (show lookH _ (s.next + 1) = some (.cells (msC msZ none 0) tMs false false) from (by subst hs1; exact j1)) (Nat.lt_succ_self _) rfl rfl fun s2 e2 c2 n2 => ?_
    replace c2 : Chg s1 s2 [s.next + 1] := by subst hs1; exact c2
    clear hs1
    (repeat(first|refine pSeq ?_|refine pReg ?_|refine sCons ?_|refine sNil ?_|refine rCons ?_|refine rNil ?_|refine kNo ?_|refine pRow ?_|refine pSkip ?_|refine pRet ?_|refine pCond ?_|refine gNone ?_|refine gOn rfl ?_|refine gOff rfl rfl ?_|refine gTup rfl ?_))
    (repeat (first | with_reducible refine sqRet ?_ | with_reducible refine bkRet ?_ | with_reducible refine hdRet ?_))
    exact ret_cell agg_Ms sz_Ms rfl e2 agm3 rfl ⟨none, 0, rfl, fs_none, c1.fresh c2 (by simp), by simp [blkOf]⟩
  · obtain rfl : q = false := by rw [hq]; simp; omega
    (repeat(first|refine pSeq ?_|refine pReg ?_|refine sCons ?_|refine sNil ?_|refine rCons ?_|refine rNil ?_|refine kNo ?_|refine pRow ?_|refine pSkip ?_|refine pRet ?_|refine pCond ?_|refine gNone ?_|refine gOn rfl ?_|refine gOff rfl rfl ?_|refine gTup rfl ?_))
    refine ld1_is rfl (show lookH _ _ = some (.cells (msC m W cw) tMs false false) from (by subst hs1; exact k1)) rfl ?_
    (repeat(first|refine pSeq ?_|refine pReg ?_|refine sCons ?_|refine sNil ?_|refine rCons ?_|refine rNil ?_|refine kNo ?_|refine pRow ?_|refine pSkip ?_|refine pRet ?_|refine pCond ?_|refine gNone ?_|refine gOn rfl ?_|refine gOff rfl rfl ?_|refine gTup rfl ?_))
    intro q hq
    by_cases hk2 : (m.fs.length : Int) ≤ k
    · obtain rfl : q = true := by rw [hq]; simp; omega
      rw [no (.inr hk2)]
      (repeat(first|refine pSeq ?_|refine pReg ?_|refine sCons ?_|refine sNil ?_|refine rCons ?_|refine rNil ?_|refine kNo ?_|refine pRow ?_|refine pSkip ?_|refine pRet ?_|refine pCond ?_|refine gNone ?_|refine gOn rfl ?_|refine gOff rfl rfl ?_|refine gTup rfl ?_))
      refine st_abs (cs' := msC msZ none 0) rfl rfl (show lookH _ (s.next + 1) = some (.cells (msC msZ none 0) tMs false false) from (by subst hs1; exact j1)) (Nat.lt_succ_self _) rfl rfl fun s2 e2 c2 n2 => ?_
      replace c2 : Chg s1 s2 [s.next + 1] := by subst hs1; exact c2
      clear hs1
      (repeat(first|refine pSeq ?_|refine pReg ?_|refine sCons ?_|refine sNil ?_|refine rCons ?_|refine rNil ?_|refine kNo ?_|refine pRow ?_|refine pSkip ?_|refine pRet ?_|refine pCond ?_|refine gNone ?_|refine gOn rfl ?_|refine gOff rfl rfl ?_|refine gTup rfl ?_))
      (repeat (first | with_reducible refine sqRet ?_ | with_reducible refine bkRet ?_ | with_reducible refine hdRet ?_))
      exact ret_cell agg_Ms sz_Ms rfl e2 agm3 rfl ⟨none, 0, rfl, fs_none, c1.fresh c2 (by simp), by simp [blkOf]⟩
    · obtain rfl : q = false := by rw [hq]; simp; omega
      obtain ⟨i, rfl⟩ : ∃ i : Nat, k = i := ⟨k.toNat, by omega⟩
      obtain ⟨f, hfi⟩ : ∃ f, m.fs[i]? = some f := ⟨_, List.getElem?_eq_getElem (by omega)⟩
      have hput : putF m i v = withF m i (i + 1) f.n v := by
        unfold putF
        rw [if_neg hk, Int.toNat_natCast, hfi]
      rw [hput]
      obtain ⟨b, cs, t, g, r, tl, hW, hb, hcs⟩ := (rd_of h1).at (fun e => by rw [e] at hfi; simp at hfi)
      subst hW
      have hfn := hnm f (List.mem_of_getElem? hfi)
      (repeat(first|refine pSeq ?_|refine pReg ?_|refine sCons ?_|refine sNil ?_|refine rCons ?_|refine rNil ?_|refine kNo ?_|refine pRow ?_|refine pSkip ?_|refine pRet ?_|refine pCond ?_|refine gNone ?_|refine gOn rfl ?_|refine gOff rfl rfl ?_|refine gTup rfl ?_))
      refine ldN_is rfl (show lookH _ _ = some (.cells (msC m (some ⟨b, 0, none⟩) cw) tMs false false) from (by subst hs1; exact k1)) agm3 ?_
      (repeat(first|refine pSeq ?_|refine pReg ?_|refine sCons ?_|refine sNil ?_|refine rCons ?_|refine rNil ?_|refine kNo ?_|refine pRow ?_|refine pSkip ?_|refine pRet ?_|refine pCond ?_|refine gNone ?_|refine gOn rfl ?_|refine gOff rfl rfl ?_|refine gTup rfl ?_))
      intro z hz
      rw [i64_id (by omega)] at hz
      obtain rfl : z = ((i + 1 : Nat) : Int) := by omega
      (repeat(first|refine pSeq ?_|refine pReg ?_|refine sCons ?_|refine sNil ?_|refine rCons ?_|refine rNil ?_|refine kNo ?_|refine pRow ?_|refine pSkip ?_|refine pRet ?_|refine pCond ?_|refine gNone ?_|refine gOn rfl ?_|refine gOff rfl rfl ?_|refine gTup rfl ?_))
      refine ld1_is rfl (show lookH _ _ = some (.cells (msC m (some ⟨b, 0, none⟩) cw) tMs false false) from (by subst hs1; exact k1)) rfl ?_
      (repeat(first|refine pSeq ?_|refine pReg ?_|refine sCons ?_|refine sNil ?_|refine rCons ?_|refine rNil ?_|refine kNo ?_|refine pRow ?_|refine pSkip ?_|refine pRet ?_|refine pCond ?_|refine gNone ?_|refine gOn rfl ?_|refine gOff rfl rfl ?_|refine gTup rfl ?_))
      refine ⟨by omega, ?_⟩
      intro x hx o ho
      obtain rfl : x = i := by omega
      (repeat(first|refine pSeq ?_|refine pReg ?_|refine sCons ?_|refine sNil ?_|refine rCons ?_|refine rNil ?_|refine kNo ?_|refine pRow ?_|refine pSkip ?_|refine pRet ?_|refine pCond ?_|refine gNone ?_|refine gOn rfl ?_|refine gOff rfl rfl ?_|refine gTup rfl ?_))
      refine ldS_is (l := f.n) rfl (show lookH _ _ = some (.cells cs t g r) from (by subst hs1; exact hb)) ?_ ?_
      · rw [hcs, ho, Nat.zero_add, Nat.add_zero]
        have e := fsC_at tl hfi
        have e2 := congrArg (fun l => l[0]?) e
        simpa [List.getElem?_drop, flC] using e2
      (repeat(first|refine pSeq ?_|refine pReg ?_|refine sCons ?_|refine sNil ?_|refine rCons ?_|refine rNil ?_|refine kNo ?_|refine pRow ?_|refine pSkip ?_|refine pRet ?_|refine pCond ?_|refine gNone ?_|refine gOn rfl ?_|refine gOff rfl rfl ?_|refine gTup rfl ?_))
      refine (with_w (i := x) (j := x + 1) (nm := f.n) (v := v) (show Fine _ from (by subst hs1; exact f1)) (show FsO _ (some ⟨b, 0, none⟩) cw m.fs from (by subst hs1; exact h1)) (Nat.le_succ _) (by omega) hn hfn hv hl).mono fun u s2 q => ?_
      replace q : TellM s1 (withF m x (x + 1) f.n v) u s2 := by subst hs1; exact q
      clear hput no
      generalize withF m x (x + 1) f.n v = A at *
      obtain ⟨a, e⟩ := A
      obtain ⟨V, cv, rfl, o2, c2, w2⟩ := q
      dsimp only at o2
      have n2 := c2.next
      have j2 := c2.blk _ _ (by omega) (by simp) j1
      first | refine kAll (show Keep _ s2 from (by subst hs1; exact c2.keep f1)) ?_ | skip
      clear hs1
      (repeat(first|refine pSeq ?_|refine pReg ?_|refine sCons ?_|refine sNil ?_|refine rCons ?_|refine rNil ?_|refine kNo ?_|refine pRow ?_|refine pSkip ?_|refine pRet ?_|refine pCond ?_|refine gNone ?_|refine gOn rfl ?_|refine gOff rfl rfl ?_|refine gTup rfl ?_))
      refine st_abs (cs' := msC a V cv) rfl rfl j2 (show s.next + 1 < s2.next by omega) rfl rfl fun s3 e3 c3 n3 => ?_
      first | refine kAll .refl ?_ | skip
      (repeat(first|refine pSeq ?_|refine pReg ?_|refine sCons ?_|refine sNil ?_|refine rCons ?_|refine rNil ?_|refine kNo ?_|refine pRow ?_|refine pSkip ?_|refine pRet ?_|refine pCond ?_|refine gNone ?_|refine gOn rfl ?_|refine gOff rfl rfl ?_|refine gTup rfl ?_))
      (repeat (first | with_reducible refine sqRet ?_ | with_reducible refine bkRet ?_ | with_reducible refine hdRet ?_))
      refine ret_cell agg_Ms sz_Ms rfl e3 agm3 rfl ⟨V, cv, rfl, o2.chg c3 (fun id hid q => ?_), (c1.nil c2).fresh c3 (by simp), fun id hid => ?_⟩
      · have := w2 id hid
        simp only [List.mem_singleton] at q
        omega
      · have := w2 id hid
        omega
end Go.Vf.S
