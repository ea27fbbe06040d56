import Derived.Test.YthhcngkblihliaaDoorHdMc
/- The document's own: a field laid in its place. -/
namespace Go.Vf.S
open Go Go.Vf Go.Proofs Go.RowKit
attribute [local irreducible] wSeq wRow wp wG
set_option linter.unusedVariables false
set_option linter.unusedSimpArgs false
set_option maxRecDepth 10000

theorem set_len {m : Msg} {k : Nat} {f : Fld} (h : k < m.fs.length) : (textM ⟨m.fs.set k f, m.b, m.e⟩).length ≤ (textM m).length + f.r.length := by
  have e1 : txtF m.fs = txtF (m.fs.take (k + 1)) ++ txtF (m.fs.drop (k + 1)) := by unfold txtF; rw [← List.flatMap_append, List.take_append_drop]
  have e2 := txt_le (fs := m.fs.take (k + 1)) k
  rw [List.take_take, Nat.min_eq_left (by omega)] at e2
  have e3 : txtF (m.fs.set k f) = txtF (m.fs.take k) ++ (f.r ++ txtF (m.fs.drop (k + 1))) := by
    rw [List.set_eq_take_append_cons_drop, if_pos h]
    unfold txtF
    rw [List.flatMap_append]
    rfl
  unfold textM
  dsimp only
  rw [e3, e1]
  simp only [List.length_append]
  omega

set_option maxHeartbeats 4000000 in
theorem rput_w {s : SS} {m : Msg} {W : Option Addr} {cw : Nat} {k : Int} {v : List UInt8} (h : FsR s W cw m.fs) (hn : m.fs.length ≤ 90000) (hnm : ∀ f ∈ m.fs, f.n.length ≤ 1000) (hv : v.length ≤ 9000) (hl : (textM m).length ≤ 60000) :
    CallW pr n_ref07_Put [msV m W cw, .int .i64 k, str v] s (TellR s (putR m k v) none) := by
  refine CallW.run good ok_ref07_Put (by simp) rfl ?_
  obtain ⟨s1, hs1⟩ : ∃ s1 : SS, s1 = { s with heap := (s.next + 1, some (.cells (msC msZ none 0) tRm false false)) :: (s.next, some (.cells (msC m W cw) tRm false false)) :: s.heap, next := s.next + 1 + 1 } := ⟨_, rfl⟩
  have c1 : Chg s s1 [] := by rw [hs1]; exact (Chg.new (b := .cells (msC m W cw) tRm false false) []).nil (Chg.new [])
  have k1 : lookH s1.heap s.next = some (.cells (msC m W cw) tRm false false) := by rw [hs1]; exact lkT (by omega) lkH
  have j1 : lookH s1.heap (s.next + 1) = some (.cells (msC msZ none 0) tRm false false) := by rw [hs1]; exact lkH
  have n1 : s1.next = s.next + 2 := by rw [hs1]
  have h1 := h.chg c1 (by simp)
  have no : (k < 0 ∨ (m.fs.length : Int) ≤ k) → putR m k v = (msZ, 1) := fun q => by
    unfold putR
    by_cases e : k < 0
    · rw [if_pos e]
    · rw [if_neg e, List.getElem?_eq_none (by omega)]
  (repeat(first|refine pSeq ?_|refine pReg ?_|refine sCons ?_|refine sNil ?_|refine pSkip ?_|refine pRet ?_|refine pCond ?_|refine gNone ?_|refine gOn rfl ?_|refine gOff rfl rfl ?_|refine gTup rfl ?_))
  intro q hq
  by_cases hk : k < 0
  · obtain rfl : q = true := by rw [hq]; simp; omega
    rw [no (.inl hk)]
    (repeat(first|refine pSeq ?_|refine pReg ?_|refine sCons ?_|refine sNil ?_|refine pSkip ?_|refine pRet ?_|refine pCond ?_|refine gNone ?_|refine gOn rfl ?_|refine gOff rfl rfl ?_|refine gTup rfl ?_))
    refine st_abs (cs' := msC msZ none 0) rfl rfl (show lookH _ (s.next + 1) = some (.cells (msC msZ none 0) tRm false false) from (by subst hs1; exact j1)) (Nat.lt_succ_self _) rfl rfl fun s2 e2 c2 n2 => ?_
    replace c2 : Chg s1 s2 [s.next + 1] := by subst hs1; exact c2
    clear hs1
    (repeat(first|refine pSeq ?_|refine pReg ?_|refine sCons ?_|refine sNil ?_|refine pSkip ?_|refine pRet ?_|refine pCond ?_|refine gNone ?_|refine gOn rfl ?_|refine gOff rfl rfl ?_|refine gTup rfl ?_))
    (repeat (first | with_reducible refine sqRet ?_ | with_reducible refine bkRet ?_ | with_reducible refine hdRet ?_))
    exact ret_cell agg_Rm sz_Rm rfl e2 agm3 rfl ⟨none, 0, rfl, fr_none, c1.fresh c2 (by simp), by simp [blkOf]⟩
  · obtain rfl : q = false := by rw [hq]; simp; omega
    (repeat(first|refine pSeq ?_|refine pReg ?_|refine sCons ?_|refine sNil ?_|refine pSkip ?_|refine pRet ?_|refine pCond ?_|refine gNone ?_|refine gOn rfl ?_|refine gOff rfl rfl ?_|refine gTup rfl ?_))
    refine ld1_is rfl (show lookH _ _ = some (.cells (msC m W cw) tRm false false) from (by subst hs1; exact k1)) rfl ?_
    (repeat(first|refine pSeq ?_|refine pReg ?_|refine sCons ?_|refine sNil ?_|refine pSkip ?_|refine pRet ?_|refine pCond ?_|refine gNone ?_|refine gOn rfl ?_|refine gOff rfl rfl ?_|refine gTup rfl ?_))
    intro q hq
    by_cases hk2 : (m.fs.length : Int) ≤ k
    · obtain rfl : q = true := by rw [hq]; simp; omega
      rw [no (.inr hk2)]
      (repeat(first|refine pSeq ?_|refine pReg ?_|refine sCons ?_|refine sNil ?_|refine pSkip ?_|refine pRet ?_|refine pCond ?_|refine gNone ?_|refine gOn rfl ?_|refine gOff rfl rfl ?_|refine gTup rfl ?_))
      refine st_abs (cs' := msC msZ none 0) rfl rfl (show lookH _ (s.next + 1) = some (.cells (msC msZ none 0) tRm false false) from (by subst hs1; exact j1)) (Nat.lt_succ_self _) rfl rfl fun s2 e2 c2 n2 => ?_
      replace c2 : Chg s1 s2 [s.next + 1] := by subst hs1; exact c2
      clear hs1
      (repeat(first|refine pSeq ?_|refine pReg ?_|refine sCons ?_|refine sNil ?_|refine pSkip ?_|refine pRet ?_|refine pCond ?_|refine gNone ?_|refine gOn rfl ?_|refine gOff rfl rfl ?_|refine gTup rfl ?_))
      (repeat (first | with_reducible refine sqRet ?_ | with_reducible refine bkRet ?_ | with_reducible refine hdRet ?_))
      exact ret_cell agg_Rm sz_Rm rfl e2 agm3 rfl ⟨none, 0, rfl, fr_none, c1.fresh c2 (by simp), by simp [blkOf]⟩
    · obtain rfl : q = false := by rw [hq]; simp; omega
      obtain ⟨i, rfl⟩ : ∃ i : Nat, k = i := ⟨k.toNat, by omega⟩
      have hil : i < m.fs.length := by omega
      obtain ⟨g, hgi⟩ : ∃ f, m.fs[i]? = some f := ⟨_, List.getElem?_eq_getElem hil⟩
      have hput : putR m i v = match layR g.n v with
          | none => (msZ, 5)
          | some f => withR m (m.fs.set i f) := by
        unfold putR
        rw [if_neg hk, Int.toNat_natCast, hgi]
        rfl
      rw [hput]
      clear hput no
      obtain ⟨b, cs, t, gr, r, tl, hW, hb, hcs⟩ := (rd_of h1).at (fun e => by rw [e] at hgi; simp at hgi)
      subst hW
      have hgn := hnm g (List.mem_of_getElem? hgi)
      (repeat(first|refine pSeq ?_|refine pReg ?_|refine sCons ?_|refine sNil ?_|refine pSkip ?_|refine pRet ?_|refine pCond ?_|refine gNone ?_|refine gOn rfl ?_|refine gOff rfl rfl ?_|refine gTup rfl ?_))
      refine ld1_is rfl (show lookH _ _ = some (.cells (msC m (some ⟨b, 0, none⟩) cw) tRm false false) from (by subst hs1; exact k1)) rfl ?_
      (repeat(first|refine pSeq ?_|refine pReg ?_|refine sCons ?_|refine sNil ?_|refine pSkip ?_|refine pRet ?_|refine pCond ?_|refine gNone ?_|refine gOn rfl ?_|refine gOff rfl rfl ?_|refine gTup rfl ?_))
      refine ⟨by omega, ?_⟩
      intro x hx o ho
      obtain rfl : x = i := by omega
      (repeat(first|refine pSeq ?_|refine pReg ?_|refine sCons ?_|refine sNil ?_|refine pSkip ?_|refine pRet ?_|refine pCond ?_|refine gNone ?_|refine gOn rfl ?_|refine gOff rfl rfl ?_|refine gTup rfl ?_))
      refine ldS_is (l := g.n) rfl (show lookH _ _ = some (.cells cs t gr r) from (by subst hs1; exact hb)) ?_ ?_
      · rw [hcs, ho, Nat.zero_add, Nat.add_zero]
        have e := fsC_at tl hgi
        have e2 := congrArg (fun l => l[0]?) e
        simpa [List.getElem?_drop, flC] using e2
      (repeat(first|refine pSeq ?_|refine pReg ?_|refine sCons ?_|refine sNil ?_|refine pSkip ?_|refine pRet ?_|refine pCond ?_|refine gNone ?_|refine gOn rfl ?_|refine gOff rfl rfl ?_|refine gTup rfl ?_))
      refine (rlay_w (nm := g.n) (v := v) hgn hv).mono fun u s2 q => ?_
      replace q : u = .tuple ⟨[flV (fOr (layR g.n v)), .int .i64 (eOr (layR g.n v))]⟩ ∧ Chg s1 s2 [] := by subst hs1; exact q
      clear hs1
      obtain ⟨rfl, c2⟩ := q
      have n2 := c2.next
      (repeat(first|refine pSeq ?_|refine pReg ?_|refine sCons ?_|refine sNil ?_|refine pSkip ?_|refine pRet ?_|refine pCond ?_|refine gNone ?_|refine gOn rfl ?_|refine gOff rfl rfl ?_|refine gTup rfl ?_))
      refine st_abs (cs' := flC (fOr (layR g.n v))) rfl rfl lkH (Nat.lt_succ_self _) rfl rfl fun s3 e3 c3 n3 => ?_
      have c23 : Chg s2 s3 [] := (Chg.new []).fresh c3 (by simp)
      have e3 : lookH s3.heap s2.next = some (.cells (flC (fOr (layR g.n v))) tRf false false) := e3
      have n3 : s3.next = s2.next + 1 := n3
      have c13 := c2.nil c23
      have c03 := c1.nil c13
      have k3 := c13.blk _ _ (show s.next < s1.next by omega) (by simp) k1
      have j3 := c13.blk _ _ (show s.next + 1 < s1.next by omega) (by simp) j1
      (repeat(first|refine pSeq ?_|refine pReg ?_|refine sCons ?_|refine sNil ?_|refine pSkip ?_|refine pRet ?_|refine pCond ?_|refine gNone ?_|refine gOn rfl ?_|refine gOff rfl rfl ?_|refine gTup rfl ?_))
      intro q hq
      cases hlay : layR g.n v with
      | none =>
        rw [hlay] at hq
        obtain rfl : q = true := by rw [hq]; rfl
        (repeat(first|refine pSeq ?_|refine pReg ?_|refine sCons ?_|refine sNil ?_|refine pSkip ?_|refine pRet ?_|refine pCond ?_|refine gNone ?_|refine gOn rfl ?_|refine gOff rfl rfl ?_|refine gTup rfl ?_))
        refine st_abs (cs' := msC msZ none 0) rfl rfl j3 (show s.next + 1 < s3.next by omega) rfl rfl fun s4 e4 c4 n4 => ?_
        (repeat(first|refine pSeq ?_|refine pReg ?_|refine sCons ?_|refine sNil ?_|refine pSkip ?_|refine pRet ?_|refine pCond ?_|refine gNone ?_|refine gOn rfl ?_|refine gOff rfl rfl ?_|refine gTup rfl ?_))
        (repeat (first | with_reducible refine sqRet ?_ | with_reducible refine bkRet ?_ | with_reducible refine hdRet ?_))
        exact ret_cell agg_Rm sz_Rm rfl e4 agm3 rfl ⟨none, 0, rfl, fr_none, c03.fresh c4 (by simp), by simp [blkOf]⟩
      | some f =>
        rw [hlay] at hq e3
        obtain rfl : q = false := by rw [hq]; rfl
        have hfl := layR_len hlay
        have e3 : lookH s3.heap s2.next = some (.cells (flC f) tRf false false) := e3
        have htl : (textM ⟨m.fs.set x f, m.b, m.e⟩).length ≤ 98000 := by
          have := set_len (f := f) hil
          omega
        have hsl : (m.fs.set x f).length = m.fs.length := List.length_set ..
        have h3 := h.chg c03 (by simp)
        dsimp only
        (repeat(first|refine pSeq ?_|refine pReg ?_|refine sCons ?_|refine sNil ?_|refine pSkip ?_|refine pRet ?_|refine pCond ?_|refine gNone ?_|refine gOn rfl ?_|refine gOff rfl rfl ?_|refine gTup rfl ?_))
        refine ld1_is rfl k3 rfl ?_
        (repeat(first|refine pSeq ?_|refine pReg ?_|refine sCons ?_|refine sNil ?_|refine pSkip ?_|refine pRet ?_|refine pCond ?_|refine gNone ?_|refine gOn rfl ?_|refine gOff rfl rfl ?_|refine gTup rfl ?_))
        refine appQ (e := tRf) (fs := []) (gs := m.fs) (W := none) (s := s3) rfl (fsp_of (rd_of h3)) (by simp; omega) rfl rfl rfl rfl (fun q => by rw [q] at hil; simp at hil) fun _ s4 o4 c4 n4 => ?_
        have c34 : Chg s3 s4 [] := c4
        obtain ⟨-, -, l4, g4⟩ : OwnG tRf s4 (some ⟨s3.next, 0, none⟩) m.fs := o4
        have c04 := c03.nil c34
        have k4 := c34.blk _ _ (show s.next < s3.next by omega) (by simp) k3
        have j4 := c34.blk _ _ (show s.next + 1 < s3.next by omega) (by simp) j3
        have e4 := c34.blk _ _ (show s2.next < s3.next by omega) (by simp) e3
        (repeat(first|refine pSeq ?_|refine pReg ?_|refine sCons ?_|refine sNil ?_|refine pSkip ?_|refine pRet ?_|refine pCond ?_|refine gNone ?_|refine gOn rfl ?_|refine gOff rfl rfl ?_|refine gTup rfl ?_))
        refine ldN_is rfl e4 agg3 ?_
        (repeat(first|refine pSeq ?_|refine pReg ?_|refine sCons ?_|refine sNil ?_|refine pSkip ?_|refine pRet ?_|refine pCond ?_|refine gNone ?_|refine gOn rfl ?_|refine gOff rfl rfl ?_|refine gTup rfl ?_))
        refine ⟨by omega, ?_⟩
        intro x2 hx2 o2 ho2
        obtain rfl : x2 = x := by omega
        (repeat(first|refine pSeq ?_|refine pReg ?_|refine sCons ?_|refine sNil ?_|refine pSkip ?_|refine pRet ?_|refine pCond ?_|refine gNone ?_|refine gOn rfl ?_|refine gOff rfl rfl ?_|refine gTup rfl ?_))
        refine st_abs (cs' := fsC (m.fs.set x2 f)) rfl rfl g4 l4 rfl (by rw [ho2, Nat.zero_add]; exact setRow_fs _ _ _ hil) fun s5 e5 c5 n5 => ?_
        have h5 : OwnG tRf s5 (some ⟨s3.next, 0, none⟩) (m.fs.set x2 f) := ⟨rfl, rfl, by omega, e5⟩
        have c05 : Chg s s5 [] := c04.fresh c5 (by simp; omega)
        have k5 := c5.blk _ _ (show s.next < s4.next by omega) (by simp; omega) k4
        have j5 := c5.blk _ _ (show s.next + 1 < s4.next by omega) (by simp; omega) j4
        (repeat(first|refine pSeq ?_|refine pReg ?_|refine sCons ?_|refine sNil ?_|refine pSkip ?_|refine pRet ?_|refine pCond ?_|refine gNone ?_|refine gOn rfl ?_|refine gOff rfl rfl ?_|refine gTup rfl ?_))
        refine ldN_is rfl k5 agm3 ?_
        (repeat(first|refine pSeq ?_|refine pReg ?_|refine sCons ?_|refine sNil ?_|refine pSkip ?_|refine pRet ?_|refine pCond ?_|refine gNone ?_|refine gOn rfl ?_|refine gOff rfl rfl ?_|refine gTup rfl ?_))
        refine (rwith_w (W := some ⟨b, 0, none⟩) (cw := cw) (fs := m.fs.set x2 f) h5 (fun id hid => by simp only [blkOf, List.mem_singleton] at hid; omega) (by rw [hsl]; omega) (by omega) (by omega)).mono fun u s6 q => ?_
        generalize withR m (m.fs.set x2 f) = A at *
        obtain ⟨a, e⟩ := A
        obtain ⟨W6, cw6, rfl, o6, c6, w6⟩ := q
        dsimp only at o6
        have n6 := c6.next
        have j6 := c6.blk _ _ (show s.next + 1 < s5.next by omega) (by simp) j5
        (repeat(first|refine pSeq ?_|refine pReg ?_|refine sCons ?_|refine sNil ?_|refine pSkip ?_|refine pRet ?_|refine pCond ?_|refine gNone ?_|refine gOn rfl ?_|refine gOff rfl rfl ?_|refine gTup rfl ?_))
        refine st_abs (cs' := msC a W6 cw6) rfl rfl j6 (show s.next + 1 < s6.next by omega) rfl rfl fun s7 e7 c7 n7 => ?_
        (repeat(first|refine pSeq ?_|refine pReg ?_|refine sCons ?_|refine sNil ?_|refine pSkip ?_|refine pRet ?_|refine pCond ?_|refine gNone ?_|refine gOn rfl ?_|refine gOff rfl rfl ?_|refine gTup rfl ?_))
        (repeat (first | with_reducible refine sqRet ?_ | with_reducible refine bkRet ?_ | with_reducible refine hdRet ?_))
        have hoff : ∀ id ∈ blkOf W6, s.next + 2 ≤ id := fun id hid => by
          rcases w6 id hid with q | q
          · omega
          · simp only [blkOf, List.mem_singleton] at q
            omega
        refine ret_cell agg_Rm sz_Rm rfl e7 agm3 rfl ⟨W6, cw6, rfl, o6.chg c7 (fun id hid q => ?_), (c05.nil c6).fresh c7 (by simp), fun id hid => .inl ?_⟩
        · have := hoff id hid
          simp only [List.mem_singleton] at q
          omega
        · have := hoff id hid
          omega
end Go.Vf.S
