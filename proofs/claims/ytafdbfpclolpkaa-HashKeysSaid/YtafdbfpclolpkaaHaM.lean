import Derived.Test.YtafdbfpclolpkaaHaL
import Derived.Test.YtafdbfpclolpkaaHaB
/- The chapter's rows. -/
namespace Go.Vf.S
open Go Go.Vf
attribute [local irreducible] wSeq wRow wp wG schd rnds blks blk5 sha fillF hmac
set_option linter.unusedVariables false
set_option linter.unusedSimpArgs false
set_option maxRecDepth 10000

theorem mark_is10 {T : TL} {s : SS} {K : RR → Prop} {x : Operand} {b off n c : Nat} {cs : List Value} {t : TypeId} (hx : opd T s.gl x = some (.slice (some ⟨b, off, none⟩) n c)) (hb : lookH s.heap b = some (.cells cs t false false))
    (h : K (.eff (.slice (some ⟨b, off, none⟩) n c) s)) : wN pr (.mark x) T s K := by
  simp only [wN, hx, hb]
  exact h
theorem toStr_is10 {T : TL} {s : SS} {K : RR → Prop} {b n c : Nat} {x : Operand} {l : List UInt8} {t : TypeId} {g r : Bool} (hx : opd T s.gl x = some (.slice (some ⟨b, 0, none⟩) n c)) (hb : lookH s.heap b = some (.cells (bytesV l) t g r)) (hn : l.length = n) (h : K (.val (str l))) : wN pr (.toStr x) T s K := by
  simp only [wN, hx, hb]
  exact ⟨l, bytes_take hn, h⟩

theorem tells10_w {s : SS} (f : Fine s) : CallW pr n_law10_tells [] s fun v s' => v = .bool true ∧ Chg s s' [] := by
  refine CallW.run good ok_law10_tells (by simp) rfl ?_
  obtain ⟨h0, c0, f0⟩ := new1_at f (.cells (bytesV abcL) tB false false)
  (repeat(first|refine pSeq ?_|refine pReg ?_|refine sCons ?_|refine sNil ?_|refine pRet ?_|refine gNone ?_|refine gOn rfl ?_|refine gOff rfl rfl ?_|refine gTup rfl ?_))
  refine mark_is10 rfl h0 ?_
  (repeat(first|refine pSeq ?_|refine pReg ?_|refine sCons ?_|refine sNil ?_|refine pRet ?_|refine gNone ?_|refine gOn rfl ?_|refine gOff rfl rfl ?_|refine gTup rfl ?_))
  refine (sha1_w f0 (cell_slc h0 (Nat.lt_succ_self _) (show abcL.length = 3 from rfl)) (by omega)).mono fun v s1 q => ?_
  obtain ⟨rfl, k1⟩ := q
  rw [sha_abc]
  have f1 := k1.fine f0
  replace c0 := c0.nil k1
  (repeat(first|refine pSeq ?_|refine pReg ?_|refine sCons ?_|refine sNil ?_|refine pRet ?_|refine gNone ?_|refine gOn rfl ?_|refine gOff rfl rfl ?_|refine gTup rfl ?_))
  obtain ⟨m0, m1, m2⟩ := new1_at f1 (.cells (bytesV zs20) tA20 false false)
  refine st_abs (cs' := bytesV abcS) rfl rfl m0 (Nat.lt_succ_self _) rfl (agB_lay (a := zs20) rfl) fun s2 e2 c2 n2 => ?_
  replace n2 : s2.next = s1.next + 1 := n2
  replace c2 := m1.fresh c2 (by simp)
  have f2 := c2.fine f1
  replace c0 := c0.nil c2
  (repeat(first|refine pSeq ?_|refine pReg ?_|refine sCons ?_|refine sNil ?_|refine pRet ?_|refine gNone ?_|refine gOn rfl ?_|refine gOff rfl rfl ?_|refine gTup rfl ?_))
  obtain ⟨h0, d0, g0⟩ := new1_at f2 (.cells (bytesV jefeL) tB false false)
  refine mark_is10 rfl h0 ?_
  (repeat(first|refine pSeq ?_|refine pReg ?_|refine sCons ?_|refine sNil ?_|refine pRet ?_|refine gNone ?_|refine gOn rfl ?_|refine gOff rfl rfl ?_|refine gTup rfl ?_))
  obtain ⟨h1, h2, d1, g1⟩ := new2_at f2 (.cells (bytesV jefeL) tB false false) (.cells (bytesV whatL) tB false false)
  refine mark_is10 rfl h2 ?_
  (repeat(first|refine pSeq ?_|refine pReg ?_|refine sCons ?_|refine sNil ?_|refine pRet ?_|refine gNone ?_|refine gOn rfl ?_|refine gOff rfl rfl ?_|refine gTup rfl ?_))
  refine (hmac_w g1 (cell_slc h1 (show s2.next < s2.next + 1 + 1 by omega) (show jefeL.length = 4 from rfl)) (cell_slc h2 (show s2.next + 1 < s2.next + 1 + 1 by omega) (show whatL.length = 28 from rfl)) (by omega) (by omega)).mono fun v s3 q => ?_
  obtain ⟨rfl, k3⟩ := q
  rw [hmac_jefe]
  have n3 := k3.next
  replace n3 : s2.next + 1 + 1 ≤ s3.next := n3
  have f3 := k3.fine g1
  have d3 := d1.nil k3
  replace e2 := d3.blk _ _ (show s1.next < s2.next by omega) (by simp) e2
  replace c0 := c0.nil d3
  (repeat(first|refine pSeq ?_|refine pReg ?_|refine sCons ?_|refine sNil ?_|refine pRet ?_|refine gNone ?_|refine gOn rfl ?_|refine gOff rfl rfl ?_|refine gTup rfl ?_))
  obtain ⟨m0, m1, m2⟩ := new1_at f3 (.cells (bytesV zs20) tA20 false false)
  refine st_abs (cs' := bytesV jefeS) rfl rfl m0 (Nat.lt_succ_self _) rfl (agB_lay (a := zs20) rfl) fun s4 e4 c4 n4 => ?_
  replace n4 : s4.next = s3.next + 1 := n4
  replace e2 := c4.blk _ _ (show s1.next < s3.next + 1 by omega) (by simp; omega) (m1.blk _ _ (show s1.next < s3.next by omega) (by simp) e2)
  replace c0 := c0.nil (m1.fresh c4 (by simp))
  (repeat(first|refine pSeq ?_|refine pReg ?_|refine sCons ?_|refine sNil ?_|refine pRet ?_|refine gNone ?_|refine gOn rfl ?_|refine gOff rfl rfl ?_|refine gTup rfl ?_))
  refine slA_is10 0 20 rfl e2 rfl rfl rfl rfl (by omega) (by omega) ?_
  (repeat(first|refine pSeq ?_|refine pReg ?_|refine sCons ?_|refine sNil ?_|refine pRet ?_|refine gNone ?_|refine gOn rfl ?_|refine gOff rfl rfl ?_|refine gTup rfl ?_))
  refine toStr_is10 rfl e2 rfl ?_
  (repeat(first|refine pSeq ?_|refine pReg ?_|refine sCons ?_|refine sNil ?_|refine pRet ?_|refine gNone ?_|refine gOn rfl ?_|refine gOff rfl rfl ?_|refine gTup rfl ?_))
  intro q hq
  obtain rfl : q = true := by rw [hq]; exact decide_eq_true rfl
  (repeat(first|refine pSeq ?_|refine pReg ?_|refine sCons ?_|refine sNil ?_|refine pRet ?_|refine gNone ?_|refine gOn rfl ?_|refine gOff rfl rfl ?_|refine gTup rfl ?_))
  refine slA_is10 0 20 rfl e4 rfl rfl rfl rfl (by omega) (by omega) ?_
  (repeat(first|refine pSeq ?_|refine pReg ?_|refine sCons ?_|refine sNil ?_|refine pRet ?_|refine gNone ?_|refine gOn rfl ?_|refine gOff rfl rfl ?_|refine gTup rfl ?_))
  refine toStr_is10 rfl e4 rfl ?_
  (repeat(first|refine pSeq ?_|refine pReg ?_|refine sCons ?_|refine sNil ?_|refine pRet ?_|refine gNone ?_|refine gOn rfl ?_|refine gOff rfl rfl ?_|refine gTup rfl ?_))
  intro q hq
  obtain rfl : q = true := by rw [hq]; exact decide_eq_true rfl
  (repeat(first|refine pSeq ?_|refine pReg ?_|refine sCons ?_|refine sNil ?_|refine pRet ?_|refine gNone ?_|refine gOn rfl ?_|refine gOff rfl rfl ?_|refine gTup rfl ?_))
  exact ⟨rfl, c0⟩
end Go.Vf.S
