import Derived.Test.YtphcpdopfolopaaDoorCoJ
/- Letters told: the whole. -/
namespace Go.Vf.S
open Go Go.Vf Go.Proofs Go.RowKit
attribute [local irreducible] wSeq wRow wp wG
set_option linter.unusedVariables false
set_option linter.unusedSimpArgs false
set_option maxRecDepth 10000

/-- A text behind, where there is room. -/
theorem app_sroom {T : TL} {s : SS} {K : RR → Prop} {x y : Operand} {b cap m : Nat} {d l : List UInt8} (ho : Room s b cap d) (hx : opd T s.gl x = some (slV b m cap)) (hm : m = d.length)
    (hy : opd T s.gl y = some (str l)) (hmn : m + l.length ≤ cap) (hb : cap ≤ 4294967296)
    (h : ∀ s' : SS, Room s' b cap (d ++ l) → Chg s s' [b] → s'.next = s.next → K (.eff (slV b (m + l.length) cap) s')) : wN pr (.app tB 1 1 x y) T s K := by
  have h1 := ho.2.1
  simp only [wN, wAppB, hx, hy]
  intro new hnew
  subst hnew
  refine ⟨⟨by omega, by omega, by rw [bytesV_len, Nat.mul_one], all1_bytesV l⟩, ?_⟩
  simp only [ho.2.2]
  refine ⟨fun _ => ⟨trivial, _, (by rw [Nat.mul_one, Nat.zero_add]; exact setRow_bytes _ l m (by rw [List.length_append, List.length_replicate]; omega)), fun m' hm' => ?_⟩, fun q => by omega⟩
  subst hm'
  have e : (d ++ List.replicate (cap - d.length) 0).take m ++ l ++ (d ++ List.replicate (cap - d.length) 0).drop (m + l.length) = (d ++ l) ++ List.replicate (cap - (d ++ l).length) 0 := by
    subst hm
    rw [List.take_append_of_le_length (Nat.le_refl _), List.take_length, List.drop_append, List.drop_of_length_le (by omega), List.nil_append, List.drop_replicate, List.length_append]
    congr 2
    omega
  rw [e]
  exact h _ ⟨ho.1, by rw [List.length_append]; omega, lkH⟩ (.turn ho.1) rfl

set_option maxHeartbeats 1000000 in
theorem lay_w {s : SS} {z : Nat} {base : Option Addr} {n cap : Nat} {b : List UInt8} (f : Fine s) (hz : 4 ≤ z ∧ z ≤ 6) (hr : Rdb s base n b) (hl : n ≤ 1000000) :
    CallW pr n_coding_kind_lay [kA z, .slice base n cap] s fun v s' => v = str (tellF z b) ∧ Chg s s' [] := by
  have hn := hr.1
  have hlt := hr.lt
  obtain ⟨hs1, hs2⟩ := size_le (n := n) hz hl
  refine CallW.run good ok_coding_kind_lay (by simp) rfl ?_
  obtain ⟨k0, c0, f0⟩ := new1_at f (.cells (kV z) tKd false false)
  (repeat(first|refine pSeq ?_|refine pReg ?_|refine sCons ?_|refine sNil ?_|refine rCons ?_|refine rNil ?_|refine kNo ?_|refine pRow ?_|refine pBlock ?_|refine pSkip ?_|refine pExit ?_|refine pRet ?_|refine pCond ?_|refine gNone ?_))
  refine ldN_is rfl k0 (kv_take z) ?_
  (repeat(first|refine pSeq ?_|refine pReg ?_|refine sCons ?_|refine sNil ?_|refine rCons ?_|refine rNil ?_|refine kNo ?_|refine pRow ?_|refine pBlock ?_|refine pSkip ?_|refine pExit ?_|refine pRet ?_|refine pCond ?_|refine gNone ?_))
  refine (size_w f0 hz hl).mono fun v s1 q => ?_
  obtain ⟨rfl, c1⟩ := q
  have f1 := c1.fine f0
  have nx1 : s.next + 1 ≤ s1.next := c1.next
  have k1 := c1.blk _ _ (show s.next < s.next + 1 by omega) (by simp) k0
  replace c1 := c0.nil c1
  clear k0 c0 f0
  (repeat(first|refine pSeq ?_|refine pReg ?_|refine sCons ?_|refine sNil ?_|refine rCons ?_|refine rNil ?_|refine kNo ?_|refine pRow ?_|refine pBlock ?_|refine pSkip ?_|refine pExit ?_|refine pRet ?_|refine pCond ?_|refine gNone ?_))
  refine ⟨by omega, ?_⟩
  intro m1 n1 hm1 hn1 cs hcs
  obtain rfl : m1 = 0 := by omega
  obtain rfl : n1 = sizeF z n := by omega
  rw [rep_bytes] at hcs
  subst hcs
  (repeat(first|refine pSeq ?_|refine pReg ?_|refine sCons ?_|refine sNil ?_|refine rCons ?_|refine rNil ?_|refine kNo ?_|refine pRow ?_|refine pBlock ?_|refine pSkip ?_|refine pExit ?_|refine pRet ?_|refine pCond ?_|refine gNone ?_))
  obtain ⟨r0, v0, c2, f2⟩ := new2_at f1 (.cells (bytesV (List.replicate (sizeF z n) 0)) tB false false) (.cells [.slice none 0 0] tBs false false)
  refine st_abs (cs' := [slV s1.next 0 (sizeF z n)]) rfl rfl v0 (Nat.lt_succ_self _) rfl rfl fun s2 x2 c3 nx2 => ?_
  replace nx2 : s2.next = s1.next + 1 + 1 := nx2
  have r2 := c3.blk _ _ (show s1.next < s1.next + 1 + 1 by omega) (by simp) r0
  have k2 := c3.blk _ _ (show s.next < s1.next + 1 + 1 by omega) (by simp; omega) (c2.blk _ _ (show s.next < s1.next by omega) (by simp) k1)
  replace c3 : Chg s s2 [] := c1.nil (c2.fresh c3 (by simp))
  have f3 := c3.fine f
  have hr2 := hr.chg c3 (by simp)
  have j0 : LayJ (s1.next + 1) s1.next s.next (sizeF z n) z [] s2 :=
    ⟨x2, ⟨by omega, by simp, by simpa using r2⟩, k2, by omega, by omega, by omega, by omega, by omega⟩
  clear r0 v0 c2 f2 x2 r2 k1 f1
  (repeat(first|refine pSeq ?_|refine pReg ?_|refine sCons ?_|refine sNil ?_|refine rCons ?_|refine rNil ?_|refine kNo ?_|refine pRow ?_|refine pBlock ?_|refine pSkip ?_|refine pExit ?_|refine pRet ?_|refine pCond ?_|refine gNone ?_))
  refine ldN_is rfl k2 (kv_take z) ?_
  clear k2
  (repeat(first|refine pSeq ?_|refine pReg ?_|refine sCons ?_|refine sNil ?_|refine rCons ?_|refine rNil ?_|refine kNo ?_|refine pRow ?_|refine pBlock ?_|refine pSkip ?_|refine pExit ?_|refine pRet ?_|refine pCond ?_|refine gNone ?_))
  refine ⟨.val (clV n_coding_kind_lay_1 [ptrV (s1.next + 1), ptrV s.next]), rfl, ?_⟩
  (repeat(first|refine pSeq ?_|refine pReg ?_|refine sCons ?_|refine sNil ?_|refine rCons ?_|refine rNil ?_|refine kNo ?_|refine pRow ?_|refine pBlock ?_|refine pSkip ?_|refine pExit ?_|refine pRet ?_|refine pCond ?_|refine gNone ?_))
  have hcs : cnt z b.length ≤ sizeF z n := by rw [hn]; unfold sizeF; omega
  refine (part_w (A := [s1.next, s1.next + 1]) f3 hz hr2 hl (fun p x => LayJ (s1.next + 1) s1.next s.next (sizeF z n) z p x) (callV_cs ok_coding_kind_lay_1 _) (fun id hid => by simp at hid; omega) (fun id hid h => by have := hlt _ hid; simp at h; omega) j0 (fun p s3 s4 j c => j.nil c)
    (fun p d s3 hp hd j g _ => lay1_w g hz hd (by omega) (by omega) j)).mono fun v s4 q => ?_
  obtain ⟨rfl, c4, j4⟩ := q
  obtain ⟨v4, r4, k4, lv4, lk4, _, _, _⟩ := j4
  rw [tellP_len] at v4
  replace c4 : Chg s s4 [] := c3.fresh c4 (fun id hid => by simp at hid; omega)
  clear j0 c3 f3 hr2 hr k4 lk4
  have hsz : sizeF z n = cnt z b.length + padN z (cnt z b.length) := by rw [hn]; rfl
  have hlen : ((tellP z b).map (letF z)).length = cnt z b.length := by rw [List.length_map, tellP_len]
  have hT : tellF z b = (tellP z b).map (letF z) ++ List.replicate (padN z (cnt z b.length)) 61 := rfl
  generalize hY : (tellP z b).map (letF z) = Y at *
  generalize hC : cnt z b.length = C at *
  generalize hP : padN z C = P at *
  (repeat(first|refine pSeq ?_|refine pReg ?_|refine sCons ?_|refine sNil ?_|refine rCons ?_|refine rNil ?_|refine kNo ?_|refine pRow ?_|refine pBlock ?_|refine pSkip ?_|refine pExit ?_|refine pRet ?_|refine pCond ?_|refine gNone ?_))
  refine pLoop (MW.head good (fun x : Nat × SS => P - x.1) (fun x => x.1 ≤ P ∧ Room x.2 s1.next (C + P) (Y ++ List.replicate x.1 61) ∧ lookH x.2.heap (s1.next + 1) = some (.cells [slV s1.next (C + x.1) (C + P)] tBs false false) ∧ Chg s x.2 [] ∧ s1.next + 1 < x.2.next)
    (fun x => [(5, .int .i64 (C + P : Nat)), (6, ptrV (s1.next + 1))]) (fun x => x.2) (0, s4) ⟨Nat.zero_le _, by rw [← hsz, List.replicate_zero, List.append_nil]; exact r4, by rw [← hsz]; exact v4, c4, lv4⟩ (Wk.same ⟨by rw [← hsz]; rfl, rfl, trivial⟩) ?_)
  clear v4 r4 lv4 c4
  intro ⟨j, s5⟩ ⟨hj, r5, v5, c5, lv5⟩
  dsimp only at hj r5 v5 c5 lv5 ⊢
  have hlj : (Y ++ List.replicate j 61).length = C + j := by rw [List.length_append, List.length_replicate, hlen]
  (repeat(first|refine pSeq ?_|refine pReg ?_|refine sCons ?_|refine sNil ?_|refine rCons ?_|refine rNil ?_|refine kNo ?_|refine pRow ?_|refine pBlock ?_|refine pSkip ?_|refine pExit ?_|refine pRet ?_|refine pCond ?_|refine gNone ?_))
  refine ld1_is rfl v5 rfl ?_
  (repeat(first|refine pSeq ?_|refine pReg ?_|refine sCons ?_|refine sNil ?_|refine rCons ?_|refine rNil ?_|refine kNo ?_|refine pRow ?_|refine pBlock ?_|refine pSkip ?_|refine pExit ?_|refine pRet ?_|refine pCond ?_|refine gNone ?_))
  intro q hq
  by_cases h5 : j = P
  · subst h5
    obtain rfl : q = false := by rw [hq]; simp <;> omega
    (repeat(first|refine pSeq ?_|refine pReg ?_|refine sCons ?_|refine sNil ?_|refine rCons ?_|refine rNil ?_|refine kNo ?_|refine pRow ?_|refine pBlock ?_|refine pSkip ?_|refine pExit ?_|refine pRet ?_|refine pCond ?_|refine gNone ?_))
    refine ld1_is rfl v5 rfl ?_
    (repeat(first|refine pSeq ?_|refine pReg ?_|refine sCons ?_|refine sNil ?_|refine rCons ?_|refine rNil ?_|refine kNo ?_|refine pRow ?_|refine pBlock ?_|refine pSkip ?_|refine pExit ?_|refine pRet ?_|refine pCond ?_|refine gNone ?_))
    refine toStr_Rdb rfl (hlj ▸ r5.rdb) ?_
    (repeat(first|refine pSeq ?_|refine pReg ?_|refine sCons ?_|refine sNil ?_|refine rCons ?_|refine rNil ?_|refine kNo ?_|refine pRow ?_|refine pBlock ?_|refine pSkip ?_|refine pExit ?_|refine pRet ?_|refine pCond ?_|refine gNone ?_))
    exact ⟨by rw [hT]; rfl, c5⟩
  · obtain rfl : q = true := by rw [hq]; simp <;> omega
    (repeat(first|refine pSeq ?_|refine pReg ?_|refine sCons ?_|refine sNil ?_|refine rCons ?_|refine rNil ?_|refine kNo ?_|refine pRow ?_|refine pBlock ?_|refine pSkip ?_|refine pExit ?_|refine pRet ?_|refine pCond ?_|refine gNone ?_))
    refine ld1_is rfl v5 rfl ?_
    (repeat(first|refine pSeq ?_|refine pReg ?_|refine sCons ?_|refine sNil ?_|refine rCons ?_|refine rNil ?_|refine kNo ?_|refine pRow ?_|refine pBlock ?_|refine pSkip ?_|refine pExit ?_|refine pRet ?_|refine pCond ?_|refine gNone ?_))
    refine app_sroom r5 rfl hlj.symm rfl (by show C + j + 1 ≤ C + P; omega) (by omega) fun s6 r6 c6 nx6 => ?_
    have v6 := c6.blk _ _ lv5 (by simp) v5
    (repeat(first|refine pSeq ?_|refine pReg ?_|refine sCons ?_|refine sNil ?_|refine rCons ?_|refine rNil ?_|refine kNo ?_|refine pRow ?_|refine pBlock ?_|refine pSkip ?_|refine pExit ?_|refine pRet ?_|refine pCond ?_|refine gNone ?_))
    refine st_abs (cs' := [slV s1.next (C + (j + 1)) (C + P)]) rfl rfl v6 (by omega) rfl rfl fun s7 x7 c7 nx7 => ?_
    have r7 := r6.chg c7 (by simp)
    have c57 : Chg s5 s7 [s1.next, s1.next + 1] := chg_same (c6.sub (by simp)) (c7.sub (by simp))
    (repeat(first|refine pSeq ?_|refine pReg ?_|refine sCons ?_|refine sNil ?_|refine rCons ?_|refine rNil ?_|refine kNo ?_|refine pRow ?_|refine pBlock ?_|refine pSkip ?_|refine pExit ?_|refine pRet ?_|refine pCond ?_|refine gNone ?_))
    refine ⟨(j + 1, s7), ⟨by omega, ?_, x7, c5.fresh c57 (fun id hid => by simp at hid; omega), by show s1.next + 1 < s7.next; omega⟩, by show P - (j + 1) < P - j; omega, Wk.same ⟨rfl, rfl, trivial⟩⟩
    show Room s7 _ _ (Y ++ List.replicate (j + 1) 61)
    rw [List.replicate_succ', ← List.append_assoc]
    exact r7
end Go.Vf.S
