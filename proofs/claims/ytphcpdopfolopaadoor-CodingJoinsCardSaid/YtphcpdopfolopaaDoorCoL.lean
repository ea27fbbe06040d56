import Derived.Test.YtphcpdopfolopaaDoorCoK
/- Letters read: the whole. -/
namespace Go.Vf.S
open Go Go.Vf Go.Proofs Go.RowKit
attribute [local irreducible] wSeq wRow wp wG
set_option linter.unusedVariables false
set_option linter.unusedSimpArgs false
set_option maxRecDepth 10000

/-- What reading tells: the bytes, or that they are none. -/
def ReadsAs (r : Option (List UInt8)) (s s' : SS) (v : Value) : Prop := match r with
  | some b => ∃ (base : Option Addr) (n cap : Nat), v = .tuple #[.slice base n cap, .int .i64 0] ∧ Slc pr s' base n cap b ∧ (∀ id ∈ blkOf base, s.next ≤ id)
  | none => v = .tuple #[.slice none 0 0, .int .i64 5]

theorem size_fits {z m N : Nat} (hz : 4 ≤ z ∧ z ≤ 6) (hm : m ≤ N) (h : N = sizeF z (m * z / 8)) : z * m % 8 < z := by
  rw [Nat.mul_comm m z] at h
  unfold sizeF padN cnt at h
  rcases (show z = 4 ∨ z = 5 ∨ z = 6 by omega) with rfl | rfl | rfl
  · rw [if_neg (by omega)] at h; omega
  · rw [if_neg (by omega)] at h; omega
  · rw [if_pos rfl] at h; omega
set_option maxHeartbeats 1000000 in
theorem read_w {s : SS} {z : Nat} {l : List UInt8} (f : Fine s) (hz : 4 ≤ z ∧ z ≤ 6) (hl : l.length ≤ 1000000) :
    CallW pr n_coding_kind_read [kA z, str l] s fun v s' => ReadsAs (readF z l) s s' v ∧ Chg s s' [] := by
  refine CallW.run good ok_coding_kind_read (by simp) rfl ?_
  obtain ⟨k0, c0, f0⟩ := new1_at f (.cells (kV z) tKd false false)
  (repeat(first|refine pSeq ?_|refine pReg ?_|refine sCons ?_|refine sNil ?_|refine rCons ?_|refine rNil ?_|refine kNo ?_|refine pRow ?_|refine pSkip ?_|refine pRet ?_|refine pCond ?_|refine gNone ?_|refine gOn rfl ?_|refine gOff rfl rfl ?_|refine gTup rfl ?_))
  refine (trimRight_w hl).mono fun v s1 q => ?_
  obtain ⟨t, j, e1, e2, rfl, rfl⟩ := q
  have hprog := read_prog hz e1 e2
  have htl : t.length ≤ l.length := by rw [e1, List.length_append]; omega
  have hmul : t.length * z ≤ 1000000 * 6 := Nat.mul_le_mul (by omega) hz.2
  (repeat(first|refine pSeq ?_|refine pReg ?_|refine sCons ?_|refine sNil ?_|refine rCons ?_|refine rNil ?_|refine kNo ?_|refine pRow ?_|refine pSkip ?_|refine pRet ?_|refine pCond ?_|refine gNone ?_|refine gOn rfl ?_|refine gOff rfl rfl ?_|refine gTup rfl ?_))
  intro n1 hn1
  subst hn1
  (repeat(first|refine pSeq ?_|refine pReg ?_|refine sCons ?_|refine sNil ?_|refine rCons ?_|refine rNil ?_|refine kNo ?_|refine pRow ?_|refine pSkip ?_|refine pRet ?_|refine pCond ?_|refine gNone ?_|refine gOn rfl ?_|refine gOff rfl rfl ?_|refine gTup rfl ?_))
  refine ldI_is rfl k0 (kv1 z) ?_
  (repeat(first|refine pSeq ?_|refine pReg ?_|refine sCons ?_|refine sNil ?_|refine rCons ?_|refine rNil ?_|refine kNo ?_|refine pRow ?_|refine pSkip ?_|refine pRet ?_|refine pCond ?_|refine gNone ?_|refine gOn rfl ?_|refine gOff rfl rfl ?_|refine gTup rfl ?_))
  intro w hw
  rw [i64_id (by omega)] at hw
  subst hw
  (repeat(first|refine pSeq ?_|refine pReg ?_|refine sCons ?_|refine sNil ?_|refine rCons ?_|refine rNil ?_|refine kNo ?_|refine pRow ?_|refine pSkip ?_|refine pRet ?_|refine pCond ?_|refine gNone ?_|refine gOn rfl ?_|refine gOff rfl rfl ?_|refine gTup rfl ?_))
  intro w hw
  rw [← Int.natCast_mul, i64_id (by omega)] at hw
  subst hw
  (repeat(first|refine pSeq ?_|refine pReg ?_|refine sCons ?_|refine sNil ?_|refine rCons ?_|refine rNil ?_|refine kNo ?_|refine pRow ?_|refine pSkip ?_|refine pRet ?_|refine pCond ?_|refine gNone ?_|refine gOn rfl ?_|refine gOff rfl rfl ?_|refine gTup rfl ?_))
  refine ⟨by decide, ?_⟩
  intro w hw
  rw [show (8 : Int) = ((8 : Nat) : Int) from rfl, tdivN, i64_id (by omega)] at hw
  subst hw
  have hq8 : t.length * z / 8 ≤ 750000 := by omega
  obtain ⟨Q, hQ⟩ : ∃ Q, Q = t.length * z / 8 := ⟨_, rfl⟩
  rw [← hQ] at hq8 hprog ⊢
  (repeat(first|refine pSeq ?_|refine pReg ?_|refine sCons ?_|refine sNil ?_|refine rCons ?_|refine rNil ?_|refine kNo ?_|refine pRow ?_|refine pSkip ?_|refine pRet ?_|refine pCond ?_|refine gNone ?_|refine gOn rfl ?_|refine gOff rfl rfl ?_|refine gTup rfl ?_))
  intro n2 hn2
  subst hn2
  (repeat(first|refine pSeq ?_|refine pReg ?_|refine sCons ?_|refine sNil ?_|refine rCons ?_|refine rNil ?_|refine kNo ?_|refine pRow ?_|refine pSkip ?_|refine pRet ?_|refine pCond ?_|refine gNone ?_|refine gOn rfl ?_|refine gOff rfl rfl ?_|refine gTup rfl ?_))
  refine ldN_is rfl k0 (kv_take z) ?_
  (repeat(first|refine pSeq ?_|refine pReg ?_|refine sCons ?_|refine sNil ?_|refine rCons ?_|refine rNil ?_|refine kNo ?_|refine pRow ?_|refine pSkip ?_|refine pRet ?_|refine pCond ?_|refine gNone ?_|refine gOn rfl ?_|refine gOff rfl rfl ?_|refine gTup rfl ?_))
  refine (size_w f0 hz (by omega)).mono fun v s1 q => ?_
  obtain ⟨rfl, c1⟩ := q
  have f1 := c1.fine f0
  have nx1 : s.next + 1 ≤ s1.next := c1.next
  have k1 := c1.blk _ _ (show s.next < s.next + 1 by omega) (by simp) k0
  replace c1 := c0.nil c1
  clear k0 c0 f0
  (repeat(first|refine pSeq ?_|refine pReg ?_|refine sCons ?_|refine sNil ?_|refine rCons ?_|refine rNil ?_|refine kNo ?_|refine pRow ?_|refine pSkip ?_|refine pRet ?_|refine pCond ?_|refine gNone ?_|refine gOn rfl ?_|refine gOff rfl rfl ?_|refine gTup rfl ?_))
  intro q hq
  by_cases hsz : l.length = sizeF z Q
  rotate_left
  · rw [if_neg hsz] at hprog
    obtain rfl : q = true := by rw [hq]; simp <;> omega
    (repeat(first|refine pSeq ?_|refine pReg ?_|refine sCons ?_|refine sNil ?_|refine rCons ?_|refine rNil ?_|refine kNo ?_|refine pRow ?_|refine pSkip ?_|refine pRet ?_|refine pCond ?_|refine gNone ?_|refine gOn rfl ?_|refine gOff rfl rfl ?_|refine gTup rfl ?_))
    rw [hprog]
    exact ⟨rfl, c1⟩
  rw [if_pos hsz] at hprog
  obtain rfl : q = false := by rw [hq]; simp <;> omega
  (repeat(first|refine pSeq ?_|refine pReg ?_|refine sCons ?_|refine sNil ?_|refine rCons ?_|refine rNil ?_|refine kNo ?_|refine pRow ?_|refine pSkip ?_|refine pRet ?_|refine pCond ?_|refine gNone ?_|refine gOn rfl ?_|refine gOff rfl rfl ?_|refine gTup rfl ?_))
  refine ⟨by omega, ?_⟩
  intro m1 n1 hm1 hn1 cs hcs
  obtain rfl : m1 = 0 := by omega
  obtain rfl : n1 = Q := by omega
  rw [rep_bytes] at hcs
  subst hcs
  (repeat(first|refine pSeq ?_|refine pReg ?_|refine sCons ?_|refine sNil ?_|refine rCons ?_|refine rNil ?_|refine kNo ?_|refine pRow ?_|refine pSkip ?_|refine pRet ?_|refine pCond ?_|refine gNone ?_|refine gOn rfl ?_|refine gOff rfl rfl ?_|refine gTup rfl ?_))
  obtain ⟨r0, v0, c2, f2⟩ := new2_at f1 (.cells (bytesV (List.replicate n1 0)) tB false false) (.cells [.slice none 0 0] tBs false false)
  refine st_abs (cs' := [slV s1.next 0 n1]) rfl rfl v0 (Nat.lt_succ_self _) rfl rfl fun s2 x2 c3 nx2 => ?_
  replace nx2 : s2.next = s1.next + 1 + 1 := nx2
  have r2 := c3.blk _ _ (show s1.next < s1.next + 1 + 1 by omega) (by simp) r0
  have k2 := c3.blk _ _ (show s.next < s1.next + 1 + 1 by omega) (by simp; omega) (c2.blk _ _ (show s.next < s1.next by omega) (by simp) k1)
  replace c3 : Chg s s2 [] := c1.nil (c2.fresh c3 (by simp))
  have f3 := c3.fine f
  clear r0 v0 c2 f2 k1 f1 c1
  (repeat(first|refine pSeq ?_|refine pReg ?_|refine sCons ?_|refine sNil ?_|refine rCons ?_|refine rNil ?_|refine kNo ?_|refine pRow ?_|refine pSkip ?_|refine pRet ?_|refine pCond ?_|refine gNone ?_|refine gOn rfl ?_|refine gOff rfl rfl ?_|refine gTup rfl ?_))
  obtain ⟨a0, m0, c4, f4⟩ := new2_at f3 (.cells [u64V 0] tU6 false false) (.cells [u64V 0] tU6 false false)
  refine st_abs (cs' := [u64V 0]) rfl rfl a0 (show s2.next < s2.next + 1 + 1 by omega) rfl rfl fun s3 x3 c5 nx3 => ?_
  replace nx3 : s3.next = s2.next + 1 + 1 := nx3
  have m3 := c5.blk _ _ (show s2.next + 1 < s2.next + 1 + 1 by omega) (by simp) m0
  have c25 : Chg s2 s3 [] := c4.fresh c5 (by simp)
  clear a0 m0 c4 f4 c5
  (repeat(first|refine pSeq ?_|refine pReg ?_|refine sCons ?_|refine sNil ?_|refine rCons ?_|refine rNil ?_|refine kNo ?_|refine pRow ?_|refine pSkip ?_|refine pRet ?_|refine pCond ?_|refine gNone ?_|refine gOn rfl ?_|refine gOff rfl rfl ?_|refine gTup rfl ?_))
  refine st_abs (cs' := [u64V 0]) rfl rfl m3 (show s2.next + 1 < s3.next by omega) rfl rfl fun s4 x4 c6 nx4 => ?_
  have x5 := c6.blk _ _ (show s2.next < s3.next by omega) (by simp) x3
  have c26 : Chg s2 s4 [] := c25.fresh c6 (by simp)
  replace c3 := c3.nil c26
  have f5 := c3.fine f
  have k5 := c26.blk _ _ (show s.next < s2.next by omega) (by simp) k2
  have r5 := c26.blk _ _ (show s1.next < s2.next by omega) (by simp) r2
  have v5 := c26.blk _ _ (show s1.next + 1 < s2.next by omega) (by simp) x2
  have h5 : Five s2.next (s2.next + 1) (s1.next + 1) s1.next s.next := by
    unfold Five
    simp
    omega
  have j0 : RdJ s2.next (s2.next + 1) (s1.next + 1) s1.next s.next n1 z [] s4 :=
    ⟨by rw [kpt_nil]; exact x5, by simpa using x4, by simpa using v5, ⟨by omega, by rw [outB_nil]; simp, by rw [outB_nil]; simpa using r5⟩, k5, by omega, by omega, by omega, by omega⟩
  clear m3 c25 c6 x3 x5 c26 k2 r2 x2 r5 v5 f3
  (repeat(first|refine pSeq ?_|refine pReg ?_|refine sCons ?_|refine sNil ?_|refine rCons ?_|refine rNil ?_|refine kNo ?_|refine pRow ?_|refine pSkip ?_|refine pRet ?_|refine pCond ?_|refine gNone ?_|refine gOn rfl ?_|refine gOff rfl rfl ?_|refine gTup rfl ?_))
  refine ldN_is rfl k5 (kv_take z) ?_
  clear k5
  (repeat(first|refine pSeq ?_|refine pReg ?_|refine sCons ?_|refine sNil ?_|refine rCons ?_|refine rNil ?_|refine kNo ?_|refine pRow ?_|refine pSkip ?_|refine pRet ?_|refine pCond ?_|refine gNone ?_|refine gOn rfl ?_|refine gOff rfl rfl ?_|refine gTup rfl ?_))
  refine ⟨.val (clV n_coding_kind_read_1 [ptrV s2.next, ptrV s.next, ptrV (s2.next + 1), ptrV (s1.next + 1)]), rfl, ?_⟩
  (repeat(first|refine pSeq ?_|refine pReg ?_|refine sCons ?_|refine sNil ?_|refine rCons ?_|refine rNil ?_|refine kNo ?_|refine pRow ?_|refine pSkip ?_|refine pRet ?_|refine pCond ?_|refine gNone ?_|refine gOn rfl ?_|refine gOff rfl rfl ?_|refine gTup rfl ?_))
  refine (each_w (A := [s2.next, s2.next + 1, s1.next + 1, s1.next]) f5 hz (by omega) (fun p x => RdJ s2.next (s2.next + 1) (s1.next + 1) s1.next s.next n1 z p x) (callV_cs ok_coding_kind_read_1 _) (fun id hid => by simp at hid; omega) j0 (fun p s3 s4 j c => j.nil c)
    (fun p d s3 hp hd j g _ => read1_w g hz hd (by rw [hQ, Nat.mul_comm]; exact Nat.div_le_div_right (Nat.mul_le_mul_right _ hp)) (by omega) h5 j)).mono fun v s6 q => ?_
  obtain ⟨c7, q⟩ := q
  replace c7 : Chg s s6 [] := c3.fresh c7 (fun id hid => by simp at hid; omega)
  clear j0 f5 x4
  cases hp : plcs z t with
  | none =>
    rw [hp] at q hprog
    subst q
    (repeat(first|refine pSeq ?_|refine pReg ?_|refine sCons ?_|refine sNil ?_|refine rCons ?_|refine rNil ?_|refine kNo ?_|refine pRow ?_|refine pSkip ?_|refine pRet ?_|refine pCond ?_|refine gNone ?_|refine gOn rfl ?_|refine gOff rfl rfl ?_|refine gTup rfl ?_))
    intro q hq
    obtain rfl : q = true := by rw [hq]; rfl
    (repeat(first|refine pSeq ?_|refine pReg ?_|refine sCons ?_|refine sNil ?_|refine rCons ?_|refine rNil ?_|refine kNo ?_|refine pRow ?_|refine pSkip ?_|refine pRet ?_|refine pCond ?_|refine gNone ?_|refine gOn rfl ?_|refine gOff rfl rfl ?_|refine gTup rfl ?_))
    rw [hprog]
    exact ⟨rfl, c7⟩
  | some p =>
    rw [hp] at q hprog
    obtain ⟨rfl, j1⟩ := q
    have hpl := plcs_len hp
    (repeat(first|refine pSeq ?_|refine pReg ?_|refine sCons ?_|refine sNil ?_|refine rCons ?_|refine rNil ?_|refine kNo ?_|refine pRow ?_|refine pSkip ?_|refine pRet ?_|refine pCond ?_|refine gNone ?_|refine gOn rfl ?_|refine gOff rfl rfl ?_|refine gTup rfl ?_))
    intro q hq
    obtain rfl : q = false := by rw [hq]; rfl
    (repeat(first|refine pSeq ?_|refine pReg ?_|refine sCons ?_|refine sNil ?_|refine rCons ?_|refine rNil ?_|refine kNo ?_|refine pRow ?_|refine pSkip ?_|refine pRet ?_|refine pCond ?_|refine gNone ?_|refine gOn rfl ?_|refine gOff rfl rfl ?_|refine gTup rfl ?_))
    refine ldI_is rfl j1.a (show _ = some (u64V (kpt z p)) from rfl) ?_
    (repeat(first|refine pSeq ?_|refine pReg ?_|refine sCons ?_|refine sNil ?_|refine rCons ?_|refine rNil ?_|refine kNo ?_|refine pRow ?_|refine pSkip ?_|refine pRet ?_|refine pCond ?_|refine gNone ?_|refine gOn rfl ?_|refine gOff rfl rfl ?_|refine gTup rfl ?_))
    intro q hq
    have hfit : z * p.length % 8 < z := by rw [hpl]; exact size_fits hz htl (by rw [hsz, hQ])
    have hrp : readF z l = if kpt z p = 0 then some (outB z p) else none := by
      rw [hprog]
      show readP z p = _
      rw [readP_is]
      by_cases h0 : kpt z p = 0
      · rw [if_pos ⟨hfit, h0⟩, if_pos h0]
      · rw [if_neg (fun h => h0 h.2), if_neg h0]
    by_cases h0 : kpt z p = 0
    · obtain rfl : q = false := by rw [hq, h0]; rfl
      rw [if_pos h0] at hrp
      (repeat(first|refine pSeq ?_|refine pReg ?_|refine sCons ?_|refine sNil ?_|refine rCons ?_|refine rNil ?_|refine kNo ?_|refine pRow ?_|refine pSkip ?_|refine pRet ?_|refine pCond ?_|refine gNone ?_|refine gOn rfl ?_|refine gOff rfl rfl ?_|refine gTup rfl ?_))
      refine ld1_is rfl j1.v rfl ?_
      (repeat(first|refine pSeq ?_|refine pReg ?_|refine sCons ?_|refine sNil ?_|refine rCons ?_|refine rNil ?_|refine kNo ?_|refine pRow ?_|refine pSkip ?_|refine pRet ?_|refine pCond ?_|refine gNone ?_|refine gOn rfl ?_|refine gOff rfl rfl ?_|refine gTup rfl ?_))
      rw [hrp]
      refine ⟨⟨some ⟨s1.next, 0, none⟩, _, _, rfl, ?_, fun id hid => by simp [blkOf] at hid; omega⟩, c7⟩
      rw [← outB_len]
      exact j1.r.slc
    · obtain rfl : q = true := by rw [hq]; simp; omega
      rw [if_neg h0] at hrp
      (repeat(first|refine pSeq ?_|refine pReg ?_|refine sCons ?_|refine sNil ?_|refine rCons ?_|refine rNil ?_|refine kNo ?_|refine pRow ?_|refine pSkip ?_|refine pRet ?_|refine pCond ?_|refine gNone ?_|refine gOn rfl ?_|refine gOff rfl rfl ?_|refine gTup rfl ?_))
      rw [hrp]
      exact ⟨rfl, c7⟩
end Go.Vf.S
