import Derived.Test.YtgdkekacalmjoaaDoorPaD
/- Paths: parameters, one behind the other. -/
namespace Go.Vf.S
open Go Go.Vf
attribute [local irreducible] wSeq wRow wp wG
set_option linter.unusedVariables false
set_option linter.unusedSimpArgs false
set_option maxRecDepth 10000

theorem part_any {c : UInt8} : ∀ {l p : List UInt8}, p ∈ splitF c l → p.length ≤ l.length
  | [], p, h => by
    have : p = [] := by simpa [splitF, sp] using h
    simp [this]
  | x :: r, p, h => by
    have ih := @part_any c r
    unfold splitF at h ih
    by_cases hx : x = c
    · rw [sp, if_pos hx] at h
      rcases List.mem_cons.1 h with e | q
      · simp [e]
      · have := ih q
        simp; omega
    · rw [sp, if_neg hx] at h
      rcases List.mem_cons.1 h with e | q
      · have := ih (List.mem_cons_self ..)
        rw [e]; simp; omega
      · have := ih (List.mem_cons_of_mem _ q)
        simp; omega

/-- The front cut off a row whose room is all its own. -/
theorem slL_rest {P : Program} {T : TL} {s : SS} {K : RR → Prop} {x lo : Operand} {b n cap : Nat} {cs : List Value} {t : TypeId} {r : Bool} (hl : opd T s.gl lo = some (.int .i64 1)) (hx : opd T s.gl x = some (.slice (some ⟨b, 0, none⟩) n cap)) (hb : lookH s.heap b = some (.cells cs t false r)) (h1 : 1 ≤ n) (hc : n ≤ cap)
    (h : ∀ o d, (2 ≤ n → o = 1) → K (.val (.slice (some ⟨b, o, none⟩) (n - 1) d))) : wN P (.slL 1 x (some lo) none) T s K := by
  simp only [wN, hx, hb, opdO, hl]
  refine wBnd_is (k := n) ?_ hc ?_
  · exact rfl
  refine wBnd_is (k := 1) ?_ h1 fun o n' d ho hn hd => ?_
  · exact rfl
  subst hn
  refine h o d fun h2 => ?_
  rw [ho, if_neg (by omega)]

theorem lk_ne {H : List (Nat × Option ABlk)} {a b : Nat} {x y : ABlk} (h : lookH H a = some x) (k : lookH H b = some y) (hne : x ≠ y) : a ≠ b := by
  rintro rfl
  rw [h] at k
  cases k
  exact hne rfl
theorem no2 {a x y : Nat} (h : a ≠ x) (k : a ≠ y) : a ∉ [x, y] := by simp [h, k]

def pv0 : Pv := ⟨false, false, 0⟩
/-- What parameters say, from what the ones ahead said on. -/
def goP : Pv → Nat → Int → List (List UInt8) → Pv × Int
  | p, _, w, [] => if w = 0 then (p, 0) else (pv0, w)
  | p, k, w, x :: r => if sayE p k x = 5 then (pv0, 5) else goP (sayV p x) (sayK k x) (if sayE p k x = 0 then w else sayE p k x) r
def paramsF (l : List UInt8) : Pv × Int := if (sp 32 l).1 = [] then goP pv0 0 0 (sp 32 l).2 else (pv0, 5)

abbrev pmV (p : Pv) : Value := .agg ⟨pvCells p⟩
theorem agg_Pm : aggB pr tPm = some true := by kernel_rfl
theorem sz_Pm : sizeB pr tPm = some 3 := by kernel_rfl
theorem agg3 {p : Pv} : takeN 3 ((pvCells p).drop 0) = some (pvCells p) := rfl

theorem sayK_le (k : Nat) (l : List UInt8) : sayK k l ≤ k + 1 := by
  unfold sayK
  split <;> omega

structure PpIt where
  j : Nat
  p : Pv
  k : Nat
  w : Int
  s : SS

set_option maxHeartbeats 1000000 in
theorem params_w {s : SS} {l : List UInt8} (hf : Fine s) (hl : l.length ≤ 900000) : CallW pr n_path_ParseParams [str l] s fun v s' => v = .tuple ⟨[pmV (paramsF l).1, .int .i64 (paramsF l).2]⟩ ∧ Chg s s' [] := by
  have hcount : (splitF 32 l).length ≤ 900001 := by rw [split_len]; have := @List.count_le_length _ _ 32 l; omega
  have hparts : ∀ p ∈ splitF 32 l, p.length ≤ 1000000 := fun p hp => by have := part_any hp; omega
  have eF : paramsF l = if (sp 32 l).1 = [] then goP pv0 0 0 (sp 32 l).2 else (pv0, 5) := rfl
  have eS : splitF 32 l = (sp 32 l).1 :: (sp 32 l).2 := rfl
  rw [eS] at hcount hparts
  refine CallW.run good ok_path_ParseParams (by simp) rfl ?_
  (repeat(first|refine pSeq ?_|refine pReg ?_|refine sCons ?_|refine sNil ?_|refine pBlock ?_|refine pSkip ?_|refine pExit ?_|refine pRet ?_|refine pCond ?_|refine gNone ?_))
  refine (known_w (p := pv0) (pb := s.next + 1) lkH (Nat.lt_succ_self _) (((Chg.new []).nil (Chg.new [])).fine hf)).mono fun v s3 q => ?_
  obtain ⟨pc, bc, mp, rfl, h3, hb3, bl3, hm3, ml3, c13, hbc⟩ := q
  have c3 : Chg s s3 [] := ((Chg.new []).nil (Chg.new [])).nil c13
  have r3 : lookH s3.heap s.next = some (.cells (pvCells pv0) tPm false false) := c13.blk _ _ (by show s.next < s.next + 1 + 1; omega) (by simp) (((Chg.new []).blk _ _ (Nat.lt_succ_self _) (by simp) lkH))
  have n3 : s.next + 2 ≤ s3.next := c13.next
  have hbc : s.next + 2 ≤ bc := hbc
  clear c13
  (repeat(first|refine pSeq ?_|refine pReg ?_|refine sCons ?_|refine sNil ?_|refine pBlock ?_|refine pSkip ?_|refine pExit ?_|refine pRet ?_|refine pCond ?_|refine gNone ?_))
  refine (Split_f (l := l) (c := 32) (by omega)).mono fun v s4 q => ?_
  obtain ⟨base, cap, rfl, st4, c34, hB, hcap, b, cs, rfl, hb4⟩ := q
  have hBb : s3.next ≤ b := hB b (by simp [blkOf])
  have hlt4 : b < s4.next := by obtain ⟨b', _, _, _, _, e, h, _⟩ := st4; cases e; exact h
  have hcs : ∀ (i : Nat) x, (splitF 32 l)[i]? = some x → cs[i]? = some (str x) := by
    obtain ⟨b', cs', _, _, _, e, h, h', h''⟩ := st4; cases e; rw [hb4] at h'; cases h'; exact h''
  have c4 : Chg s s4 [] := c3.nil c34
  have h4 := h3.chg c34 (by simp) (by simp)
  have hb4' := c34.blk _ _ bl3 (by simp) hb3
  have hm4 := c34.blk _ _ ml3 (by simp) hm3
  have r4 := c34.blk _ _ (by omega) (by simp) r3
  have n4 := c34.next
  rw [eF]
  rw [eS] at *
  generalize hfirst : (sp 32 l).1 = first at *
  generalize hrest : (sp 32 l).2 = rest at *
  (repeat(first|refine pSeq ?_|refine pReg ?_|refine sCons ?_|refine sNil ?_|refine pBlock ?_|refine pSkip ?_|refine pExit ?_|refine pRet ?_|refine pCond ?_|refine gNone ?_))
  refine ⟨by simp, ?_⟩
  intro m hm o ho
  obtain rfl : m = 0 := by omega
  obtain rfl : o = 0 := by omega
  (repeat(first|refine pSeq ?_|refine pReg ?_|refine sCons ?_|refine sNil ?_|refine pBlock ?_|refine pSkip ?_|refine pExit ?_|refine pRet ?_|refine pCond ?_|refine gNone ?_))
  refine ldS_is rfl hb4 (hcs 0 first rfl) ?_
  (repeat(first|refine pSeq ?_|refine pReg ?_|refine sCons ?_|refine sNil ?_|refine pBlock ?_|refine pSkip ?_|refine pExit ?_|refine pRet ?_|refine pCond ?_|refine gNone ?_))
  intro q hq
  by_cases hfe : first = []
  · obtain rfl : q = false := by rw [hq, hfe]; rfl
    rw [if_pos hfe]
    (repeat(first|refine pSeq ?_|refine pReg ?_|refine sCons ?_|refine sNil ?_|refine pBlock ?_|refine pSkip ?_|refine pExit ?_|refine pRet ?_|refine pCond ?_|refine gNone ?_))
    refine slL_rest rfl rfl hb4 (by simp) (by simpa using hcap) fun o d ho => ?_
    have hn1 : (first :: rest).length - 1 = rest.length := by simp
    rw [hn1]
    (repeat(first|refine pSeq ?_|refine pReg ?_|refine sCons ?_|refine sNil ?_|refine pBlock ?_|refine pSkip ?_|refine pExit ?_|refine pRet ?_|refine pCond ?_|refine gNone ?_))
    refine pLoop (MW.head good (fun x : PpIt => rest.length - x.j) (fun x => goP pv0 0 0 rest = goP x.p x.k x.w (rest.drop x.j) ∧ x.j ≤ rest.length ∧ x.k ≤ x.j ∧ PvAt x.s pc (s.next + 1) x.p ∧ lookH x.s.heap bc = some (.cells [.int .i64 x.k] tI false false) ∧ lookH x.s.heap mp = some (.map (knownM pc bc) 2) ∧ lookH x.s.heap s.next = some (.cells (pvCells pv0) tPm false false) ∧ lookH x.s.heap b = some (.cells cs tS false false) ∧ Chg s4 x.s [s.next + 1, bc])
      (fun x => [(2, .pointer (some ⟨s.next, 0, none⟩)), (4, .pointer (some ⟨s.next + 1, 0, none⟩)), (5, .map (some mp)), (7, .int .i64 x.w), (20, .slice (some ⟨b, o, none⟩) rest.length d), (21, .int .i64 (rest.length : Nat)), (22, .int .i64 x.j)]) (fun x => x.s)
      ⟨0, pv0, 0, 0, s4⟩ ⟨by simp, Nat.zero_le _, Nat.le_refl _, h4, hb4', hm4, r4, hb4, .refl _ _⟩ (Wk.same ⟨rfl, rfl, rfl, rfl, rfl, rfl, rfl, trivial⟩) ?_)
    intro ⟨j, p, k, w, s5⟩ ⟨i1, i2, i3, h5, hb5, hm5, r5, b5, c45⟩
    dsimp only at i1 i2 i3 h5 hb5 hm5 r5 b5 c45 ⊢
    have n5 := c45.next
    have c5 : Chg s s5 [] := c4.fresh c45 (by intro id q; simp at q; omega)
    (repeat(first|refine pSeq ?_|refine pReg ?_|refine sCons ?_|refine sNil ?_|refine pBlock ?_|refine pSkip ?_|refine pExit ?_|refine pRet ?_|refine pCond ?_|refine gNone ?_))
    intro q hq
    by_cases hj : j < rest.length
    · obtain rfl : q = true := by rw [hq]; simp <;> omega
      obtain ⟨x, hx⟩ : ∃ x, rest[j]? = some x := ⟨_, List.getElem?_eq_getElem hj⟩
      have hxl : x.length ≤ 1000000 := hparts x (List.mem_cons_of_mem _ (List.mem_of_getElem? hx))
      rw [drop_next hx, goP] at i1
      (repeat(first|refine pSeq ?_|refine pReg ?_|refine sCons ?_|refine sNil ?_|refine pBlock ?_|refine pSkip ?_|refine pExit ?_|refine pRet ?_|refine pCond ?_|refine gNone ?_))
      refine ⟨by omega, ?_⟩
      intro m hm o' ho'
      obtain rfl : m = j := by omega
      obtain rfl : o' = m + 1 := by have := ho (by simp; omega); omega
      (repeat(first|refine pSeq ?_|refine pReg ?_|refine sCons ?_|refine sNil ?_|refine pBlock ?_|refine pSkip ?_|refine pExit ?_|refine pRet ?_|refine pCond ?_|refine gNone ?_))
      refine ldS_is rfl b5 (hcs (m + 1) x (by simpa using hx)) ?_
      (repeat(first|refine pSeq ?_|refine pReg ?_|refine sCons ?_|refine sNil ?_|refine pBlock ?_|refine pSkip ?_|refine pExit ?_|refine pRet ?_|refine pCond ?_|refine gNone ?_))
      refine (say_w h5 hb5 (by omega) hm5 (by omega) (c5.fine hf) (by simp at hcount; omega) hxl).mono fun v s6 q => ?_
      obtain ⟨rfl, h6, hb6, c56⟩ := q
      have hm6 := c56.blk _ _ (by omega) (no2 (lk_ne hm5 h5.blk (by simp)) (lk_ne hm5 hb5 (by simp))) hm5
      have r6 := c56.blk _ _ (by omega) (no2 (by omega) (by omega)) r5
      have b6 := c56.blk _ _ (by omega) (no2 (by omega) (pm_ne b5 hb5 (by decide))) b5
      have n6 := c56.next
      have c46 : Chg s4 s6 [s.next + 1, bc] := c45.trans' c56 (fun _ q _ => q) (fun _ q _ => q)
      have c6 : Chg s s6 [] := c4.fresh c46 (by intro id q; simp at q; omega)
      have hk6 := sayK_le k x
      generalize sayK k x = k' at *
      generalize sayV p x = p' at *
      generalize sayE p k x = e at *
      (repeat(first|refine pSeq ?_|refine pReg ?_|refine sCons ?_|refine sNil ?_|refine pBlock ?_|refine pSkip ?_|refine pExit ?_|refine pRet ?_|refine pCond ?_|refine gNone ?_))
      intro q hq
      by_cases he : e = 5
      · subst he
        obtain rfl : q = true := by rw [hq]; rfl
        rw [if_pos rfl] at i1
        rw [i1]
        (repeat(first|refine pSeq ?_|refine pReg ?_|refine sCons ?_|refine sNil ?_|refine pBlock ?_|refine pSkip ?_|refine pExit ?_|refine pRet ?_|refine pCond ?_|refine gNone ?_))
        refine st_abs (cs' := pvCells pv0) rfl rfl r6 (by omega) rfl rfl fun s7 e7 c7 n7 => ?_
        (repeat(first|refine pSeq ?_|refine pReg ?_|refine sCons ?_|refine sNil ?_|refine pBlock ?_|refine pSkip ?_|refine pExit ?_|refine pRet ?_|refine pCond ?_|refine gNone ?_))
        (repeat (first | with_reducible refine sqRet ?_ | with_reducible refine bkRet ?_ | with_reducible refine hdRet ?_))
        exact ret_cell agg_Pm sz_Pm rfl e7 agg3 rfl ⟨rfl, c6.fresh c7 (by simp)⟩
      · obtain rfl : q = false := by rw [hq]; simpa using he
        rw [if_neg he] at i1
        (repeat(first|refine pSeq ?_|refine pReg ?_|refine sCons ?_|refine sNil ?_|refine pBlock ?_|refine pSkip ?_|refine pExit ?_|refine pRet ?_|refine pCond ?_|refine gNone ?_))
        intro q hq
        by_cases he0 : e = 0
        · subst he0
          obtain rfl : q = false := by rw [hq]; rfl
          rw [if_pos rfl] at i1
          (repeat(first|refine pSeq ?_|refine pReg ?_|refine sCons ?_|refine sNil ?_|refine pBlock ?_|refine pSkip ?_|refine pExit ?_|refine pRet ?_|refine pCond ?_|refine gNone ?_))
          intro z hz
          rw [i64_id (by omega)] at hz
          obtain rfl : z = ((m + 1 : Nat) : Int) := by omega
          (repeat(first|refine pSeq ?_|refine pReg ?_|refine sCons ?_|refine sNil ?_|refine pBlock ?_|refine pSkip ?_|refine pExit ?_|refine pRet ?_|refine pCond ?_|refine gNone ?_))
          exact ⟨⟨m + 1, p', k', w, s6⟩, ⟨i1, (by show m + 1 ≤ rest.length; omega), (by show k' ≤ m + 1; omega), h6, hb6, hm6, r6, b6, c46⟩, by show rest.length - (m + 1) < rest.length - m; omega, Wk.same ⟨rfl, rfl, rfl, rfl, rfl, rfl, rfl, trivial⟩⟩
        · obtain rfl : q = true := by rw [hq]; simpa using he0
          rw [if_neg he0] at i1
          (repeat(first|refine pSeq ?_|refine pReg ?_|refine sCons ?_|refine sNil ?_|refine pBlock ?_|refine pSkip ?_|refine pExit ?_|refine pRet ?_|refine pCond ?_|refine gNone ?_))
          intro z hz
          rw [i64_id (by omega)] at hz
          obtain rfl : z = ((m + 1 : Nat) : Int) := by omega
          (repeat(first|refine pSeq ?_|refine pReg ?_|refine sCons ?_|refine sNil ?_|refine pBlock ?_|refine pSkip ?_|refine pExit ?_|refine pRet ?_|refine pCond ?_|refine gNone ?_))
          exact ⟨⟨m + 1, p', k', e, s6⟩, ⟨i1, (by show m + 1 ≤ rest.length; omega), (by show k' ≤ m + 1; omega), h6, hb6, hm6, r6, b6, c46⟩, by show rest.length - (m + 1) < rest.length - m; omega, Wk.same ⟨rfl, rfl, rfl, rfl, rfl, rfl, rfl, trivial⟩⟩
    · obtain rfl : q = false := by rw [hq]; simp <;> omega
      rw [List.drop_of_length_le (by omega), goP] at i1
      rw [i1]
      (repeat(first|refine pSeq ?_|refine pReg ?_|refine sCons ?_|refine sNil ?_|refine pBlock ?_|refine pSkip ?_|refine pExit ?_|refine pRet ?_|refine pCond ?_|refine gNone ?_))
      intro q hq
      by_cases hw : w = 0
      · subst hw
        obtain rfl : q = false := by rw [hq]; rfl
        rw [if_pos rfl]
        (repeat(first|refine pSeq ?_|refine pReg ?_|refine sCons ?_|refine sNil ?_|refine pBlock ?_|refine pSkip ?_|refine pExit ?_|refine pRet ?_|refine pCond ?_|refine gNone ?_))
        refine ldN_is rfl h5.blk agg3 ?_
        (repeat(first|refine pSeq ?_|refine pReg ?_|refine sCons ?_|refine sNil ?_|refine pBlock ?_|refine pSkip ?_|refine pExit ?_|refine pRet ?_|refine pCond ?_|refine gNone ?_))
        refine st_abs (cs' := pvCells p) rfl rfl r5 (by omega) rfl rfl fun s7 e7 c7 n7 => ?_
        (repeat(first|refine pSeq ?_|refine pReg ?_|refine sCons ?_|refine sNil ?_|refine pBlock ?_|refine pSkip ?_|refine pExit ?_|refine pRet ?_|refine pCond ?_|refine gNone ?_))
        (repeat (first | with_reducible refine sqRet ?_ | with_reducible refine bkRet ?_ | with_reducible refine hdRet ?_))
        exact ret_cell agg_Pm sz_Pm rfl e7 agg3 rfl ⟨rfl, c5.fresh c7 (by simp)⟩
      · obtain rfl : q = true := by rw [hq]; simpa using hw
        rw [if_neg hw]
        (repeat(first|refine pSeq ?_|refine pReg ?_|refine sCons ?_|refine sNil ?_|refine pBlock ?_|refine pSkip ?_|refine pExit ?_|refine pRet ?_|refine pCond ?_|refine gNone ?_))
        refine st_abs (cs' := pvCells pv0) rfl rfl r5 (by omega) rfl rfl fun s7 e7 c7 n7 => ?_
        (repeat(first|refine pSeq ?_|refine pReg ?_|refine sCons ?_|refine sNil ?_|refine pBlock ?_|refine pSkip ?_|refine pExit ?_|refine pRet ?_|refine pCond ?_|refine gNone ?_))
        (repeat (first | with_reducible refine sqRet ?_ | with_reducible refine bkRet ?_ | with_reducible refine hdRet ?_))
        exact ret_cell agg_Pm sz_Pm rfl e7 agg3 rfl ⟨rfl, c5.fresh c7 (by simp)⟩
  · obtain rfl : q = true := by rw [hq]; simpa using hfe
    rw [if_neg hfe]
    (repeat(first|refine pSeq ?_|refine pReg ?_|refine sCons ?_|refine sNil ?_|refine pBlock ?_|refine pSkip ?_|refine pExit ?_|refine pRet ?_|refine pCond ?_|refine gNone ?_))
    refine st_abs (cs' := pvCells pv0) rfl rfl r4 (by omega) rfl rfl fun s5 e5 c5 n5 => ?_
    (repeat(first|refine pSeq ?_|refine pReg ?_|refine sCons ?_|refine sNil ?_|refine pBlock ?_|refine pSkip ?_|refine pExit ?_|refine pRet ?_|refine pCond ?_|refine gNone ?_))
    (repeat (first | with_reducible refine sqRet ?_ | with_reducible refine bkRet ?_ | with_reducible refine hdRet ?_))
    exact ret_cell agg_Pm sz_Pm rfl e5 agg3 rfl ⟨rfl, c4.fresh c5 (by simp)⟩
end Go.Vf.S
