import Derived.Test.YthhcngkblihliaaDoorHdLf
/- A message's text that is made: its fields. -/
namespace Go.Vf.S
open Go Go.Vf Go.Proofs Go.RowKit
attribute [local irreducible] wSeq wRow wp wG
set_option linter.unusedVariables false
set_option linter.unusedSimpArgs false
set_option maxRecDepth 10000

structure Lin where
  n : List UInt8
  v : List UInt8
  k : Nat
abbrev tLn : TypeId := 83
def lnC (x : Lin) : List Value := [str x.n, str x.v, .int .u8 x.k]
def lnsC (ls : List Lin) : List Value := ls.flatMap lnC
theorem lnsC_at : ∀ {ls : List Lin} {i : Nat} {x : Lin}, ls[i]? = some x → (lnsC ls).drop (i * 3) = lnC x ++ lnsC (ls.drop (i + 1))
  | [], i, x, h => by simp at h
  | g :: ls, 0, x, h => by
    simp only [List.getElem?_cons_zero, Option.some.injEq] at h
    subst h
    rfl
  | g :: ls, i + 1, x, h => by
    have ih := lnsC_at (ls := ls) (i := i) (x := x) (by simpa using h)
    rw [List.drop_succ_cons, ← ih, show (i + 1) * 3 = 3 + i * 3 by omega, ← List.drop_drop]
    rfl
/-- Lines that are handed in. -/
def LnRd (s : SS) (W : Option Addr) (ls : List Lin) : Prop := match W with
  | none => ls = []
  | some ⟨b, off, sp⟩ => off = 0 ∧ sp = none ∧ b < s.next ∧ ∃ t g r, lookH s.heap b = some (.cells (lnsC ls) t g r)
theorem LnRd.chg {s s' : SS} {W : Option Addr} {ls : List Lin} (h : LnRd s W ls) (c : Chg s s' []) : LnRd s' W ls := by
  cases W with
  | none => exact h
  | some a =>
    obtain ⟨b, off, sp⟩ := a
    obtain ⟨h1, h2, h3, t, g, r, h4⟩ := h
    exact ⟨h1, h2, Nat.lt_of_lt_of_le h3 c.next, t, g, r, c.blk _ _ h3 (by simp) h4⟩
theorem LnRd.at {s : SS} {W : Option Addr} {ls : List Lin} (h : LnRd s W ls) (hn : ls ≠ []) : ∃ b t g r, W = some ⟨b, 0, none⟩ ∧ lookH s.heap b = some (.cells (lnsC ls) t g r) := by
  cases W with
  | none => exact absurd h hn
  | some a =>
    obtain ⟨b, off, sp⟩ := a
    obtain ⟨rfl, rfl, h3, t, g, r, h4⟩ := h
    exact ⟨b, t, g, r, rfl, h4⟩

def nmC (c : UInt8) : UInt8 := if 33 + c.toNat % 94 = 58 then 99 else UInt8.ofNat (33 + c.toNat % 94)
def nmL (n : List UInt8) : List UInt8 := (70 :: n.take 20).map nmC
def vlL (v : List UInt8) : List UInt8 := (v.take 200).map plainC
def gL (x : Lin) : List (List UInt8) := [nmL x.n ++ 58 :: (vlL x.v).take x.k, 9 :: (vlL x.v).drop x.k]
def LL (ls : List Lin) : List (List UInt8) := (ls.take 12).flatMap gL
def nmsL (ls : List Lin) : List (List UInt8) := ls.map fun x => nmL x.n
theorem ofNat_nat {n : Nat} (h : n < 256) : (UInt8.ofNat n).toNat = n := by
  rw [UInt8.toNat_ofNat']
  omega
theorem nmL_len (n : List UInt8) : (nmL n).length ≤ 21 := by unfold nmL; rw [List.length_map, List.length_cons, List.length_take]; omega
theorem vlL_len (v : List UInt8) : (vlL v).length ≤ 200 := by unfold vlL; rw [List.length_map, List.length_take]; omega
theorem gL_len (x : Lin) : (jn (gL x)).length ≤ 230 := by
  have h1 : (nmL x.n).length ≤ 21 := by unfold nmL; rw [List.length_map, List.length_cons, List.length_take]; omega
  have h2 : (vlL x.v).length ≤ 200 := by unfold vlL; rw [List.length_map, List.length_take]; omega
  have h3 := jn_len (gL x)
  have h4 : (gL x).length = 2 := rfl
  have h5 : (gL x).flatten.length = (nmL x.n).length + (vlL x.v).length + 2 := by
    unfold gL
    simp only [List.flatten_cons, List.flatten_nil, List.length_append, List.length_cons, List.length_take, List.length_drop, List.length_nil]
    omega
  omega
theorem jl_len : ∀ (ls : List Lin), (jn (ls.flatMap gL)).length ≤ 230 * ls.length
  | [] => Nat.zero_le _
  | x :: ls => by
    have := jl_len ls
    have := gL_len x
    rw [List.flatMap_cons, jn_app, List.length_append, List.length_cons]
    omega
theorem gL_text (x : Lin) : jn (gL x) = nmL x.n ++ [58] ++ (vlL x.v).take x.k ++ [13, 10, 9] ++ (vlL x.v).drop x.k ++ [13, 10] := by
  unfold gL
  simp [jn_cons, jn]
theorem sz_By : sizeB pr tB = some 1 := by kernel_rfl
theorem slc_lit {s : SS} {b : Nat} {l : List UInt8} (hb : lookH s.heap b = some (.cells (bytesV l) tB true false)) (h : b < s.next) {n c : Nat} (hn : n = l.length) : Slc pr s (some ⟨b, 0, none⟩) n c l := by
  subst hn
  exact ⟨rdb_lit hb h, _, _, _, _, hb, fun _ => sz_By, fun q => by cases q⟩

structure MdI where
  i : Nat
  W : Option Addr
  V : Option Addr
  cv : Nat
  s : SS

set_option maxHeartbeats 8000000 in
theorem made7_w {s : SS} {ls : List Lin} {Wl : Option Addr} {cwl : Nat} {body : List UInt8} {ea : Bool} (h : LnRd s Wl ls) (hk : ∀ x ∈ ls, x.k < 256) (hn : ls.length ≤ 9223372036854775807) :
    CallW pr n_law07_made [.slice Wl ls.length cwl, str body, .bool ea] s fun u s' => ∃ V cv, u = .tuple ⟨[str (jn (LL ls ++ if ea = true then [] else [] :: bsF body)), .slice V (ls.take 12).length cv]⟩ ∧
      OwnR tS s' V cv (ls.take 12).length (strV (nmsL (ls.take 12))) ∧ Chg s s' [] ∧ ∀ id ∈ blkOf V, s.next ≤ id := by
  refine CallW.pieces (nt := 151) (res := [.tmp 6, .tmp 7]) (c := .seq code_MD_R0 (.seq code_MD_R1 (.seq code_MD_R2 (.seq code_MD_RB code_MD_TL)))) (by kernel_rfl) (by kernel_rfl) (by kernel_rfl) (by kernel_rfl) (by simp) ?_
  refine W.seq (comp_ok good ok_MD_R0 (Box.out (p := wp pr 151 s.next _ _ _ _) ?_))
  (repeat(first|refine pSeq ?_|refine pReg ?_|refine sCons ?_|refine sNil ?_|refine rCons ?_|refine rNil ?_|refine kNo ?_|refine pRow ?_|refine pBlock ?_|refine pSkip ?_|refine pExit ?_|refine pCond ?_|refine gNone ?_))
  refine W.seq (comp_ok good ok_MD_R1 (Box.out (p := wp pr 151 s.next _ _ _ _) ?_))
  obtain ⟨s1, hs1⟩ : ∃ s1 : SS, s1 = { s with heap := (s.next, some (.cells [.pointer none, .slice none 0 0] tBl false false)) :: s.heap, next := s.next + 1 } := ⟨_, rfl⟩
  have c1 : Chg s s1 [] := by rw [hs1]; exact Chg.new []
  have j1 : Bld s1 s.next none [] := by rw [hs1]; exact Bld.new s
  have n1 : s1.next = s.next + 1 := by rw [hs1]
  (repeat(first|refine pSeq ?_|refine pReg ?_|refine sCons ?_|refine sNil ?_|refine rCons ?_|refine rNil ?_|refine kNo ?_|refine pRow ?_|refine pBlock ?_|refine pSkip ?_|refine pExit ?_|refine pCond ?_|refine gNone ?_))
  refine W.seq (comp_ok good ok_MD_R2 (Box.out (p := wp pr 151 s.next _ _ _ _) ?_))
  (repeat(first|refine pSeq ?_|refine pReg ?_|refine sCons ?_|refine sNil ?_|refine rCons ?_|refine rNil ?_|refine kNo ?_|refine pRow ?_|refine pBlock ?_|refine pSkip ?_|refine pExit ?_|refine pCond ?_|refine gNone ?_))
  refine W.seq (comp_ok good ok_MD_RB (Box.out (p := wp pr 151 s.next _ _ _ _) ?_))
  (repeat(first|refine pSeq ?_|refine pReg ?_|refine sCons ?_|refine sNil ?_|refine rCons ?_|refine rNil ?_|refine kNo ?_|refine pRow ?_|refine pBlock ?_|refine pSkip ?_|refine pExit ?_|refine pCond ?_|refine gNone ?_))
  refine pLoop (MW.head good (fun x : MdI => ls.length - x.i) (fun x => x.i ≤ ls.length ∧ x.i ≤ 12 ∧ Chg s x.s [] ∧ Bld x.s s.next x.W (jn ((ls.take x.i).flatMap gL)) ∧ (∀ id ∈ blkOf x.W, s.next ≤ id) ∧ OwnR tS x.s x.V x.cv x.i (strV (nmsL (ls.take x.i))) ∧ (∀ id ∈ blkOf x.V, s.next ≤ id))
    (fun x => [(1, str body), (2, .bool ea), (8, .pointer (some ⟨s.next, 0, none⟩)), (9, .slice x.V x.i x.cv), (21, .slice Wl ls.length cwl), (22, .int .i64 ls.length), (23, .int .i64 x.i)]) (fun x => x.s) ⟨0, none, none, 0, s1⟩ ⟨Nat.zero_le _, by simp, c1, j1, by simp [blkOf], ⟨rfl, rfl, rfl⟩, by simp [blkOf]⟩ (by subst hs1; exact Wk.same ⟨rfl, rfl, rfl, rfl, rfl, rfl, rfl, trivial⟩) ?_)
  clear hs1
  rintro ⟨i, W2, V2, cv2, s2⟩ ⟨i1, i12, c2, b2, w2, v2, x2⟩
  dsimp only at i1 i12 c2 b2 w2 v2 x2 ⊢
  have htl : (ls.take i).length = i := by rw [List.length_take]; omega
  have hjl := jl_len (ls.take i)
  rw [htl] at hjl
  have fin : ∀ s' : SS, Chg s s' [] → Bld s' s.next W2 (jn ((ls.take i).flatMap gL)) → OwnR tS s' V2 cv2 i (strV (nmsL (ls.take i))) → (i = 12 ∨ ls.length ≤ i) →
      W pr 151 s.next code_MD_TL [(1, str body), (2, .bool ea), (8, .pointer (some ⟨s.next, 0, none⟩)), (9, .slice V2 i cv2)] s' (runQ pr [.tmp 6, .tmp 7] fun u s' => ∃ V cv, u = .tuple ⟨[str (jn (LL ls ++ if ea = true then [] else [] :: bsF body)), .slice V (ls.take 12).length cv]⟩ ∧
      OwnR tS s' V cv (ls.take 12).length (strV (nmsL (ls.take 12))) ∧ Chg s s' [] ∧ ∀ id ∈ blkOf V, s.next ≤ id) := by
    intro s' d1 d2 d3 hi
    have e12 : ls.take i = ls.take 12 := by
      rcases hi with rfl | hi
      · rfl
      · rw [List.take_of_length_le hi, List.take_of_length_le (by omega)]
    refine made_tail (body := body) (ea := ea) d2 d3 (by omega) fun s'' o4 c4 => ?_
    have eL : (ls.take i).flatMap gL = LL ls := by unfold LL; rw [e12]
    have el : i = (ls.take 12).length := by rw [← e12, htl]
    rw [eL]
    rw [e12] at o4
    exact ⟨V2, cv2, by rw [← el], by rw [← el]; exact o4, d1.fresh c4 (fun id q => by
      rcases List.mem_cons.1 q with rfl | q
      · exact Nat.le_refl _
      · exact w2 id q), x2⟩
  (repeat(first|refine pSeq ?_|refine pReg ?_|refine sCons ?_|refine sNil ?_|refine rCons ?_|refine rNil ?_|refine kNo ?_|refine pRow ?_|refine pBlock ?_|refine pSkip ?_|refine pExit ?_|refine pCond ?_|refine gNone ?_))
  intro q hq
  by_cases hlt : i < ls.length
  · obtain rfl : q = true := by rw [hq]; simp; omega
    obtain ⟨x, hx⟩ : ∃ x, ls[i]? = some x := ⟨_, List.getElem?_eq_getElem hlt⟩
    have hxk := hk x (List.mem_of_getElem? hx)
    obtain ⟨bl, t, g, r, hW, hbl⟩ := (h.chg c2).at (fun e => by rw [e] at hlt; simp at hlt)
    subst hW
    (repeat(first|refine pSeq ?_|refine pReg ?_|refine sCons ?_|refine sNil ?_|refine rCons ?_|refine rNil ?_|refine kNo ?_|refine pRow ?_|refine pBlock ?_|refine pSkip ?_|refine pExit ?_|refine pCond ?_|refine gNone ?_))
    refine ⟨by omega, ?_⟩
    intro m hm o ho
    obtain rfl : m = i := by omega
    (repeat(first|refine pSeq ?_|refine pReg ?_|refine sCons ?_|refine sNil ?_|refine rCons ?_|refine rNil ?_|refine kNo ?_|refine pRow ?_|refine pBlock ?_|refine pSkip ?_|refine pExit ?_|refine pCond ?_|refine gNone ?_))
    refine ldN_is (new := lnC x) rfl hbl (by rw [ho, Nat.zero_add, lnsC_at hx]; rfl) ?_
    (repeat(first|refine pSeq ?_|refine pReg ?_|refine sCons ?_|refine sNil ?_|refine rCons ?_|refine rNil ?_|refine kNo ?_|refine pRow ?_|refine pBlock ?_|refine pSkip ?_|refine pExit ?_|refine pCond ?_|refine gNone ?_))
    refine st_abs (cs' := lnC x) rfl rfl lkH (Nat.lt_succ_self _) rfl rfl fun s3 e3 c3 n3 => ?_
    have c23 : Chg s2 s3 [] := (Chg.new []).fresh c3 (by simp)
    have e3 : lookH s3.heap s2.next = some (.cells (lnC x) tLn false false) := e3
    have n3 : s3.next = s2.next + 1 := n3
    have c03 := c2.nil c23
    have b3 := b2.chg c23 (by simp) (by simp)
    have v3 := v2.chg c23 (by simp)
    (repeat(first|refine pSeq ?_|refine pReg ?_|refine sCons ?_|refine sNil ?_|refine rCons ?_|refine rNil ?_|refine kNo ?_|refine pRow ?_|refine pBlock ?_|refine pSkip ?_|refine pExit ?_|refine pCond ?_|refine gNone ?_))
    intro q hq
    by_cases h12 : m = 12
    · obtain rfl : q = true := by rw [hq]; simp; omega
      (repeat(first|refine pSeq ?_|refine pReg ?_|refine sCons ?_|refine sNil ?_|refine rCons ?_|refine rNil ?_|refine kNo ?_|refine pRow ?_|refine pBlock ?_|refine pSkip ?_|refine pExit ?_|refine pCond ?_|refine gNone ?_))
      exact W.weak (k := s.next) (T' := [(1, str body), (2, .bool ea), (8, .pointer (some ⟨s.next, 0, none⟩)), (9, .slice V2 m cv2)]) (s' := s3) (Wk.same ⟨rfl, rfl, rfl, rfl, trivial⟩) (fin s3 c03 b3 v3 (.inl h12))
    · obtain rfl : q = false := by rw [hq]; simp; omega
      clear fin
      (repeat(first|refine pSeq ?_|refine pReg ?_|refine sCons ?_|refine sNil ?_|refine rCons ?_|refine rNil ?_|refine kNo ?_|refine pRow ?_|refine pBlock ?_|refine pSkip ?_|refine pExit ?_|refine pCond ?_|refine gNone ?_))
      refine ldS_is (l := x.n) rfl e3 rfl ?_
      (repeat(first|refine pSeq ?_|refine pReg ?_|refine sCons ?_|refine sNil ?_|refine rCons ?_|refine rNil ?_|refine kNo ?_|refine pRow ?_|refine pBlock ?_|refine pSkip ?_|refine pExit ?_|refine pCond ?_|refine gNone ?_))
      refine ldS_is (l := x.n) rfl e3 rfl ?_
      (repeat(first|refine pSeq ?_|refine pReg ?_|refine sCons ?_|refine sNil ?_|refine rCons ?_|refine rNil ?_|refine kNo ?_|refine pRow ?_|refine pBlock ?_|refine pSkip ?_|refine pExit ?_|refine pCond ?_|refine gNone ?_))
      intro z hz
      (repeat(first|refine pSeq ?_|refine pReg ?_|refine sCons ?_|refine sNil ?_|refine rCons ?_|refine rNil ?_|refine kNo ?_|refine pRow ?_|refine pBlock ?_|refine pSkip ?_|refine pExit ?_|refine pCond ?_|refine gNone ?_))
      intro z2 hz2
      (repeat(first|refine pSeq ?_|refine pReg ?_|refine sCons ?_|refine sNil ?_|refine rCons ?_|refine rNil ?_|refine kNo ?_|refine pRow ?_|refine pBlock ?_|refine pSkip ?_|refine pExit ?_|refine pCond ?_|refine gNone ?_))
      refine ⟨by omega, ?_⟩
      intro k' hk' g' hg
      have eg : g' = x.n.take 20 := take_min hg hz hz2 hk'
      clear hg hk' hz hz2
      subst eg
      have hnl : (x.n.take 20).length ≤ 20 := by rw [List.length_take]; omega
      (repeat(first|refine pSeq ?_|refine pReg ?_|refine sCons ?_|refine sNil ?_|refine rCons ?_|refine rNil ?_|refine kNo ?_|refine pRow ?_|refine pBlock ?_|refine pSkip ?_|refine pExit ?_|refine pCond ?_|refine gNone ?_))
      refine ⟨by simp; omega, ?_⟩
      intro y hy
      obtain ⟨nm, hnm⟩ : ∃ nm, nm = 70 :: x.n.take 20 := ⟨_, rfl⟩
      have ey : y = nm := by rw [hy, hnm]; rfl
      clear hy
      subst ey
      have hnml : y.length ≤ 21 := by rw [hnm, List.length_cons]; omega
      have enm : nmL x.n = y.map nmC := by rw [hnm]; rfl
      clear hnm
      (repeat(first|refine pSeq ?_|refine pReg ?_|refine sCons ?_|refine sNil ?_|refine rCons ?_|refine rNil ?_|refine kNo ?_|refine pRow ?_|refine pBlock ?_|refine pSkip ?_|refine pExit ?_|refine pCond ?_|refine gNone ?_))
      refine ⟨by omega, ?_⟩
      obtain ⟨s4, hs4⟩ : ∃ s4 : SS, s4 = { s3 with heap := (s3.next, some (.cells (bytesV y) tB true false)) :: s3.heap, next := s3.next + 1 } := ⟨_, rfl⟩
      have c34 : Chg s3 s4 [] := by rw [hs4]; exact .new _
      have k4 : lookH s4.heap s3.next = some (.cells (bytesV y) tB true false) := by rw [hs4]; exact lkH
      have n4 : s4.next = s3.next + 1 := by rw [hs4]
      (repeat(first|refine pSeq ?_|refine pReg ?_|refine sCons ?_|refine sNil ?_|refine rCons ?_|refine rNil ?_|refine kNo ?_|refine pRow ?_|refine pBlock ?_|refine pSkip ?_|refine pExit ?_|refine pCond ?_|refine gNone ?_))
      refine pLoop (MW.head good (fun x : ByI => y.length - x.i) (fun x => x.i ≤ y.length ∧ Chg s4 x.s [s3.next] ∧ lookH x.s.heap s3.next = some (.cells (bytesV (mixI (fun _ => nmC) y x.i)) tB true false))
        (fun x => [(1, str body), (2, .bool ea), (8, .pointer (some ⟨s.next, 0, none⟩)), (9, .slice V2 m cv2), (11, .pointer (some ⟨s2.next, 0, none⟩)), (12, .slice (some ⟨s3.next, 0, none⟩) y.length 0), (21, .slice (some ⟨bl, 0, none⟩) ls.length cwl), (22, .int .i64 ls.length), (23, .int .i64 m), (40, .int .i64 y.length), (41, .int .i64 x.i)]) (fun x => x.s) ⟨0, s4⟩ ⟨Nat.zero_le _, .refl _ _, by rw [mixI_0]; exact k4⟩ (by subst hs4; exact Wk.same ⟨rfl, rfl, rfl, rfl, rfl, rfl, rfl, rfl, rfl, rfl, rfl, trivial⟩) ?_)
      clear hs4
      rintro ⟨j, s5⟩ ⟨j1, c5, k5⟩
      dsimp only at j1 c5 k5 ⊢
      have n5 := c5.next
      (repeat(first|refine pSeq ?_|refine pReg ?_|refine sCons ?_|refine sNil ?_|refine rCons ?_|refine rNil ?_|refine kNo ?_|refine pRow ?_|refine pBlock ?_|refine pSkip ?_|refine pExit ?_|refine pCond ?_|refine gNone ?_))
      intro q hq
      by_cases hlj : j < y.length
      · obtain rfl : q = true := by rw [hq]; simp; omega
        obtain ⟨c, hc⟩ : ∃ c, y[j]? = some c := ⟨_, List.getElem?_eq_getElem hlj⟩
        have c94 := Nat.mod_lt c.toNat (show 0 < 94 by omega)
        have hd := ofNat_nat (n := 33 + c.toNat % 94) (by omega)
        (repeat(first|refine pSeq ?_|refine pReg ?_|refine sCons ?_|refine sNil ?_|refine rCons ?_|refine rNil ?_|refine kNo ?_|refine pRow ?_|refine pBlock ?_|refine pSkip ?_|refine pExit ?_|refine pCond ?_|refine gNone ?_))
        refine ⟨by omega, ?_⟩
        intro m1 hm1 o1 ho1
        obtain rfl : m1 = j := by omega
        (repeat(first|refine pSeq ?_|refine pReg ?_|refine sCons ?_|refine sNil ?_|refine rCons ?_|refine rNil ?_|refine kNo ?_|refine pRow ?_|refine pBlock ?_|refine pSkip ?_|refine pExit ?_|refine pCond ?_|refine gNone ?_))
        refine ldI_is rfl k5 (by rw [ho1, Nat.zero_add, Nat.mul_one]; exact bytes_get (mixI_at hc)) ?_
        (repeat(first|refine pSeq ?_|refine pReg ?_|refine sCons ?_|refine sNil ?_|refine rCons ?_|refine rNil ?_|refine kNo ?_|refine pRow ?_|refine pBlock ?_|refine pSkip ?_|refine pExit ?_|refine pCond ?_|refine gNone ?_))
        refine ⟨by omega, ?_⟩
        intro z hz
        have hz : z = ((c.toNat % 94 : Nat) : Int) := hz
        (repeat(first|refine pSeq ?_|refine pReg ?_|refine sCons ?_|refine sNil ?_|refine rCons ?_|refine rNil ?_|refine kNo ?_|refine pRow ?_|refine pBlock ?_|refine pSkip ?_|refine pExit ?_|refine pCond ?_|refine gNone ?_))
        intro z2 hz2
        rw [u8_id (by omega)] at hz2
        obtain rfl : z2 = ((UInt8.ofNat (33 + c.toNat % 94)).toNat : Int) := by rw [hd]; omega
        (repeat(first|refine pSeq ?_|refine pReg ?_|refine sCons ?_|refine sNil ?_|refine rCons ?_|refine rNil ?_|refine kNo ?_|refine pRow ?_|refine pBlock ?_|refine pSkip ?_|refine pExit ?_|refine pCond ?_|refine gNone ?_))
        refine ⟨by omega, ?_⟩
        intro m2 hm2 o2 ho2
        obtain rfl : m2 = m1 := by omega
        (repeat(first|refine pSeq ?_|refine pReg ?_|refine sCons ?_|refine sNil ?_|refine rCons ?_|refine rNil ?_|refine kNo ?_|refine pRow ?_|refine pBlock ?_|refine pSkip ?_|refine pExit ?_|refine pCond ?_|refine gNone ?_))
        refine st_abs (cs' := bytesV ((mixI (fun _ => nmC) y m2).set m2 (UInt8.ofNat (33 + c.toNat % 94)))) rfl rfl k5 (by omega) rfl (by
          rw [ho2, Nat.zero_add, Nat.mul_one]
          exact bytes_set (by rw [mixI_len]; exact hlj) _) fun s6 e6 c6 n6 => ?_
        (repeat(first|refine pSeq ?_|refine pReg ?_|refine sCons ?_|refine sNil ?_|refine rCons ?_|refine rNil ?_|refine kNo ?_|refine pRow ?_|refine pBlock ?_|refine pSkip ?_|refine pExit ?_|refine pCond ?_|refine gNone ?_))
        refine ⟨by omega, ?_⟩
        intro m3 hm3 o3 ho3
        obtain rfl : m3 = m2 := by omega
        (repeat(first|refine pSeq ?_|refine pReg ?_|refine sCons ?_|refine sNil ?_|refine rCons ?_|refine rNil ?_|refine kNo ?_|refine pRow ?_|refine pBlock ?_|refine pSkip ?_|refine pExit ?_|refine pCond ?_|refine gNone ?_))
        refine ldI_is rfl e6 (by
          rw [ho3, Nat.zero_add, Nat.mul_one]
          exact bytes_get (List.getElem?_set_self (by rw [mixI_len]; exact hlj))) ?_
        (repeat(first|refine pSeq ?_|refine pReg ?_|refine sCons ?_|refine sNil ?_|refine rCons ?_|refine rNil ?_|refine kNo ?_|refine pRow ?_|refine pBlock ?_|refine pSkip ?_|refine pExit ?_|refine pCond ?_|refine gNone ?_))
        intro q hq
        rw [hd] at hq
        by_cases h58 : 33 + c.toNat % 94 = 58
        · obtain rfl : q = true := by rw [hq]; simp; omega
          have en : nmC c = 99 := by unfold nmC; rw [if_pos h58]
          (repeat(first|refine pSeq ?_|refine pReg ?_|refine sCons ?_|refine sNil ?_|refine rCons ?_|refine rNil ?_|refine kNo ?_|refine pRow ?_|refine pBlock ?_|refine pSkip ?_|refine pExit ?_|refine pCond ?_|refine gNone ?_))
          refine ⟨by omega, ?_⟩
          intro m4 hm4 o4 ho4
          obtain rfl : m4 = m3 := by omega
          (repeat(first|refine pSeq ?_|refine pReg ?_|refine sCons ?_|refine sNil ?_|refine rCons ?_|refine rNil ?_|refine kNo ?_|refine pRow ?_|refine pBlock ?_|refine pSkip ?_|refine pExit ?_|refine pCond ?_|refine gNone ?_))
          refine st_abs (cs' := bytesV (mixI (fun _ => nmC) y (m4 + 1))) rfl rfl e6 (by omega) rfl (by
            rw [ho4, Nat.zero_add, Nat.mul_one, mixI_next hc, en]
            have := bytes_set (l := (mixI (fun _ => nmC) y m4).set m4 (UInt8.ofNat (33 + c.toNat % 94))) (p := m4) (by rw [List.length_set, mixI_len]; exact hlj) 99
            rw [List.set_set] at this
            exact this) fun s7 e7 c7 n7 => ?_
          (repeat(first|refine pSeq ?_|refine pReg ?_|refine sCons ?_|refine sNil ?_|refine rCons ?_|refine rNil ?_|refine kNo ?_|refine pRow ?_|refine pBlock ?_|refine pSkip ?_|refine pExit ?_|refine pCond ?_|refine gNone ?_))
          intro z3 hz3
          rw [i64_id (by omega)] at hz3
          obtain rfl : z3 = ((m4 + 1 : Nat) : Int) := by omega
          (repeat(first|refine pSeq ?_|refine pReg ?_|refine sCons ?_|refine sNil ?_|refine rCons ?_|refine rNil ?_|refine kNo ?_|refine pRow ?_|refine pBlock ?_|refine pSkip ?_|refine pExit ?_|refine pCond ?_|refine gNone ?_))
          exact ⟨⟨m4 + 1, s7⟩, ⟨hlj, (c5.trans' c6 (fun id q _ => q) (fun id q _ => q)).trans' c7 (fun id q _ => q) (fun id q _ => q), e7⟩, by show y.length - (m4 + 1) < y.length - m4; omega, Wk.same ⟨rfl, rfl, rfl, rfl, rfl, rfl, rfl, rfl, rfl, rfl, rfl, trivial⟩⟩
        · obtain rfl : q = false := by rw [hq]; simp; omega
          have en : nmC c = UInt8.ofNat (33 + c.toNat % 94) := by unfold nmC; rw [if_neg h58]
          rw [← en, ← mixI_next hc] at e6
          (repeat(first|refine pSeq ?_|refine pReg ?_|refine sCons ?_|refine sNil ?_|refine rCons ?_|refine rNil ?_|refine kNo ?_|refine pRow ?_|refine pBlock ?_|refine pSkip ?_|refine pExit ?_|refine pCond ?_|refine gNone ?_))
          intro z3 hz3
          rw [i64_id (by omega)] at hz3
          obtain rfl : z3 = ((m3 + 1 : Nat) : Int) := by omega
          (repeat(first|refine pSeq ?_|refine pReg ?_|refine sCons ?_|refine sNil ?_|refine rCons ?_|refine rNil ?_|refine kNo ?_|refine pRow ?_|refine pBlock ?_|refine pSkip ?_|refine pExit ?_|refine pCond ?_|refine gNone ?_))
          exact ⟨⟨m3 + 1, s6⟩, ⟨hlj, c5.trans' c6 (fun id q _ => q) (fun id q _ => q), e6⟩, by show y.length - (m3 + 1) < y.length - m3; omega, Wk.same ⟨rfl, rfl, rfl, rfl, rfl, rfl, rfl, rfl, rfl, rfl, rfl, trivial⟩⟩
      · obtain rfl : q = false := by rw [hq]; simp; omega
        rw [mixI_end (by omega), mapIdx_const, ← enm] at k5
        have hyl : y.length = (nmL x.n).length := by rw [enm, List.length_map]
        have c35 : Chg s3 s5 [] := c34.fresh c5 (by simp)
        have e5 := c35.blk _ _ (by omega) (by simp) e3
        have c05 := c03.nil c35
        have b5 := b3.chg c35 (by simp) (by simp)
        have v5 := v3.chg c35 (by simp)
        have n45 : s3.next < s5.next := by omega
        clear k4 c34 c5 j1 n5 n4
        rw [hyl] at *
        clear hyl enm
        (repeat(first|refine pSeq ?_|refine pReg ?_|refine sCons ?_|refine sNil ?_|refine rCons ?_|refine rNil ?_|refine kNo ?_|refine pRow ?_|refine pBlock ?_|refine pSkip ?_|refine pExit ?_|refine pCond ?_|refine gNone ?_))
        refine ldS_is (l := x.v) rfl e5 rfl ?_
        (repeat(first|refine pSeq ?_|refine pReg ?_|refine sCons ?_|refine sNil ?_|refine rCons ?_|refine rNil ?_|refine kNo ?_|refine pRow ?_|refine pBlock ?_|refine pSkip ?_|refine pExit ?_|refine pCond ?_|refine gNone ?_))
        refine ldS_is (l := x.v) rfl e5 rfl ?_
        (repeat(first|refine pSeq ?_|refine pReg ?_|refine sCons ?_|refine sNil ?_|refine rCons ?_|refine rNil ?_|refine kNo ?_|refine pRow ?_|refine pBlock ?_|refine pSkip ?_|refine pExit ?_|refine pCond ?_|refine gNone ?_))
        intro z hz
        (repeat(first|refine pSeq ?_|refine pReg ?_|refine sCons ?_|refine sNil ?_|refine rCons ?_|refine rNil ?_|refine kNo ?_|refine pRow ?_|refine pBlock ?_|refine pSkip ?_|refine pExit ?_|refine pCond ?_|refine gNone ?_))
        intro z2 hz2
        (repeat(first|refine pSeq ?_|refine pReg ?_|refine sCons ?_|refine sNil ?_|refine rCons ?_|refine rNil ?_|refine kNo ?_|refine pRow ?_|refine pBlock ?_|refine pSkip ?_|refine pExit ?_|refine pCond ?_|refine gNone ?_))
        refine ⟨by omega, ?_⟩
        intro k' hk' g' hg
        have eg : g' = x.v.take 200 := take_min hg hz hz2 hk'
        clear hg hk' hz hz2
        subst eg
        have hvl : (x.v.take 200).length ≤ 200 := by rw [List.length_take]; omega
        obtain ⟨w, hw⟩ : ∃ w, w = x.v.take 200 := ⟨_, rfl⟩
        have evl : vlL x.v = w.map plainC := by rw [hw]; rfl
        rw [← hw] at hvl ⊢
        clear hw
        (repeat(first|refine pSeq ?_|refine pReg ?_|refine sCons ?_|refine sNil ?_|refine rCons ?_|refine rNil ?_|refine kNo ?_|refine pRow ?_|refine pBlock ?_|refine pSkip ?_|refine pExit ?_|refine pCond ?_|refine gNone ?_))
        refine ⟨by omega, ?_⟩
        obtain ⟨s6, hs6⟩ : ∃ s6 : SS, s6 = { s5 with heap := (s5.next, some (.cells (bytesV w) tB true false)) :: s5.heap, next := s5.next + 1 } := ⟨_, rfl⟩
        have c56 : Chg s5 s6 [] := by rw [hs6]; exact .new _
        have k6 : lookH s6.heap s5.next = some (.cells (bytesV w) tB true false) := by rw [hs6]; exact lkH
        have n6 : s6.next = s5.next + 1 := by rw [hs6]
        (repeat(first|refine pSeq ?_|refine pReg ?_|refine sCons ?_|refine sNil ?_|refine rCons ?_|refine rNil ?_|refine kNo ?_|refine pRow ?_|refine pBlock ?_|refine pSkip ?_|refine pExit ?_|refine pCond ?_|refine gNone ?_))
        refine pLoop (MW.head good (fun x : ByI => w.length - x.i) (fun x => x.i ≤ w.length ∧ Chg s6 x.s [s5.next] ∧ lookH x.s.heap s5.next = some (.cells (bytesV (mixI (fun _ => plainC) w x.i)) tB true false))
          (fun z => [(1, str body), (2, .bool ea), (8, .pointer (some ⟨s.next, 0, none⟩)), (9, .slice V2 m cv2), (11, .pointer (some ⟨s2.next, 0, none⟩)), (12, .slice (some ⟨s3.next, 0, none⟩) (nmL x.n).length 0), (14, .slice (some ⟨s5.next, 0, none⟩) w.length 0), (21, .slice (some ⟨bl, 0, none⟩) ls.length cwl), (22, .int .i64 ls.length), (23, .int .i64 m), (71, .int .i64 w.length), (72, .int .i64 z.i)]) (fun x => x.s) ⟨0, s6⟩ ⟨Nat.zero_le _, .refl _ _, by rw [mixI_0]; exact k6⟩ (by subst hs6; exact Wk.same ⟨rfl, rfl, rfl, rfl, rfl, rfl, rfl, rfl, rfl, rfl, rfl, rfl, trivial⟩) ?_)
        clear hs6
        rintro ⟨j, s7⟩ ⟨j1, c7, k7⟩
        dsimp only at j1 c7 k7 ⊢
        have n7 := c7.next
        (repeat(first|refine pSeq ?_|refine pReg ?_|refine sCons ?_|refine sNil ?_|refine rCons ?_|refine rNil ?_|refine kNo ?_|refine pRow ?_|refine pBlock ?_|refine pSkip ?_|refine pExit ?_|refine pCond ?_|refine gNone ?_))
        intro q hq
        by_cases hlj : j < w.length
        · obtain rfl : q = true := by rw [hq]; simp; omega
          obtain ⟨c, hc⟩ : ∃ c, w[j]? = some c := ⟨_, List.getElem?_eq_getElem hlj⟩
          have c95 := Nat.mod_lt c.toNat (show 0 < 95 by omega)
          (repeat(first|refine pSeq ?_|refine pReg ?_|refine sCons ?_|refine sNil ?_|refine rCons ?_|refine rNil ?_|refine kNo ?_|refine pRow ?_|refine pBlock ?_|refine pSkip ?_|refine pExit ?_|refine pCond ?_|refine gNone ?_))
          refine ⟨by omega, ?_⟩
          intro m1 hm1 o1 ho1
          obtain rfl : m1 = j := by omega
          (repeat(first|refine pSeq ?_|refine pReg ?_|refine sCons ?_|refine sNil ?_|refine rCons ?_|refine rNil ?_|refine kNo ?_|refine pRow ?_|refine pBlock ?_|refine pSkip ?_|refine pExit ?_|refine pCond ?_|refine gNone ?_))
          refine ldI_is rfl k7 (by rw [ho1, Nat.zero_add, Nat.mul_one]; exact bytes_get (mixI_at hc)) ?_
          (repeat(first|refine pSeq ?_|refine pReg ?_|refine sCons ?_|refine sNil ?_|refine rCons ?_|refine rNil ?_|refine kNo ?_|refine pRow ?_|refine pBlock ?_|refine pSkip ?_|refine pExit ?_|refine pCond ?_|refine gNone ?_))
          refine ⟨by omega, ?_⟩
          intro z hz
          have hz : z = ((c.toNat % 95 : Nat) : Int) := hz
          (repeat(first|refine pSeq ?_|refine pReg ?_|refine sCons ?_|refine sNil ?_|refine rCons ?_|refine rNil ?_|refine kNo ?_|refine pRow ?_|refine pBlock ?_|refine pSkip ?_|refine pExit ?_|refine pCond ?_|refine gNone ?_))
          intro z2 hz2
          rw [u8_id (by omega)] at hz2
          obtain rfl : z2 = ((plainC c).toNat : Int) := by rw [plainC_nat]; omega
          (repeat(first|refine pSeq ?_|refine pReg ?_|refine sCons ?_|refine sNil ?_|refine rCons ?_|refine rNil ?_|refine kNo ?_|refine pRow ?_|refine pBlock ?_|refine pSkip ?_|refine pExit ?_|refine pCond ?_|refine gNone ?_))
          refine ⟨by omega, ?_⟩
          intro m2 hm2 o2 ho2
          obtain rfl : m2 = m1 := by omega
          (repeat(first|refine pSeq ?_|refine pReg ?_|refine sCons ?_|refine sNil ?_|refine rCons ?_|refine rNil ?_|refine kNo ?_|refine pRow ?_|refine pBlock ?_|refine pSkip ?_|refine pExit ?_|refine pCond ?_|refine gNone ?_))
          refine st_abs (cs' := bytesV (mixI (fun _ => plainC) w (m2 + 1))) rfl rfl k7 (by omega) rfl (by
            rw [ho2, Nat.zero_add, Nat.mul_one, mixI_next hc]
            exact bytes_set (by rw [mixI_len]; exact hlj) _) fun s8 e8 c8 n8 => ?_
          (repeat(first|refine pSeq ?_|refine pReg ?_|refine sCons ?_|refine sNil ?_|refine rCons ?_|refine rNil ?_|refine kNo ?_|refine pRow ?_|refine pBlock ?_|refine pSkip ?_|refine pExit ?_|refine pCond ?_|refine gNone ?_))
          intro z3 hz3
          rw [i64_id (by omega)] at hz3
          obtain rfl : z3 = ((m2 + 1 : Nat) : Int) := by omega
          (repeat(first|refine pSeq ?_|refine pReg ?_|refine sCons ?_|refine sNil ?_|refine rCons ?_|refine rNil ?_|refine kNo ?_|refine pRow ?_|refine pBlock ?_|refine pSkip ?_|refine pExit ?_|refine pCond ?_|refine gNone ?_))
          exact ⟨⟨m2 + 1, s8⟩, ⟨hlj, c7.trans' c8 (fun id q _ => q) (fun id q _ => q), e8⟩, by show w.length - (m2 + 1) < w.length - m2; omega, Wk.same ⟨rfl, rfl, rfl, rfl, rfl, rfl, rfl, rfl, rfl, rfl, rfl, rfl, trivial⟩⟩
        · obtain rfl : q = false := by rw [hq]; simp; omega
          rw [mixI_end (by omega), mapIdx_const, ← evl] at k7
          have hwl : w.length = (vlL x.v).length := by rw [evl, List.length_map]
          have c57 : Chg s5 s7 [] := c56.fresh c7 (by simp)
          have e7 := c57.blk _ _ (by omega) (by simp) e5
          have l7 := c57.blk _ _ n45 (by simp) k5
          have c07 := c05.nil c57
          have b7 := b5.chg c57 (by simp) (by simp)
          have v7 := v5.chg c57 (by simp)
          have n57 : s5.next < s7.next := by omega
          have m57 : s3.next < s7.next := by omega
          have m27 : s2.next < s7.next := by omega
          clear k6 c56 c7 n7 n6
          rw [hwl] at *
          clear hwl evl
          have hnl21 := nmL_len x.n
          have hvl20 := vlL_len x.v
          obtain ⟨at', hat⟩ : ∃ a : Nat, a = min x.k (vlL x.v).length := ⟨_, rfl⟩
          have htk : (vlL x.v).take x.k = (vlL x.v).take at' := by
            rw [hat]
            rcases Nat.le_total x.k (vlL x.v).length with q | q
            · rw [Nat.min_eq_left q]
            · rw [Nat.min_eq_right q, List.take_of_length_le q, List.take_of_length_le (Nat.le_refl _)]
          have hdk : (vlL x.v).drop x.k = (vlL x.v).drop at' := by
            rw [hat]
            rcases Nat.le_total x.k (vlL x.v).length with q | q
            · rw [Nat.min_eq_left q]
            · rw [Nat.min_eq_right q, List.drop_eq_nil_of_le q, List.drop_eq_nil_of_le (Nat.le_refl _)]
          have hxt := gL_text x
          rw [htk, hdk] at hxt
          have hxl := gL_len x
          clear htk hdk
          have hns : strV (nmsL (ls.take (m + 1))) = strV (nmsL (ls.take m)) ++ [str (nmL x.n)] := by rw [take_next hx]; simp [nmsL, strV]
          have hjn : jn ((ls.take (m + 1)).flatMap gL) = jn ((ls.take m).flatMap gL) ++ jn (gL x) := by rw [take_next hx, List.flatMap_append, jn_app]; simp
          have hsl : (strV (nmsL (ls.take m))).length = m := by rw [strV_len]; unfold nmsL; rw [List.length_map, htl]
          generalize nmL x.n = nx at *
          generalize vlL x.v = vx at *
          (repeat(first|refine pSeq ?_|refine pReg ?_|refine sCons ?_|refine sNil ?_|refine rCons ?_|refine rNil ?_|refine kNo ?_|refine pRow ?_|refine pBlock ?_|refine pSkip ?_|refine pExit ?_|refine pCond ?_|refine gNone ?_))
          refine toStr_Rdb rfl (rdb_lit l7 m57) ?_
          (repeat(first|refine pSeq ?_|refine pReg ?_|refine sCons ?_|refine sNil ?_|refine rCons ?_|refine rNil ?_|refine kNo ?_|refine pRow ?_|refine pBlock ?_|refine pSkip ?_|refine pExit ?_|refine pCond ?_|refine gNone ?_))
          refine appR (v7.chg (.new []) (by simp)) (by rw [hsl, Nat.mul_one]) ⟨by omega, by omega⟩ rfl rfl lkH rfl rfl fun s8 r8 c8 n8 => ?_
          rw [← hns] at r8
          have c78 : Chg s7 s8 (blkOf V2) := (Chg.new (b := .cells [str nx] tS false false) []).trans' c8 (fun id q _ => by simp at q) (fun id q _ => q)
          have n8 : s8.next = s7.next + 2 := n8
          have offV : ∀ (id : Nat) (cs : List Value) (t : TypeId) (g r : Bool), lookH s7.heap id = some (.cells cs t g r) → t ≠ tS → id ∉ blkOf V2 := fun id cs t g r hc ht q => by
            obtain ⟨g', hg⟩ := v7.at id q
            exact tyNe hg hc (Ne.symm ht) rfl
          have e8 := c78.blk _ _ m27 (offV _ _ _ _ _ e7 (by decide)) e7
          have l8 := c78.blk _ _ m57 (offV _ _ _ _ _ l7 (by decide)) l7
          have k8 := c78.blk _ _ n57 (offV _ _ _ _ _ k7 (by decide)) k7
          have b8 : Bld s8 s.next W2 _ := b7.chg c78 (by
            obtain ⟨p, hp, -⟩ := b7.cell
            exact offV _ _ _ _ _ hp (by decide)) (fun id hid => by
            have ho := b7.own
            cases W2 with
            | none => simp [blkOf] at hid
            | some a =>
              obtain ⟨g', off, sp⟩ := a
              obtain ⟨-, -, -, gr, h4, -⟩ := ho
              simp only [blkOf, List.mem_singleton] at hid
              subst hid
              exact offV _ _ _ _ _ h4 (by decide))
          have c08 := c07.fresh c78 x2
          (repeat(first|refine pSeq ?_|refine pReg ?_|refine sCons ?_|refine sNil ?_|refine rCons ?_|refine rNil ?_|refine kNo ?_|refine pRow ?_|refine pBlock ?_|refine pSkip ?_|refine pExit ?_|refine pCond ?_|refine gNone ?_))
          refine ldI_is (z := x.k) rfl e8 rfl ?_
          (repeat(first|refine pSeq ?_|refine pReg ?_|refine sCons ?_|refine sNil ?_|refine rCons ?_|refine rNil ?_|refine kNo ?_|refine pRow ?_|refine pBlock ?_|refine pSkip ?_|refine pExit ?_|refine pCond ?_|refine gNone ?_))
          intro z hz
          rw [i64_id (by omega)] at hz
          (repeat(first|refine pSeq ?_|refine pReg ?_|refine sCons ?_|refine sNil ?_|refine rCons ?_|refine rNil ?_|refine kNo ?_|refine pRow ?_|refine pBlock ?_|refine pSkip ?_|refine pExit ?_|refine pCond ?_|refine gNone ?_))
          intro z2 hz2
          obtain rfl : z2 = (at' : Int) := by rw [hz2, hz, hat]; omega
          (repeat(first|refine pSeq ?_|refine pReg ?_|refine sCons ?_|refine sNil ?_|refine rCons ?_|refine rNil ?_|refine kNo ?_|refine pRow ?_|refine pBlock ?_|refine pSkip ?_|refine pExit ?_|refine pCond ?_|refine gNone ?_))
          refine toStr_Rdb rfl (rdb_lit l8 (by omega)) ?_
          (repeat(first|refine pSeq ?_|refine pReg ?_|refine sCons ?_|refine sNil ?_|refine rCons ?_|refine rNil ?_|refine kNo ?_|refine pRow ?_|refine pBlock ?_|refine pSkip ?_|refine pExit ?_|refine pCond ?_|refine gNone ?_))
          refine ⟨by simp; omega, ?_⟩
          intro y1 hy1
          subst hy1
          (repeat(first|refine pSeq ?_|refine pReg ?_|refine sCons ?_|refine sNil ?_|refine rCons ?_|refine rNil ?_|refine kNo ?_|refine pRow ?_|refine pBlock ?_|refine pSkip ?_|refine pExit ?_|refine pCond ?_|refine gNone ?_))
          refine slL_any 0 at' rfl rfl rfl (slc_lit k8 (by omega) rfl) rfl (by show (at' : Int) = ((0 + at' : Nat) : Int); omega) (by omega) fun bs1 cp1 sl1 => ?_
          rw [List.drop_zero] at sl1
          (repeat(first|refine pSeq ?_|refine pReg ?_|refine sCons ?_|refine sNil ?_|refine rCons ?_|refine rNil ?_|refine kNo ?_|refine pRow ?_|refine pBlock ?_|refine pSkip ?_|refine pExit ?_|refine pCond ?_|refine gNone ?_))
          refine toStr_Rdb rfl sl1.1 ?_
          (repeat(first|refine pSeq ?_|refine pReg ?_|refine sCons ?_|refine sNil ?_|refine rCons ?_|refine rNil ?_|refine kNo ?_|refine pRow ?_|refine pBlock ?_|refine pSkip ?_|refine pExit ?_|refine pCond ?_|refine gNone ?_))
          refine ⟨by simp; omega, ?_⟩
          intro y2 hy2
          subst hy2
          (repeat(first|refine pSeq ?_|refine pReg ?_|refine sCons ?_|refine sNil ?_|refine rCons ?_|refine rNil ?_|refine kNo ?_|refine pRow ?_|refine pBlock ?_|refine pSkip ?_|refine pExit ?_|refine pCond ?_|refine gNone ?_))
          refine ⟨by simp; omega, ?_⟩
          intro y3 hy3
          subst hy3
          (repeat(first|refine pSeq ?_|refine pReg ?_|refine sCons ?_|refine sNil ?_|refine rCons ?_|refine rNil ?_|refine kNo ?_|refine pRow ?_|refine pBlock ?_|refine pSkip ?_|refine pExit ?_|refine pCond ?_|refine gNone ?_))
          refine slL_any at' (vx.length - at') rfl rfl rfl (slc_lit k8 (by omega) rfl) rfl (by show _ = _; omega) (by omega) fun bs2 cp2 sl2 => ?_
          rw [List.take_of_length_le (by rw [List.length_drop]; omega)] at sl2
          (repeat(first|refine pSeq ?_|refine pReg ?_|refine sCons ?_|refine sNil ?_|refine rCons ?_|refine rNil ?_|refine kNo ?_|refine pRow ?_|refine pBlock ?_|refine pSkip ?_|refine pExit ?_|refine pCond ?_|refine gNone ?_))
          refine toStr_Rdb rfl sl2.1 ?_
          (repeat(first|refine pSeq ?_|refine pReg ?_|refine sCons ?_|refine sNil ?_|refine rCons ?_|refine rNil ?_|refine kNo ?_|refine pRow ?_|refine pBlock ?_|refine pSkip ?_|refine pExit ?_|refine pCond ?_|refine gNone ?_))
          refine ⟨by simp; omega, ?_⟩
          intro y4 hy4
          subst hy4
          (repeat(first|refine pSeq ?_|refine pReg ?_|refine sCons ?_|refine sNil ?_|refine rCons ?_|refine rNil ?_|refine kNo ?_|refine pRow ?_|refine pBlock ?_|refine pSkip ?_|refine pExit ?_|refine pCond ?_|refine gNone ?_))
          refine ⟨by simp; omega, ?_⟩
          intro y5 hy5
          have ey5 : y5 = jn (gL x) := by rw [hy5, hxt]
          clear hy5
          subst ey5
          (repeat(first|refine pSeq ?_|refine pReg ?_|refine sCons ?_|refine sNil ?_|refine rCons ?_|refine rNil ?_|refine kNo ?_|refine pRow ?_|refine pBlock ?_|refine pSkip ?_|refine pExit ?_|refine pCond ?_|refine gNone ?_))
          refine (bWrite_w (m := jn (gL x)) b8 (by omega)).mono fun u s9 q => ?_
          obtain ⟨W9, rfl, b9, c9, w9⟩ := q
          rw [← hjn] at b9
          have n9 := c9.next
          (repeat(first|refine pSeq ?_|refine pReg ?_|refine sCons ?_|refine sNil ?_|refine rCons ?_|refine rNil ?_|refine kNo ?_|refine pRow ?_|refine pBlock ?_|refine pSkip ?_|refine pExit ?_|refine pCond ?_|refine gNone ?_))
          intro z3 hz3
          rw [i64_id (by omega)] at hz3
          obtain rfl : z3 = ((m + 1 : Nat) : Int) := by omega
          (repeat(first|refine pSeq ?_|refine pReg ?_|refine sCons ?_|refine sNil ?_|refine rCons ?_|refine rNil ?_|refine kNo ?_|refine pRow ?_|refine pBlock ?_|refine pSkip ?_|refine pExit ?_|refine pCond ?_|refine gNone ?_))
          refine ⟨⟨m + 1, W9, some ⟨s7.next + 1, 0, none⟩, 0, s9⟩, ⟨hlt, by show m + 1 ≤ 12; omega, c08.fresh c9 (fun id q => ?_), b9, fun id hid => ?_, r8.chg c9 (fun id hid q => ?_), fun id hid => ?_⟩, by show ls.length - (m + 1) < ls.length - m; omega, Wk.same ⟨rfl, rfl, rfl, rfl, rfl, rfl, rfl, trivial⟩⟩
          · rcases List.mem_cons.1 q with rfl | q
            · exact Nat.le_refl _
            · exact w2 id q
          · rcases w9 id hid with q | q
            · exact w2 id q
            · have := c08.next; omega
          · simp only [blkOf, List.mem_singleton] at hid
            have hid : id = s7.next + 1 := hid
            have := b8.lt
            rcases List.mem_cons.1 q with q | q
            · have := b7.lt; omega
            · have := b7.own.lt id q; omega
          · simp only [blkOf, List.mem_singleton] at hid
            have hid : id = s7.next + 1 := hid
            have := c07.next; omega
  · obtain rfl : q = false := by rw [hq]; simp; omega
    (repeat(first|refine pSeq ?_|refine pReg ?_|refine sCons ?_|refine sNil ?_|refine rCons ?_|refine rNil ?_|refine kNo ?_|refine pRow ?_|refine pBlock ?_|refine pSkip ?_|refine pExit ?_|refine pCond ?_|refine gNone ?_))
    exact W.weak (k := s.next) (T' := [(1, str body), (2, .bool ea), (8, .pointer (some ⟨s.next, 0, none⟩)), (9, .slice V2 i cv2)]) (s' := s2) (Wk.same ⟨rfl, rfl, rfl, rfl, trivial⟩) (fin s2 c2 b2 v2 (.inr (by omega)))
end Go.Vf.S
