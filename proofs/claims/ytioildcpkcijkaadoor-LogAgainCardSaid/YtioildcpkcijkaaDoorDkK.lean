import Derived.Test.YtioildcpkcijkaaDoorDkF
/- A copy. -/
namespace Go.Vf.S
open Go Go.Vf
attribute [local irreducible] wSeq wRow wp
set_option linter.unusedVariables false
set_option linter.unusedSimpArgs false
set_option maxRecDepth 10000

theorem setRow_nil (c : List Value) : setRow c 0 [] = some c := by cases c <;> simp [setRow]
theorem setRow_w (z w : WB) (r : List WB) : ∀ a : List WB, setRow (wCells (a ++ z :: r)) (2 * a.length) (wCell w) = some (wCells (a ++ w :: r))
  | [] => by
    simp only [List.nil_append, List.length_nil, Nat.mul_zero, wCells, List.flatMap_cons, wCell, List.cons_append, setRow, setRow_nil]
  | v :: a => by
    have ih := setRow_w z w r a
    simp only [wCells, wCell] at ih
    simp only [List.cons_append, List.length_cons, wCells, List.flatMap_cons, wCell, List.nil_append, show 2 * (a.length + 1) = (2 * a.length + 1) + 1 from by omega, setRow, ih]

def w0 : WB := (0, [], none)
theorem repeat_w : ∀ n : Nat, repeatL n [.int .i64 0, .slice none 0 0] = wCells (List.replicate n w0)
  | 0 => rfl
  | n + 1 => by
    have := repeat_w n
    show [.int .i64 0, .slice none 0 0] ++ repeatL n [.int .i64 0, .slice none 0 0] = _
    rw [this, List.replicate_succ]
    rfl

structure CopyS where
  i : Nat
  s : SS
  cl : List WB

def bare (w : WB) : Nat × List UInt8 := (w.1, w.2.1)

structure CopyI (s5 : SS) (d2 w2 : Nat) (A : Dk) (B : Bs) (S2 N2 : Option Addr) (x : CopyS) : Prop where
  le : x.i ≤ B.wl.length
  len : x.cl.length = x.i
  same : x.cl.map bare = (B.wl.take x.i).map bare
  chg : Chg s5 x.s [w2]
  row : lookH x.s.heap w2 = some (.cells (wCells (x.cl ++ List.replicate (B.wl.length - x.i) w0)) tW false false)
  each : ∀ w ∈ x.cl, Own tB x.s w.2.2 w.2.1 ∧ ∀ id ∈ blkOf w.2.2, s5.next ≤ id

set_option maxHeartbeats 2000000 in
theorem copy_w {s : SS} {d : Nat} {A : Dk} {B : Bs} (h : DAt s d A B) (hf : Fine s) : CallW pr n_disk_Disk_Copy [.pointer (some ⟨d, 0, none⟩)] s fun v s' => ∃ d2 B2, v = .pointer (some ⟨d2, 0, none⟩) ∧ DAt s' d2 A B2 ∧ Chg s s' [] ∧ (∀ id ∈ whole d2 B2, s.next ≤ id) := by
  have hcap := h.cap
  have hlws := h.lws
  have hnow := h.lnow
  have hsure := h.lsure
  refine CallW.run good ok_disk_Disk_Copy (by simp) rfl ?_
  (repeat(first|refine pSeq ?_|refine pReg ?_|refine sCons ?_|refine sNil ?_|refine rCons ?_|refine rNil ?_|refine kNo ?_|refine pRow ?_|refine pBlock ?_|refine pSkip ?_|refine pExit ?_|refine pRet ?_|refine pCond ?_|refine gNone ?_))
  refine h.is.mono fun v s q => ?_
  obtain ⟨rfl, rfl⟩ := q
  (repeat(first|refine pSeq ?_|refine pReg ?_|refine sCons ?_|refine sNil ?_|refine rCons ?_|refine rNil ?_|refine kNo ?_|refine pRow ?_|refine pBlock ?_|refine pSkip ?_|refine pExit ?_|refine pRet ?_|refine pCond ?_|refine gNone ?_))
  refine ldN_is (new := dCells A B) rfl h.obj rfl ?_
  (repeat(first|refine pSeq ?_|refine pReg ?_|refine sCons ?_|refine sNil ?_|refine rCons ?_|refine rNil ?_|refine kNo ?_|refine pRow ?_|refine pBlock ?_|refine pSkip ?_|refine pExit ?_|refine pRet ?_|refine pCond ?_|refine gNone ?_))
  have cA := Chg.new (s := s) (b := .cells [.bool false, .bool false, .int .i64 0, .slice none 0 0, .slice none 0 0, .slice none 0 0] tD false false) []
  refine st_abs (cs' := dCells A B) rfl rfl lkH (Nat.lt_succ_self _) rfl rfl fun s1 obj1 c1 n1 => ?_
  have n1 : s1.next = s.next + 1 := n1
  have c01 : Chg s s1 [] := cA.fresh c1 (fun id q => by simp at q; omega)
  have h1 := h.chg c01 (fun _ _ => by simp)
  (repeat(first|refine pSeq ?_|refine pReg ?_|refine sCons ?_|refine sNil ?_|refine rCons ?_|refine rNil ?_|refine kNo ?_|refine pRow ?_|refine pBlock ?_|refine pSkip ?_|refine pExit ?_|refine pRet ?_|refine pCond ?_|refine gNone ?_))
  refine ld1_is rfl h1.obj rfl ?_
  (repeat(first|refine pSeq ?_|refine pReg ?_|refine sCons ?_|refine sNil ?_|refine rCons ?_|refine rNil ?_|refine kNo ?_|refine pRow ?_|refine pBlock ?_|refine pSkip ?_|refine pExit ?_|refine pRet ?_|refine pCond ?_|refine gNone ?_))
  refine (clone_w h1.sure.rdb (by omega)).mono fun v s2 q => ?_
  obtain ⟨S2, rfl, oS, nS, c2⟩ := q
  (repeat(first|refine pSeq ?_|refine pReg ?_|refine sCons ?_|refine sNil ?_|refine rCons ?_|refine rNil ?_|refine kNo ?_|refine pRow ?_|refine pBlock ?_|refine pSkip ?_|refine pExit ?_|refine pRet ?_|refine pCond ?_|refine gNone ?_))
  have obj2 := c2.blk _ _ (by omega) (by simp) obj1
  refine st_abs (cs' := dCells A { B with S := S2 }) rfl rfl obj2 (by have := c2.next; omega) rfl rfl fun s3 obj3 c3 n3 => ?_
  have c03 : Chg s s3 [] := (c01.nil c2).fresh c3 (fun id q => by simp at q; omega)
  have h3 := h.chg c03 (fun _ _ => by simp)
  have oS3 := oS.chg c3 (fun id q r => by have := nS id q; have := List.mem_singleton.1 r; omega)
  (repeat(first|refine pSeq ?_|refine pReg ?_|refine sCons ?_|refine sNil ?_|refine rCons ?_|refine rNil ?_|refine kNo ?_|refine pRow ?_|refine pBlock ?_|refine pSkip ?_|refine pExit ?_|refine pRet ?_|refine pCond ?_|refine gNone ?_))
  refine ld1_is rfl h3.obj rfl ?_
  (repeat(first|refine pSeq ?_|refine pReg ?_|refine sCons ?_|refine sNil ?_|refine rCons ?_|refine rNil ?_|refine kNo ?_|refine pRow ?_|refine pBlock ?_|refine pSkip ?_|refine pExit ?_|refine pRet ?_|refine pCond ?_|refine gNone ?_))
  refine (clone_w h3.now.rdb (by omega)).mono fun v s4 q => ?_
  obtain ⟨N2, rfl, oN, nN, c4⟩ := q
  (repeat(first|refine pSeq ?_|refine pReg ?_|refine sCons ?_|refine sNil ?_|refine rCons ?_|refine rNil ?_|refine kNo ?_|refine pRow ?_|refine pBlock ?_|refine pSkip ?_|refine pExit ?_|refine pRet ?_|refine pCond ?_|refine gNone ?_))
  have obj4 := c4.blk _ _ (by have := c2.next; omega) (by simp) obj3
  refine st_abs (cs' := dCells A { B with S := S2, N := N2 }) rfl rfl obj4 (by have := c2.next; have := c4.next; omega) rfl rfl fun s5 obj5 c5 n5 => ?_
  have c05 : Chg s s5 [] := (c03.nil c4).fresh c5 (fun id q => by simp at q; omega)
  have h5 := h.chg c05 (fun _ _ => by simp)
  have x2 := c2.next
  have x4 := c4.next
  have oS5 := (oS3.chg c4 (fun id q r => by cases r)).chg c5 (fun id q r => by have := nS id q; have := List.mem_singleton.1 r; omega)
  have oN5 := oN.chg c5 (fun id q r => by have := nN id q; have := List.mem_singleton.1 r; omega)
  have sepSN : ∀ id ∈ blkOf S2, id ∉ blkOf N2 := fun id q r => by have := oS3.lt id q; have := nN id r; omega
  (repeat(first|refine pSeq ?_|refine pReg ?_|refine sCons ?_|refine sNil ?_|refine rCons ?_|refine rNil ?_|refine kNo ?_|refine pRow ?_|refine pBlock ?_|refine pSkip ?_|refine pExit ?_|refine pRet ?_|refine pCond ?_|refine gNone ?_))
  refine ld1_is rfl h5.obj rfl ?_
  (repeat(first|refine pSeq ?_|refine pReg ?_|refine sCons ?_|refine sNil ?_|refine rCons ?_|refine rNil ?_|refine kNo ?_|refine pRow ?_|refine pBlock ?_|refine pSkip ?_|refine pExit ?_|refine pRet ?_|refine pCond ?_|refine gNone ?_))
  refine ⟨⟨by omega, by omega, by show 32 * (B.wl.length : Int) ≤ _; omega, by show (B.wl.length : Int) ≤ _; omega⟩, ?_⟩
  intro m n hm hn cs hcs
  obtain rfl : m = B.wl.length := by have : (m : Int) = (B.wl.length : Int) := hm; omega
  obtain rfl : n = B.wl.length := by have : (n : Int) = (B.wl.length : Int) := hn; omega
  rw [repeat_w] at hcs
  subst hcs
  (repeat(first|refine pSeq ?_|refine pReg ?_|refine sCons ?_|refine sNil ?_|refine rCons ?_|refine rNil ?_|refine kNo ?_|refine pRow ?_|refine pBlock ?_|refine pSkip ?_|refine pExit ?_|refine pRet ?_|refine pCond ?_|refine gNone ?_))
  have cB := Chg.new (s := s5) (b := .cells (wCells (List.replicate B.wl.length w0)) tW false false) []
  have obj5' := cB.blk _ _ (by omega) (by simp) obj5
  refine st_abs (cs' := dCells A { B with S := S2, N := N2, W := some ⟨s5.next, 0, none⟩, cw := B.wl.length }) rfl rfl obj5' (by show s.next < s5.next + 1; omega) rfl rfl fun s6 obj6 c6 n6 => ?_
  have n6 : s6.next = s5.next + 1 := n6
  have c06 : Chg s s6 [] := (c05.nil cB).fresh c6 (fun id q => by simp at q; omega)
  have h6 := h.chg c06 (fun _ _ => by simp)
  have row6 : lookH s6.heap s5.next = some (.cells (wCells (List.replicate B.wl.length w0)) tW false false) := c6.blk _ _ (Nat.lt_succ_self _) (by simp; omega) lkH
  have oS6 := (oS5.chg cB (fun id q r => by cases r)).chg c6 (fun id q r => by have := nS id q; have := List.mem_singleton.1 r; omega)
  have oN6 := (oN5.chg cB (fun id q r => by cases r)).chg c6 (fun id q r => by have := nN id q; have := List.mem_singleton.1 r; omega)
  (repeat(first|refine pSeq ?_|refine pReg ?_|refine sCons ?_|refine sNil ?_|refine rCons ?_|refine rNil ?_|refine kNo ?_|refine pRow ?_|refine pBlock ?_|refine pSkip ?_|refine pExit ?_|refine pRet ?_|refine pCond ?_|refine gNone ?_))
  refine ld1_is rfl h6.obj rfl ?_
  (repeat(first|refine pSeq ?_|refine pReg ?_|refine sCons ?_|refine sNil ?_|refine rCons ?_|refine rNil ?_|refine kNo ?_|refine pRow ?_|refine pBlock ?_|refine pSkip ?_|refine pExit ?_|refine pRet ?_|refine pCond ?_|refine gNone ?_))
  refine pLoop (MW.head good (fun x : CopyS => B.wl.length - x.i) (CopyI s6 s.next s5.next A B S2 N2)
    (fun x => [(0, .pointer (some ⟨d, 0, none⟩)), (3, .pointer (some ⟨s.next, 0, none⟩)), (33, .int .i64 B.wl.length), (34, .int .i64 x.i)]) (fun x => x.s) ⟨0, s6, []⟩
    ⟨Nat.zero_le _, rfl, by simp, .refl _ _, by simp only [List.nil_append, Nat.sub_zero]; exact row6, by simp⟩ ?_ ?_)
  · exact Wk.same ⟨rfl, rfl, rfl, rfl, trivial⟩
  intro ⟨i, s7, cl⟩ hI
  obtain ⟨hi, hcl, hsame, c7, row7, each7⟩ := hI
  dsimp only at hi hcl hsame c7 row7 each7 ⊢
  have c07 : Chg s s7 [] := c06.fresh c7 (fun id q => by have := List.mem_singleton.1 q; omega)
  have h7 := h.chg c07 (fun _ _ => by simp)
  have f7 := c07.fine hf
  have obj7 := c7.blk _ _ (by omega) (by simp; omega) obj6
  (repeat(first|refine pSeq ?_|refine pReg ?_|refine sCons ?_|refine sNil ?_|refine rCons ?_|refine rNil ?_|refine kNo ?_|refine pRow ?_|refine pBlock ?_|refine pSkip ?_|refine pExit ?_|refine pRet ?_|refine pCond ?_|refine gNone ?_))
  intro q hq
  by_cases hlt : i < B.wl.length
  · obtain rfl : q = true := by rw [hq]; simp; omega
    obtain ⟨bw, g, hrow, objd⟩ := h7.rowAt hlt
    have hw := h7.each _ (List.getElem_mem hlt)
    have lw1 : (B.wl[i]).1 + (B.wl[i]).2.1.length ≤ A.cap := hw.2.1
    (repeat(first|refine pSeq ?_|refine pReg ?_|refine sCons ?_|refine sNil ?_|refine rCons ?_|refine rNil ?_|refine kNo ?_|refine pRow ?_|refine pBlock ?_|refine pSkip ?_|refine pExit ?_|refine pRet ?_|refine pCond ?_|refine gNone ?_))
    refine ld1_is rfl obj7 rfl ?_
    (repeat(first|refine pSeq ?_|refine pReg ?_|refine sCons ?_|refine sNil ?_|refine rCons ?_|refine rNil ?_|refine kNo ?_|refine pRow ?_|refine pBlock ?_|refine pSkip ?_|refine pExit ?_|refine pRet ?_|refine pCond ?_|refine gNone ?_))
    refine ld1_is rfl objd rfl ?_
    (repeat(first|refine pSeq ?_|refine pReg ?_|refine sCons ?_|refine sNil ?_|refine rCons ?_|refine rNil ?_|refine kNo ?_|refine pRow ?_|refine pBlock ?_|refine pSkip ?_|refine pExit ?_|refine pRet ?_|refine pCond ?_|refine gNone ?_))
    refine ⟨⟨by omega, Int.ofNat_lt.2 hlt⟩, ?_⟩
    intro k hk o ho
    obtain rfl : k = i := by omega
    rw [Nat.zero_add, Nat.mul_comm] at ho
    subst ho
    (repeat(first|refine pSeq ?_|refine pReg ?_|refine sCons ?_|refine sNil ?_|refine rCons ?_|refine rNil ?_|refine kNo ?_|refine pRow ?_|refine pBlock ?_|refine pSkip ?_|refine pExit ?_|refine pRet ?_|refine pCond ?_|refine gNone ?_))
    refine ldI_is rfl hrow (wCells_get hlt).2 ?_
    (repeat(first|refine pSeq ?_|refine pReg ?_|refine sCons ?_|refine sNil ?_|refine rCons ?_|refine rNil ?_|refine kNo ?_|refine pRow ?_|refine pBlock ?_|refine pSkip ?_|refine pExit ?_|refine pRet ?_|refine pCond ?_|refine gNone ?_))
    refine ld1_is rfl objd rfl ?_
    (repeat(first|refine pSeq ?_|refine pReg ?_|refine sCons ?_|refine sNil ?_|refine rCons ?_|refine rNil ?_|refine kNo ?_|refine pRow ?_|refine pBlock ?_|refine pSkip ?_|refine pExit ?_|refine pRet ?_|refine pCond ?_|refine gNone ?_))
    refine ⟨⟨by omega, Int.ofNat_lt.2 hlt⟩, ?_⟩
    intro k' hk o ho
    obtain rfl : k' = k := by omega
    rw [Nat.zero_add, Nat.mul_comm] at ho
    subst ho
    (repeat(first|refine pSeq ?_|refine pReg ?_|refine sCons ?_|refine sNil ?_|refine rCons ?_|refine rNil ?_|refine kNo ?_|refine pRow ?_|refine pBlock ?_|refine pSkip ?_|refine pExit ?_|refine pRet ?_|refine pCond ?_|refine gNone ?_))
    refine ld1_is rfl hrow (wCells_get hlt).1 ?_
    (repeat(first|refine pSeq ?_|refine pReg ?_|refine sCons ?_|refine sNil ?_|refine rCons ?_|refine rNil ?_|refine kNo ?_|refine pRow ?_|refine pBlock ?_|refine pSkip ?_|refine pExit ?_|refine pRet ?_|refine pCond ?_|refine gNone ?_))
    refine (clone_w hw.1.rdb (by omega)).mono fun v s8 q => ?_
    obtain ⟨X, rfl, oX, nX, c8⟩ := q
    refine kAll (c8.keep f7) ?_
    (repeat(first|refine pSeq ?_|refine pReg ?_|refine sCons ?_|refine sNil ?_|refine rCons ?_|refine rNil ?_|refine kNo ?_|refine pRow ?_|refine pBlock ?_|refine pSkip ?_|refine pExit ?_|refine pRet ?_|refine pCond ?_|refine gNone ?_))
    refine ⟨⟨by omega, Int.ofNat_lt.2 hlt⟩, ?_⟩
    intro k'' hk o ho
    obtain rfl : k'' = k' := by omega
    rw [Nat.zero_add, Nat.mul_comm] at ho
    subst ho
    (repeat(first|refine pSeq ?_|refine pReg ?_|refine sCons ?_|refine sNil ?_|refine rCons ?_|refine rNil ?_|refine kNo ?_|refine pRow ?_|refine pBlock ?_|refine pSkip ?_|refine pExit ?_|refine pRet ?_|refine pCond ?_|refine gNone ?_))
    have lt2 : s5.next < s7.next := by have := c7.next; omega
    have row8 := c8.blk _ _ lt2 (by simp) row7
    have e : List.replicate (B.wl.length - k'') w0 = w0 :: List.replicate (B.wl.length - (k'' + 1)) w0 := by
      rw [show B.wl.length - k'' = (B.wl.length - (k'' + 1)) + 1 from by omega, List.replicate_succ]
    have hset := setRow_w w0 ((B.wl[k'']).1, (B.wl[k'']).2.1, X) (List.replicate (B.wl.length - (k'' + 1)) w0) cl
    rw [← e, hcl] at hset
    refine st_abs rfl rfl row8 (by have := c8.next; omega) rfl hset fun s9 row9 c9 n9 => ?_
    (repeat(first|refine pSeq ?_|refine pReg ?_|refine sCons ?_|refine sNil ?_|refine rCons ?_|refine rNil ?_|refine kNo ?_|refine pRow ?_|refine pBlock ?_|refine pSkip ?_|refine pExit ?_|refine pRet ?_|refine pCond ?_|refine gNone ?_))
    intro z hz
    rw [i64_id (by omega)] at hz
    (repeat(first|refine pSeq ?_|refine pReg ?_|refine sCons ?_|refine sNil ?_|refine rCons ?_|refine rNil ?_|refine kNo ?_|refine pRow ?_|refine pBlock ?_|refine pSkip ?_|refine pExit ?_|refine pRet ?_|refine pCond ?_|refine gNone ?_))
    have lt6 : s6.next ≤ s7.next := c7.next
    refine ⟨⟨k'' + 1, s9, cl ++ [((B.wl[k'']).1, (B.wl[k'']).2.1, X)]⟩, ⟨hlt, by simp [hcl], ?_, ?_, ?_, ?_⟩, by dsimp only; omega, Wk.same ⟨rfl, rfl, rfl, ?_, trivial⟩⟩
    · dsimp only
      rw [List.map_append, hsame, List.take_add_one, List.map_append, List.getElem?_eq_getElem hlt]
      rfl
    · exact (c7.trans' (C := [s5.next]) c8 (fun id q _ => q) (fun id q _ => by cases q)).trans' c9 (fun id q _ => q) (fun id q _ => q)
    · dsimp only
      rw [List.append_assoc]
      exact row9
    · intro w hw'
      rcases List.mem_append.1 hw' with q | q
      · obtain ⟨o, ids⟩ := each7 w q
        exact ⟨(o.chg c8 (fun id q r => by cases r)).chg c9 (fun id q r => by have := ids id q; have := List.mem_singleton.1 r; omega), ids⟩
      · obtain rfl := List.mem_singleton.1 q
        exact ⟨oX.chg c9 (fun id q r => by have := nX id q; have := List.mem_singleton.1 r; omega), fun id q => Nat.le_trans lt6 (nX id q)⟩
    · subst hz
      rfl
  · obtain rfl : q = false := by rw [hq]; simp; omega
    obtain rfl : i = B.wl.length := by omega
    rw [Nat.sub_self, List.replicate_zero, List.append_nil] at row7
    rw [List.take_of_length_le (Nat.le_refl _)] at hsame
    have x7 := c7.next
    have oS7 := oS6.chg c7 (fun id q r => by have := oS5.lt id q; have := List.mem_singleton.1 r; omega)
    have oN7 := oN6.chg c7 (fun id q r => by have := oN5.lt id q; have := List.mem_singleton.1 r; omega)
    have obj7' : lookH s7.heap s.next = some (.cells (dCells A ⟨S2, N2, some ⟨s5.next, 0, none⟩, B.wl.length, cl⟩) tD false false) := by
      have : dCells A ⟨S2, N2, some ⟨s5.next, 0, none⟩, B.wl.length, cl⟩ = dCells A { B with S := S2, N := N2, W := some ⟨s5.next, 0, none⟩, cw := B.wl.length } := by
        simp only [dCells, hcl]
      rw [this]
      exact obj7
    (repeat(first|refine pSeq ?_|refine pReg ?_|refine sCons ?_|refine sNil ?_|refine rCons ?_|refine rNil ?_|refine kNo ?_|refine pRow ?_|refine pBlock ?_|refine pSkip ?_|refine pExit ?_|refine pRet ?_|refine pCond ?_|refine gNone ?_))
    refine ⟨s.next, ⟨S2, N2, some ⟨s5.next, 0, none⟩, B.wl.length, cl⟩, rfl, ⟨obj7', by omega, oS7, oN7, ⟨rfl, rfl, by omega, false, row7, fun _ => hcl.symm⟩, fun w hw => ?_, sepSN, hcap, hnow, hsure, by rw [hcl]; exact hlws, ?_⟩, c07, ?_⟩
    · obtain ⟨o, ids⟩ := each7 w hw
      have hm : bare w ∈ B.wl.map bare := by rw [← hsame]; exact List.mem_map_of_mem hw
      obtain ⟨y, hy, ey⟩ := List.mem_map.1 hm
      have hb := (h.each y hy).2.1
      have e1 : y.1 = w.1 := congrArg (fun p : Nat × List UInt8 => p.1) ey
      have e2 : y.2.1 = w.2.1 := congrArg (fun p : Nat × List UInt8 => p.2) ey
      refine ⟨o, by rw [← e1, ← e2]; exact hb, fun id q => ⟨fun r => ?_, fun r => ?_⟩⟩
      · have := ids id q; have := oS5.lt id r; omega
      · have := ids id q; have := oN5.lt id r; omega
    · have : cl.map bare = A.ws := by rw [hsame]; exact h.ews
      exact this
    · intro id q
      simp only [whole, foot, bytesOfW, List.mem_append, List.mem_cons, List.mem_flatMap, blkOf, List.not_mem_nil, or_false] at q
      rcases q with (rfl | (q | q) | rfl) | ⟨w, hw, q⟩
      · exact Nat.le_refl _
      · have := nS id q; omega
      · have := nN id q; omega
      · omega
      · have := (each7 w hw).2 id q; omega
end Go.Vf.S
