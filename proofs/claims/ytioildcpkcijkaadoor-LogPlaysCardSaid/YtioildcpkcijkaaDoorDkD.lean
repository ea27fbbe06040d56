import Derived.Test.YtioildcpkcijkaaDoorDkC
/- A write. -/
namespace Go.Vf.S
open Go Go.Vf
attribute [local irreducible] wSeq wRow wp wG
set_option linter.unusedVariables false
set_option linter.unusedSimpArgs false
set_option maxRecDepth 10000

/-- A write: what it answers, what it leaves. -/
def Dk.wrote (A : Dk) (k : Int) (l : List UInt8) : Int × Dk :=
  if k < 0 ∨ (A.now.length : Int) < k then (1, A)
  else if A.full = true ∨ (A.cap : Int) - k < l.length then (7, A)
  else (0, { A with now := layF A.now k.toNat l, ws := A.ws ++ [(k.toNat, l)] })

theorem appW {T : TL} {s : SS} {x y : Operand} {K : RR → Prop} {W : Option Addr} {cw b : Nat} {wl : List WB} {w : WB} {t : TypeId} {g r : Bool} (h : OwnW s W cw wl) (hw : wl.length ≤ 10000) (hx : opd T s.gl x = some (.slice W wl.length cw)) (hy : opd T s.gl y = some (.slice (some ⟨b, 0, none⟩) 1 1))
    (hb : lookH s.heap b = some (.cells (wCell w) t g r)) (hK : ∀ s' : SS, OwnW s' (some ⟨s.next, 0, none⟩) 0 (wl ++ [w]) → Chg s s' (blkOf W) → s'.next = s.next + 1 → K (.eff (.slice (some ⟨s.next, 0, none⟩) (wl.length + 1) 0) s')) : wN pr (.app tW 2 32 x y) T s K := by
  simp only [wN, hx, hy, wSrc, hb]
  refine ⟨wCell w, rfl, ⟨⟨by omega, by omega, rfl, rfl⟩, ?_⟩⟩
  cases W with
  | none =>
    obtain ⟨rfl, rfl⟩ := h
    refine ⟨fun q => by simp at q, fun _ => ⟨rfl, fun m' hm' => ?_⟩⟩
    subst hm'
    exact hK { s with heap := (s.next, some (.cells (wCell w) tW true false)) :: s.heap, next := s.next + 1 } ⟨rfl, rfl, Nat.lt_succ_self _, true, by simp [wCells]; exact lkH, fun q => by cases q⟩ (.new _) rfl
  | some q =>
    obtain ⟨b2, off, sp⟩ := q
    obtain ⟨rfl, rfl, h3, g2, h4, h5⟩ := h
    simp only [h4]
    have old : takeN (wl.length * 2) ((wCells wl).drop 0) = some (wCells wl) := by
      rw [List.drop_zero, takeN_take _ _ (by rw [wCells_len]; omega), List.take_of_length_le (by rw [wCells_len]; omega)]
    have e : wCells wl ++ wCell w = wCells (wl ++ [w]) := by rw [wCells_app]; simp [wCells]
    cases g2 with
    | true =>
      refine ⟨fun q => by omega, fun _ => ⟨rfl, rfl, _, old, fun m' l' hm' hl' => ?_⟩⟩
      subst hm'; subst hl'
      rw [e]
      exact hK { s with heap := (s.next, some (.cells (wCells (wl ++ [w])) tW true false)) :: (b2, none) :: s.heap, next := s.next + 1 } ⟨rfl, rfl, Nat.lt_succ_self _, true, lkH, fun q => by cases q⟩ .new2 rfl
    | false =>
      have := h5 rfl
      refine ⟨fun q => by omega, fun _ => ⟨_, old, fun m' l' hm' hl' => ?_⟩⟩
      subst hm'; subst hl'
      rw [e]
      exact hK { s with heap := (s.next, some (.cells (wCells (wl ++ [w])) tW true false)) :: s.heap, next := s.next + 1 } ⟨rfl, rfl, Nat.lt_succ_self _, true, lkH, fun q => by cases q⟩ (.new _) rfl

set_option maxHeartbeats 1000000 in
theorem write_w {s : SS} {d : Nat} {A : Dk} {B : Bs} {X : Option Addr} {cx n : Nat} {l : List UInt8} {k : Int} (h : DAt s d A B) (hf : Fine s) (hx : Rdb s X n l) (hn : n ≤ 1073741824) (hw : B.wl.length < 10000) (hk : k ≤ 9223372036854775807) :
    CallW pr n_disk_Disk_Write [.pointer (some ⟨d, 0, none⟩), .int .i64 k, .slice X n cx] s fun v s' => v = .int .i64 (A.wrote k l).1 ∧ ∃ B', DAt s' d (A.wrote k l).2 B' ∧ Step d s B s' B' ∧ B'.wl.length ≤ B.wl.length + 1 := by
  have hnl := hx.1
  have hcap := h.cap
  have hlnow := h.lnow
  refine CallW.run good ok_disk_Disk_Write (by simp) rfl ?_
  (repeat(first|refine pSeq ?_|refine pReg ?_|refine sCons ?_|refine sNil ?_|refine rCons ?_|refine rNil ?_|refine kNo ?_|refine pRow ?_|refine pSkip ?_|refine pRet ?_|refine pCond ?_|refine gNone ?_|refine gOn rfl ?_|refine gOff rfl rfl ?_|refine gTup rfl ?_))
  refine h.is.mono fun v s q => ?_
  obtain ⟨rfl, rfl⟩ := q
  (repeat(first|refine pSeq ?_|refine pReg ?_|refine sCons ?_|refine sNil ?_|refine rCons ?_|refine rNil ?_|refine kNo ?_|refine pRow ?_|refine pSkip ?_|refine pRet ?_|refine pCond ?_|refine gNone ?_|refine gOn rfl ?_|refine gOff rfl rfl ?_|refine gTup rfl ?_))
  intro q hq
  by_cases h0 : k < 0
  · obtain rfl : q = true := by rw [hq]; simp; omega
    have e : A.wrote k l = (1, A) := by unfold Dk.wrote; rw [if_pos (.inl h0)]
    rw [e]
    (repeat(first|refine pSeq ?_|refine pReg ?_|refine sCons ?_|refine sNil ?_|refine rCons ?_|refine rNil ?_|refine kNo ?_|refine pRow ?_|refine pSkip ?_|refine pRet ?_|refine pCond ?_|refine gNone ?_|refine gOn rfl ?_|refine gOff rfl rfl ?_|refine gTup rfl ?_))
    exact ⟨rfl, B, h, .refl _ _ _, by omega⟩
  obtain rfl : q = false := by rw [hq]; simp; omega
  (repeat(first|refine pSeq ?_|refine pReg ?_|refine sCons ?_|refine sNil ?_|refine rCons ?_|refine rNil ?_|refine kNo ?_|refine pRow ?_|refine pSkip ?_|refine pRet ?_|refine pCond ?_|refine gNone ?_|refine gOn rfl ?_|refine gOff rfl rfl ?_|refine gTup rfl ?_))
  refine ld1_is rfl h.obj rfl ?_
  (repeat(first|refine pSeq ?_|refine pReg ?_|refine sCons ?_|refine sNil ?_|refine rCons ?_|refine rNil ?_|refine kNo ?_|refine pRow ?_|refine pSkip ?_|refine pRet ?_|refine pCond ?_|refine gNone ?_|refine gOn rfl ?_|refine gOff rfl rfl ?_|refine gTup rfl ?_))
  intro q hq
  by_cases h1 : (A.now.length : Int) < k
  · obtain rfl : q = true := by rw [hq]; simp; omega
    have e : A.wrote k l = (1, A) := by unfold Dk.wrote; rw [if_pos (.inr h1)]
    rw [e]
    (repeat(first|refine pSeq ?_|refine pReg ?_|refine sCons ?_|refine sNil ?_|refine rCons ?_|refine rNil ?_|refine kNo ?_|refine pRow ?_|refine pSkip ?_|refine pRet ?_|refine pCond ?_|refine gNone ?_|refine gOn rfl ?_|refine gOff rfl rfl ?_|refine gTup rfl ?_))
    exact ⟨rfl, B, h, .refl _ _ _, by omega⟩
  obtain rfl : q = false := by rw [hq]; simp; omega
  (repeat(first|refine pSeq ?_|refine pReg ?_|refine sCons ?_|refine sNil ?_|refine rCons ?_|refine rNil ?_|refine kNo ?_|refine pRow ?_|refine pSkip ?_|refine pRet ?_|refine pCond ?_|refine gNone ?_|refine gOn rfl ?_|refine gOff rfl rfl ?_|refine gTup rfl ?_))
  refine ldB_is rfl h.obj rfl ?_
  cases hfull : A.full with
  | true =>
    have e : A.wrote k l = (7, A) := by unfold Dk.wrote; rw [if_neg (by omega), if_pos (.inl hfull)]
    rw [e]
    (repeat(first|refine pSeq ?_|refine pReg ?_|refine sCons ?_|refine sNil ?_|refine rCons ?_|refine rNil ?_|refine kNo ?_|refine pRow ?_|refine pSkip ?_|refine pRet ?_|refine pCond ?_|refine gNone ?_|refine gOn rfl ?_|refine gOff rfl rfl ?_|refine gTup rfl ?_))
    exact ⟨rfl, B, h, .refl _ _ _, by omega⟩
  | false =>
  (repeat(first|refine pSeq ?_|refine pReg ?_|refine sCons ?_|refine sNil ?_|refine rCons ?_|refine rNil ?_|refine kNo ?_|refine pRow ?_|refine pSkip ?_|refine pRet ?_|refine pCond ?_|refine gNone ?_|refine gOn rfl ?_|refine gOff rfl rfl ?_|refine gTup rfl ?_))
  refine ldI_is rfl h.obj rfl ?_
  (repeat(first|refine pSeq ?_|refine pReg ?_|refine sCons ?_|refine sNil ?_|refine rCons ?_|refine rNil ?_|refine kNo ?_|refine pRow ?_|refine pSkip ?_|refine pRet ?_|refine pCond ?_|refine gNone ?_|refine gOn rfl ?_|refine gOff rfl rfl ?_|refine gTup rfl ?_))
  intro z hz
  rw [i64_id (by omega)] at hz
  (repeat(first|refine pSeq ?_|refine pReg ?_|refine sCons ?_|refine sNil ?_|refine rCons ?_|refine rNil ?_|refine kNo ?_|refine pRow ?_|refine pSkip ?_|refine pRet ?_|refine pCond ?_|refine gNone ?_|refine gOn rfl ?_|refine gOff rfl rfl ?_|refine gTup rfl ?_))
  intro q hq
  by_cases h2 : (A.cap : Int) - k < l.length
  · obtain rfl : q = true := by rw [hq]; simp; omega
    have e : A.wrote k l = (7, A) := by unfold Dk.wrote; rw [if_neg (by omega), if_pos (.inr h2)]
    rw [e]
    (repeat(first|refine pSeq ?_|refine pReg ?_|refine sCons ?_|refine sNil ?_|refine rCons ?_|refine rNil ?_|refine kNo ?_|refine pRow ?_|refine pSkip ?_|refine pRet ?_|refine pCond ?_|refine gNone ?_|refine gOn rfl ?_|refine gOff rfl rfl ?_|refine gTup rfl ?_))
    exact ⟨rfl, B, h, .refl _ _ _, by omega⟩
  obtain rfl : q = false := by rw [hq]; simp; omega
  have e : A.wrote k l = (0, { A with now := layF A.now k.toNat l, ws := A.ws ++ [(k.toNat, l)] }) := by unfold Dk.wrote; rw [if_neg (by omega), if_neg (by rw [hfull]; simp; omega)]
  rw [e]
  obtain ⟨k, rfl⟩ := Int.eq_ofNat_of_zero_le (show 0 ≤ k by omega)
  simp only [Int.ofNat_eq_natCast, Int.toNat_natCast] at *
  (repeat(first|refine pSeq ?_|refine pReg ?_|refine sCons ?_|refine sNil ?_|refine rCons ?_|refine rNil ?_|refine kNo ?_|refine pRow ?_|refine pSkip ?_|refine pRet ?_|refine pCond ?_|refine gNone ?_|refine gOn rfl ?_|refine gOff rfl rfl ?_|refine gTup rfl ?_))
  refine (clone_w hx hn).mono fun v s1 q => ?_
  obtain ⟨X1, rfl, o1, n1, c1⟩ := q
  subst hnl
  (repeat(first|refine pSeq ?_|refine pReg ?_|refine sCons ?_|refine sNil ?_|refine rCons ?_|refine rNil ?_|refine kNo ?_|refine pRow ?_|refine pSkip ?_|refine pRet ?_|refine pCond ?_|refine gNone ?_|refine gOn rfl ?_|refine gOff rfl rfl ?_|refine gTup rfl ?_))
  have hs1 := c1.next
  refine st_abs (cs' := wCell (k, l, X1)) rfl rfl lkH (Nat.lt_succ_self _) rfl rfl fun s2 hbox c2 hn2 => ?_
  have hn2 : s2.next = s1.next + 1 := hn2
  have cA : Chg s s2 [] := by
    have a := Chg.new (s := s1) (b := .cells [.int .i64 0, .slice none 0 0] tW false false) []
    exact c1.nil (a.fresh c2 (fun id q => by simp at q; omega))
  have h2 := h.chg cA (fun _ _ => by simp)
  (repeat(first|refine pSeq ?_|refine pReg ?_|refine sCons ?_|refine sNil ?_|refine rCons ?_|refine rNil ?_|refine kNo ?_|refine pRow ?_|refine pSkip ?_|refine pRet ?_|refine pCond ?_|refine gNone ?_|refine gOn rfl ?_|refine gOff rfl rfl ?_|refine gTup rfl ?_))
  refine ld1_is rfl h2.obj rfl ?_
  (repeat(first|refine pSeq ?_|refine pReg ?_|refine sCons ?_|refine sNil ?_|refine rCons ?_|refine rNil ?_|refine kNo ?_|refine pRow ?_|refine pSkip ?_|refine pRet ?_|refine pCond ?_|refine gNone ?_|refine gOn rfl ?_|refine gOff rfl rfl ?_|refine gTup rfl ?_))
  refine ldN_is rfl hbox rfl ?_
  (repeat(first|refine pSeq ?_|refine pReg ?_|refine sCons ?_|refine sNil ?_|refine rCons ?_|refine rNil ?_|refine kNo ?_|refine pRow ?_|refine pSkip ?_|refine pRet ?_|refine pCond ?_|refine gNone ?_|refine gOn rfl ?_|refine gOff rfl rfl ?_|refine gTup rfl ?_))
  refine mkS_is rfl rfl (rNew (cA.fine hf).at ?_)
  (repeat(first|refine pSeq ?_|refine pReg ?_|refine sCons ?_|refine sNil ?_|refine rCons ?_|refine rNil ?_|refine kNo ?_|refine pRow ?_|refine pSkip ?_|refine pRet ?_|refine pCond ?_|refine gNone ?_|refine gOn rfl ?_|refine gOff rfl rfl ?_|refine gTup rfl ?_))
  -- the row
  have cB := Chg.new (s := s2) (b := .cells (wCell (k, l, X1)) tW false false) []
  have h3 := h2.chg cB (fun _ _ => by simp)
  have hb3 := Own.chg (o1.chg (Chg.new (s := s1) (b := .cells [.int .i64 0, .slice none 0 0] tW false false) []) (fun _ _ => by simp)) c2 (fun id q => by have := o1.lt id q; simp; omega)
  refine appW (w := (k, l, X1)) h3.row (by omega) rfl rfl lkH fun s4 hrow c4 hn4 => ?_
  have hn4 : s4.next = s2.next + 1 + 1 := hn4
  obtain ⟨a1, a2, a3, a4⟩ := h3.apart
  have hobj4 := c4.blk d _ h3.lt (fun q => a3 d q rfl) h3.obj
  (repeat(first|refine pSeq ?_|refine pReg ?_|refine sCons ?_|refine sNil ?_|refine rCons ?_|refine rNil ?_|refine kNo ?_|refine pRow ?_|refine pSkip ?_|refine pRet ?_|refine pCond ?_|refine gNone ?_|refine gOn rfl ?_|refine gOff rfl rfl ?_|refine gTup rfl ?_))
  refine st_abs (cs' := dCells { A with ws := A.ws ++ [(k, l)] } { B with W := some ⟨s2.next + 1, 0, none⟩, cw := 0, wl := B.wl ++ [(k, l, X1)] }) rfl rfl hobj4 (Nat.lt_of_lt_of_le h3.lt c4.next) rfl (by simp only [dCells, List.length_append]; rfl) fun s5 hobj5 c5 hn5 => ?_
  (repeat(first|refine pSeq ?_|refine pReg ?_|refine sCons ?_|refine sNil ?_|refine rCons ?_|refine rNil ?_|refine kNo ?_|refine pRow ?_|refine pSkip ?_|refine pRet ?_|refine pCond ?_|refine gNone ?_|refine gOn rfl ?_|refine gOff rfl rfl ?_|refine gTup rfl ?_))
  have hX1 : ∀ id ∈ blkOf X1, s.next ≤ id ∧ id < s1.next := fun id q => ⟨n1 id q, o1.lt id q⟩
  have ltS := h.sure.lt
  have ltN := h.now.lt
  have ltW := h.row.lt
  have ltd := h.lt
  have aW := h3.apartW
  have h5 : DAt s5 d { A with ws := A.ws ++ [(k, l)] } { B with W := some ⟨s2.next + 1, 0, none⟩, cw := 0, wl := B.wl ++ [(k, l, X1)] } := by
    refine ⟨hobj5, Nat.lt_of_lt_of_le h3.lt (Nat.le_trans c4.next c5.next), ?_, ?_, ?_, ?_, h.sep, h.cap, h.lnow, h.lsure, ?_, ?_⟩
    · exact (h3.sure.chg c4 (fun id q r => (aW id r).1 id q rfl)).chg c5 (fun id q r => a1 id q (List.mem_singleton.1 r).symm)
    · exact (h3.now.chg c4 (fun id q r => (aW id r).2.1 id q rfl)).chg c5 (fun id q r => a2 id q (List.mem_singleton.1 r).symm)
    · refine hrow.chg c5 (fun id q r => ?_)
      simp only [blkOf, List.mem_singleton] at q r
      omega
    · intro w hw
      rcases List.mem_append.1 hw with hw | hw
      · exact ⟨((h3.each w hw).1.chg c4 (fun id q r => (aW id r).2.2 w hw id q rfl)).chg c5 (fun id q r => a4 w hw id q (List.mem_singleton.1 r).symm), (h3.each w hw).2⟩
      · obtain rfl := List.mem_singleton.1 hw
        refine ⟨((hb3.chg cB (fun _ _ => by simp)).chg c4 (fun id q r => ?_)).chg c5 (fun id q r => ?_), ?_, fun id q => ⟨fun r => ?_, fun r => ?_⟩⟩
        · have := hX1 id q; have := ltW id r; omega
        · have := hX1 id q; simp only [List.mem_singleton] at r; omega
        · show k + l.length ≤ A.cap
          omega
        · have := hX1 id q; have := ltS id r; omega
        · have := hX1 id q; have := ltN id r; omega
    · simp
      omega
    · simp [← h.ews]
  refine ld1_is rfl h5.obj rfl ?_
  (repeat(first|refine pSeq ?_|refine pReg ?_|refine sCons ?_|refine sNil ?_|refine rCons ?_|refine rNil ?_|refine kNo ?_|refine pRow ?_|refine pSkip ?_|refine pRet ?_|refine pCond ?_|refine gNone ?_|refine gOn rfl ?_|refine gOff rfl rfl ?_|refine gTup rfl ?_))
  have hbox5 : lookH s5.heap s1.next = some (.cells (wCell (k, l, X1)) tW false false) := by
    refine c5.blk _ _ (by have := c4.next; omega) (by simp; omega) (c4.blk _ _ (by show s1.next < s2.next + 1; omega) (fun r => by have := ltW _ r; omega) (cB.blk _ _ (by omega) (by simp) hbox))
  refine ldN_is rfl hbox5 rfl ?_
  (repeat(first|refine pSeq ?_|refine pReg ?_|refine sCons ?_|refine sNil ?_|refine rCons ?_|refine rNil ?_|refine kNo ?_|refine pRow ?_|refine pSkip ?_|refine pRet ?_|refine pCond ?_|refine gNone ?_|refine gOn rfl ?_|refine gOff rfl rfl ?_|refine gTup rfl ?_))
  refine ld1_is rfl hbox5 rfl ?_
  (repeat(first|refine pSeq ?_|refine pReg ?_|refine sCons ?_|refine sNil ?_|refine rCons ?_|refine rNil ?_|refine kNo ?_|refine pRow ?_|refine pSkip ?_|refine pRet ?_|refine pCond ?_|refine gNone ?_|refine gOn rfl ?_|refine gOff rfl rfl ?_|refine gTup rfl ?_))
  have hw5 := h5.each (k, l, X1) (by simp)
  have hkl : k + l.length ≤ A.cap := by omega
  refine (lay_w (B := B.N) (X := X1) (l := l) (cx := 0) (k := k) (many := (l.length : Int)) h5.now (hw5.1.slc sz_B) (by omega) (by show A.now.length ≤ _; omega) (by omega) (by omega) (fun id q => (hw5.2.2 id q).2)).mono fun v s6 q => ?_
  obtain ⟨N', rfl, o6, c6, f6⟩ := q
  rw [Int.toNat_natCast, List.take_of_length_le (Nat.le_refl _)] at *
  obtain ⟨b1, b2, b3, b4⟩ := h5.apart
  have hobj6 := c6.blk d _ h5.lt (fun q => b2 d q rfl) h5.obj
  (repeat(first|refine pSeq ?_|refine pReg ?_|refine sCons ?_|refine sNil ?_|refine rCons ?_|refine rNil ?_|refine kNo ?_|refine pRow ?_|refine pSkip ?_|refine pRet ?_|refine pCond ?_|refine gNone ?_|refine gOn rfl ?_|refine gOff rfl rfl ?_|refine gTup rfl ?_))
  refine st_abs (cs' := dCells { A with now := layF A.now k l, ws := A.ws ++ [(k, l)] } { B with N := N', W := some ⟨s2.next + 1, 0, none⟩, cw := 0, wl := B.wl ++ [(k, l, X1)] }) rfl rfl hobj6 (Nat.lt_of_lt_of_le h5.lt c6.next) rfl rfl fun s7 hobj7 c7 hn7 => ?_
  (repeat(first|refine pSeq ?_|refine pReg ?_|refine sCons ?_|refine sNil ?_|refine rCons ?_|refine rNil ?_|refine kNo ?_|refine pRow ?_|refine pSkip ?_|refine pRet ?_|refine pCond ?_|refine gNone ?_|refine gOn rfl ?_|refine gOff rfl rfl ?_|refine gTup rfl ?_))
  have hN' : ∀ id ∈ blkOf N', id ∈ blkOf B.N ∨ s5.next ≤ id := f6
  have d6 : ∀ id ∈ blkOf N', d ≠ id := fun id q => by
    rcases hN' id q with r | r
    · exact b2 id r
    · have := h5.lt; omega
  have bW := h5.apartW
  refine ⟨rfl, { B with N := N', W := some ⟨s2.next + 1, 0, none⟩, cw := 0, wl := B.wl ++ [(k, l, X1)] }, ⟨hobj7, Nat.lt_of_lt_of_le h5.lt (Nat.le_trans c6.next c7.next), ?_, ?_, ?_, ?_, ?_, h.cap, ?_, h.lsure, h5.lws, h5.ews⟩, ⟨?_, ?_, ?_⟩, by simp⟩
  · exact (h5.sure.chg c6 (fun id q r => h.sep id q r)).chg c7 (fun id q r => b1 id q (List.mem_singleton.1 r).symm)
  · exact o6.chg c7 (fun id q r => d6 id q (List.mem_singleton.1 r).symm)
  · exact (h5.row.chg c6 (fun id q r => (bW id q).2.1 id r rfl)).chg c7 (fun id q r => b3 id q (List.mem_singleton.1 r).symm)
  · intro w hw
    have e := h5.each w hw
    refine ⟨(e.1.chg c6 (fun id q r => (e.2.2 id q).2 r)).chg c7 (fun id q r => b4 w hw id q (List.mem_singleton.1 r).symm), e.2.1, fun id q => ⟨(e.2.2 id q).1, fun r => ?_⟩⟩
    rcases hN' id r with r | r
    · exact (e.2.2 id q).2 r
    · have := e.1.lt id q; omega
  · intro id q r
    rcases hN' id r with r | r
    · exact h.sep id q r
    · have := h5.sure.lt id q; omega
  · show (layF A.now k l).length ≤ A.cap
    rw [layF_len]
    split <;> omega
  · have t1 : Chg s _ (foot d B) := (cA.nil cB).sub (by simp)
    have t2 := t1.trans' (C := foot d B) c4 (fun id q _ => q) (fun id q _ => by simp [foot, q])
    have t3 := t2.trans' (C := foot d B) c5 (fun id q _ => q) (fun id q _ => by simp at q; simp [foot, q])
    have t4 := t3.trans' (C := foot d B) c6 (fun id q _ => q) (fun id q _ => by simp [foot, q])
    exact t4.trans' (C := foot d B) c7 (fun id q _ => q) (fun id q _ => by simp at q; simp [foot, q])
  · intro id q
    have n1 := cA.next
    have n2 := c4.next
    have n3 := c5.next
    simp only [foot, List.mem_cons, List.mem_append, blkOf, List.not_mem_nil, or_false] at q ⊢
    rcases q with q | (q | q) | q
    · exact .inl (.inl q)
    · exact .inl (.inr (.inl (.inl q)))
    · rcases hN' id q with r | r
      · exact .inl (.inr (.inl (.inr r)))
      · exact .inr (by omega)
    · exact .inr (by omega)
  · intro id q
    have n1 := cA.next
    have n2 := c4.next
    have n3 := c5.next
    simp only [whole, bytesOfW, foot, List.mem_cons, List.mem_append, blkOf, List.not_mem_nil, or_false, List.flatMap_append, List.flatMap_cons, List.flatMap_nil] at q ⊢
    rcases q with (q | (q | q) | q) | (q | q)
    · exact .inl (.inl (.inl q))
    · exact .inl (.inl (.inr (.inl (.inl q))))
    · rcases hN' id q with r | r
      · exact .inl (.inl (.inr (.inl (.inr r))))
      · exact .inr (by omega)
    · exact .inr (by omega)
    · exact .inl (.inr q)
    · exact .inr (hX1 id q).1
end Go.Vf.S
