import Derived.Test.YtioildcpkcijkaaDoorDkE
/- New, Crash, Copy. -/
namespace Go.Vf.S
open Go Go.Vf
attribute [local irreducible] wSeq wRow wp wG
set_option linter.unusedVariables false
set_option linter.unusedSimpArgs false
set_option maxRecDepth 10000

abbrev tI : TypeId := 3
def B0 : Bs := ⟨none, none, none, 0, []⟩
def Dk.made (c : Nat) : Dk := ⟨c, false, [], [], []⟩

theorem new_bad {s : SS} {c : Int} (h : c < 0 ∨ 1048576 < c) : CallW pr n_disk_New [.int .i64 c] s fun v s' => v = .tuple ⟨[.pointer none, .int .i64 1]⟩ ∧ s' = s := by
  refine CallW.run good ok_disk_New (by simp) rfl ?_
  (repeat(first|refine pSeq ?_|refine pReg ?_|refine sCons ?_|refine sNil ?_|refine pSkip ?_|refine pRet ?_|refine pCond ?_|refine gNone ?_|refine gOn rfl ?_|refine gOff rfl rfl ?_|refine gTup rfl ?_))
  intro q hq
  by_cases h0 : c < 0
  · obtain rfl : q = true := by rw [hq]; simp; omega
    (repeat(first|refine pSeq ?_|refine pReg ?_|refine sCons ?_|refine sNil ?_|refine pSkip ?_|refine pRet ?_|refine pCond ?_|refine gNone ?_|refine gOn rfl ?_|refine gOff rfl rfl ?_|refine gTup rfl ?_))
    exact ⟨rfl, rfl⟩
  obtain rfl : q = false := by rw [hq]; simp; omega
  (repeat(first|refine pSeq ?_|refine pReg ?_|refine sCons ?_|refine sNil ?_|refine pSkip ?_|refine pRet ?_|refine pCond ?_|refine gNone ?_|refine gOn rfl ?_|refine gOff rfl rfl ?_|refine gTup rfl ?_))
  intro q hq
  obtain rfl : q = true := by rw [hq]; simp; omega
  (repeat(first|refine pSeq ?_|refine pReg ?_|refine sCons ?_|refine sNil ?_|refine pSkip ?_|refine pRet ?_|refine pCond ?_|refine gNone ?_|refine gOn rfl ?_|refine gOff rfl rfl ?_|refine gTup rfl ?_))
  exact ⟨rfl, rfl⟩

theorem new_w {s : SS} {c : Nat} (h : c ≤ 1048576) : CallW pr n_disk_New [.int .i64 c] s fun v s' =>
    ∃ d, s.next ≤ d ∧ v = .tuple ⟨[.pointer (some ⟨d, 0, none⟩), .int .i64 0]⟩ ∧ DAt s' d (Dk.made c) B0 ∧ Chg s s' [] := by
  refine CallW.run good ok_disk_New (by simp) rfl ?_
  (repeat(first|refine pSeq ?_|refine pReg ?_|refine sCons ?_|refine sNil ?_|refine pSkip ?_|refine pRet ?_|refine pCond ?_|refine gNone ?_|refine gOn rfl ?_|refine gOff rfl rfl ?_|refine gTup rfl ?_))
  intro q hq
  obtain rfl : q = false := by rw [hq]; simp
  (repeat(first|refine pSeq ?_|refine pReg ?_|refine sCons ?_|refine sNil ?_|refine pSkip ?_|refine pRet ?_|refine pCond ?_|refine gNone ?_|refine gOn rfl ?_|refine gOff rfl rfl ?_|refine gTup rfl ?_))
  intro q hq
  obtain rfl : q = false := by rw [hq]; simp; omega
  (repeat(first|refine pSeq ?_|refine pReg ?_|refine sCons ?_|refine sNil ?_|refine pSkip ?_|refine pRet ?_|refine pCond ?_|refine gNone ?_|refine gOn rfl ?_|refine gOff rfl rfl ?_|refine gTup rfl ?_))
  exact ⟨s.next, Nat.le_refl _, rfl, ⟨lkH, Nat.lt_succ_self _, rfl, rfl, ⟨rfl, rfl⟩, fun w hw => by simp [B0] at hw, fun id q => by simp [B0, blkOf] at q, h, Nat.zero_le _, Nat.zero_le _, Nat.zero_le _, rfl⟩, .new _⟩

/-- Numbers that a slice reads. -/
def RdI (s : SS) (base : Option Addr) (n : Nat) (zs : List Int) : Prop :=
  n = zs.length ∧ match base with
  | none => zs = []
  | some ⟨b, off, sp⟩ => sp = none ∧ b < s.next ∧ ∃ c g r, lookH s.heap b = some (.cells c tI g r) ∧ ∀ i, i < n → c[off + i]? = some (.int .i64 (zs.getD i 0))

theorem RdI.chg {s s' : SS} {base : Option Addr} {n : Nat} {zs : List Int} {A : List Nat} (h : RdI s base n zs) (c : Chg s s' A) (hA : ∀ id ∈ blkOf base, id ∉ A) : RdI s' base n zs := by
  cases base with
  | none => exact h
  | some a =>
    obtain ⟨b, off, sp⟩ := a
    obtain ⟨h1, h2, h3, cc, g, r, h4, h5⟩ := h
    exact ⟨h1, h2, Nat.lt_of_lt_of_le h3 c.next, cc, g, r, c.blk _ _ h3 (hA b (by simp [blkOf])) h4, h5⟩

theorem kept_i {s : SS} {b : Option Addr} {n c : Nat} {zs : List Int} {k : Nat} (h : RdI s b n zs) :
    CallW pr n_disk_kept [.slice b n c, .int .i64 k] s fun v s' => v = .int .i64 (max (zs.getD k 0) 0) ∧ s' = s := by
  obtain ⟨h0, h⟩ := h
  refine kept_w h0 (fun a ha => ?_) (fun e => ?_)
  · subst ha
    obtain ⟨bb, off, sp⟩ := a
    obtain ⟨h1, h2, cc, g, r, h4, h5⟩ := h
    exact ⟨h1, cc, tI, g, r, h4, h5⟩
  · subst e
    have h : zs = [] := h
    rw [h0, h]; rfl

/-- What a crash keeps of what waits. -/
def cutW (ws : List (Nat × List UInt8)) (zs : List Int) : List (Nat × List UInt8) := ws.mapIdx fun i w => (w.1, w.2.take (max (zs.getD i 0) 0).toNat)
def Dk.crashed (A : Dk) (zs : List Int) : Dk := { A with sure := lays (cutW A.ws zs) A.sure, now := lays (cutW A.ws zs) A.sure, ws := [] }

theorem DAt.foot3 {s : SS} {d : Nat} {A : Dk} {B : Bs} (h : DAt s d A B) {b : Nat} {c : List Value} {t : TypeId} {g r : Bool} (hb : lookH s.heap b = some (.cells c t g r)) (ht : t ≠ tD ∧ t ≠ tB ∧ t ≠ tW) : b ∉ whole d B := by
  intro q
  simp only [whole, foot, bytesOfW, List.mem_append, List.mem_cons, List.mem_flatMap] at q
  rcases q with (rfl | (q | q) | q) | ⟨w, hw, q⟩
  · exact type_ne hb h.obj ht.1 rfl
  · obtain ⟨_, e⟩ := h.sure.at _ q; exact type_ne hb e ht.2.1 rfl
  · obtain ⟨_, e⟩ := h.now.at _ q; exact type_ne hb e ht.2.1 rfl
  · obtain ⟨_, e⟩ := h.row.at _ q; exact type_ne hb e ht.2.2 rfl
  · obtain ⟨_, e⟩ := (h.each w hw).1.at _ q; exact type_ne hb e ht.2.1 rfl
theorem DAt.footR {s : SS} {d : Nat} {A : Dk} {B : Bs} (h : DAt s d A B) {b : Nat} {c : List Value} {t : TypeId} {g : Bool} (hb : lookH s.heap b = some (.cells c t g true)) : b ∉ whole d B := by
  intro q
  simp only [whole, foot, bytesOfW, List.mem_append, List.mem_cons, List.mem_flatMap] at q
  rcases q with (rfl | (q | q) | q) | ⟨w, hw, q⟩
  · exact ro_ne hb h.obj rfl
  · obtain ⟨_, e⟩ := h.sure.at _ q; exact ro_ne hb e rfl
  · obtain ⟨_, e⟩ := h.now.at _ q; exact ro_ne hb e rfl
  · obtain ⟨_, e⟩ := h.row.at _ q; exact ro_ne hb e rfl
  · obtain ⟨_, e⟩ := (h.each w hw).1.at _ q; exact ro_ne hb e rfl
theorem foot_whole {d : Nat} {B : Bs} {id : Nat} (h : id ∈ foot d B) : id ∈ whole d B := List.mem_append_left _ h
theorem DAt.rdi {s : SS} {d : Nat} {A : Dk} {B : Bs} (h : DAt s d A B) {base : Option Addr} {n : Nat} {zs : List Int} (k : RdI s base n zs) : ∀ id ∈ blkOf base, id ∉ whole d B := by
  cases base with
  | none => simp [blkOf]
  | some a =>
    obtain ⟨b, off, sp⟩ := a
    intro id hid
    simp only [blkOf, List.mem_singleton] at hid
    subst hid
    obtain ⟨h1, h2, h3, cc, g, r, h4, h5⟩ := k
    exact h.foot3 h4 ⟨by decide, by decide, by decide⟩

/-- What is seen is laid anew. -/
theorem DAt.newN {s s6 s7 : SS} {d : Nat} {A : Dk} {B : Bs} {N' : Option Addr} {b : List UInt8} (h : DAt s d A B) (o6 : Own tB s6 N' b) (n6 : NewA s N') (c6 : Chg s s6 []) (hl : b.length ≤ A.cap)
    (hobj7 : lookH s7.heap d = some (.cells (dCells { A with now := b } { B with N := N' }) tD false false)) (c7 : Chg s6 s7 [d]) : DAt s7 d { A with now := b } { B with N := N' } ∧ Step d s B s7 { B with N := N' } := by
  obtain ⟨a1, a2, a3, a4⟩ := h.apart
  have n6' := c6.next
  have ltd := h.lt
  refine ⟨⟨hobj7, Nat.lt_of_lt_of_le h.lt (Nat.le_trans n6' c7.next), ?_, ?_, ?_, ?_, ?_, h.cap, hl, h.lsure, h.lws, h.ews⟩, ?_, ?_, ?_⟩
  · exact (h.sure.chg c6 (fun id q r => by cases r)).chg c7 (fun id q r => a1 id q (List.mem_singleton.1 r).symm)
  · exact o6.chg c7 (fun id q r => by have := n6 id q; have := List.mem_singleton.1 r; omega)
  · exact (h.row.chg c6 (fun id q r => by cases r)).chg c7 (fun id q r => a3 id q (List.mem_singleton.1 r).symm)
  · intro w hw
    have e := h.each w hw
    exact ⟨(e.1.chg c6 (fun id q r => by cases r)).chg c7 (fun id q r => a4 w hw id q (List.mem_singleton.1 r).symm), e.2.1, fun id q => ⟨(e.2.2 id q).1, fun r => by have := n6 id r; have := e.1.lt id q; omega⟩⟩
  · intro id q r
    have := n6 id r; have := h.sure.lt id q; omega
  · have t1 : Chg s s6 (foot d B) := c6.sub (by simp)
    exact t1.trans' (C := foot d B) c7 (fun id q _ => q) (fun id q _ => by simp at q; simp [foot, q])
  · intro id q
    simp only [foot, List.mem_cons, List.mem_append] at q ⊢
    rcases q with q | (q | q) | q
    · exact .inl (.inl q)
    · exact .inl (.inr (.inl (.inl q)))
    · exact .inr (n6 id q)
    · exact .inl (.inr (.inr q))
  · intro id q
    simp only [whole, bytesOfW, foot, List.mem_cons, List.mem_append] at q ⊢
    rcases q with (q | (q | q) | q) | q
    · exact .inl (.inl (.inl q))
    · exact .inl (.inl (.inr (.inl (.inl q))))
    · exact .inr (n6 id q)
    · exact .inl (.inl (.inr (.inr q)))
    · exact .inl (.inr q)

set_option maxHeartbeats 1000000 in
theorem crash_w {s : SS} {d : Nat} {A : Dk} {B : Bs} {kb : Option Addr} {kn kc : Nat} {zs : List Int} (h : DAt s d A B) (hf : Fine s) (hk : RdI s kb kn zs) :
    CallW pr n_disk_Disk_Crash [.pointer (some ⟨d, 0, none⟩), .slice kb kn kc] s fun v s' => v = .int .i64 0 ∧ ∃ B', DAt s' d (A.crashed zs) B' ∧ Step d s B s' B' ∧ B'.wl = [] := by
  have hcap := h.cap
  have hlws := h.lws
  have lw : A.ws.length = B.wl.length := by rw [← h.ews, List.length_map]
  have hws : ∀ w ∈ cutW A.ws zs, w.1 + w.2.length ≤ A.cap := by
    intro w hw
    obtain ⟨i, hi⟩ := List.getElem?_of_mem hw
    simp only [cutW, List.getElem?_mapIdx] at hi
    cases hx : A.ws[i]? with
    | none => rw [hx] at hi; cases hi
    | some x =>
      rw [hx] at hi
      have hm := List.mem_of_getElem? hx
      rw [← h.ews] at hm
      obtain ⟨y, hy, rfl⟩ := List.mem_map.1 hm
      have := (h.each y hy).2.1
      cases hi
      simp
      omega
  have hcl : (cutW A.ws zs).length = B.wl.length := by simp [cutW, lw]
  refine CallW.run good ok_disk_Disk_Crash (by simp) rfl ?_
  (repeat(first|refine pSeq ?_|refine pReg ?_|refine sCons ?_|refine sNil ?_|refine rCons ?_|refine rNil ?_|refine kNo ?_|refine pRow ?_|refine pBlock ?_|refine pSkip ?_|refine pExit ?_|refine pRet ?_|refine pCond ?_|refine gNone ?_))
  refine h.is.mono fun v s q => ?_
  obtain ⟨rfl, rfl⟩ := q
  (repeat(first|refine pSeq ?_|refine pReg ?_|refine sCons ?_|refine sNil ?_|refine rCons ?_|refine rNil ?_|refine kNo ?_|refine pRow ?_|refine pBlock ?_|refine pSkip ?_|refine pExit ?_|refine pRet ?_|refine pCond ?_|refine gNone ?_))
  refine ld1_is rfl h.obj rfl ?_
  (repeat(first|refine pSeq ?_|refine pReg ?_|refine sCons ?_|refine sNil ?_|refine rCons ?_|refine rNil ?_|refine kNo ?_|refine pRow ?_|refine pBlock ?_|refine pSkip ?_|refine pExit ?_|refine pRet ?_|refine pCond ?_|refine gNone ?_))
  refine pLoop (MW.head good (fun x : LoopS => B.wl.length - x.i) (fun x => x.i ≤ B.wl.length ∧ DAt x.s d { A with sure := lays ((cutW A.ws zs).take x.i) A.sure } { B with S := x.S } ∧ Step d s B x.s { B with S := x.S } ∧ RdI x.s kb kn zs)
    (fun x => [(0, .pointer (some ⟨d, 0, none⟩)), (1, .slice kb kn kc), (12, .int .i64 B.wl.length), (13, .int .i64 x.i)]) (fun x => x.s) ⟨0, s, B.S⟩ ⟨Nat.zero_le _, ?_, .refl _ _ _, hk⟩ ?_ ?_)
  · simp only [List.take_zero]
    exact h
  · exact Wk.same ⟨rfl, rfl, rfl, rfl, trivial⟩
  intro ⟨i, s1, S1⟩ ⟨hi, h1, st1, hk1⟩
  dsimp only at hi h1 st1 hk1 ⊢
  (repeat(first|refine pSeq ?_|refine pReg ?_|refine sCons ?_|refine sNil ?_|refine rCons ?_|refine rNil ?_|refine kNo ?_|refine pRow ?_|refine pBlock ?_|refine pSkip ?_|refine pExit ?_|refine pRet ?_|refine pCond ?_|refine gNone ?_))
  intro q hq
  by_cases hlt : i < B.wl.length
  · obtain rfl : q = true := by rw [hq]; simp; omega
    obtain ⟨hl, hi', e1, e2⟩ := h.wsAt hlt
    have lsure := h1.lsure
    obtain ⟨bw, g, hrow, obj1⟩ := h1.rowAt hlt
    have hw := h1.each _ (List.getElem_mem hlt)
    have lw1 : (B.wl[i]).1 + (B.wl[i]).2.1.length ≤ A.cap := hw.2.1
    have hic : i < (cutW A.ws zs).length := by omega
    have ltk := lays_take hic (b := A.sure)
    have hci : (cutW A.ws zs)[i] = ((B.wl[i]).1, (B.wl[i]).2.1.take (max (zs.getD i 0) 0).toNat) := by
      simp only [cutW, List.getElem_mapIdx, e1, e2]
    rw [hci] at ltk
    have lnext := lays_len (cap := A.cap) (ws := (cutW A.ws zs).take (i + 1)) h.lsure (fun w hw => hws w (List.mem_of_mem_take hw))
    (repeat(first|refine pSeq ?_|refine pReg ?_|refine sCons ?_|refine sNil ?_|refine rCons ?_|refine rNil ?_|refine kNo ?_|refine pRow ?_|refine pBlock ?_|refine pSkip ?_|refine pExit ?_|refine pRet ?_|refine pCond ?_|refine gNone ?_))
    refine ld1_is rfl obj1 rfl ?_
    (repeat(first|refine pSeq ?_|refine pReg ?_|refine sCons ?_|refine sNil ?_|refine rCons ?_|refine rNil ?_|refine kNo ?_|refine pRow ?_|refine pBlock ?_|refine pSkip ?_|refine pExit ?_|refine pRet ?_|refine pCond ?_|refine gNone ?_))
    refine ld1_is rfl obj1 rfl ?_
    (repeat(first|refine pSeq ?_|refine pReg ?_|refine sCons ?_|refine sNil ?_|refine rCons ?_|refine rNil ?_|refine kNo ?_|refine pRow ?_|refine pBlock ?_|refine pSkip ?_|refine pExit ?_|refine pRet ?_|refine pCond ?_|refine gNone ?_))
    refine ⟨⟨by omega, Int.ofNat_lt.2 hlt⟩, ?_⟩
    intro m hm o ho
    obtain rfl : m = i := by omega
    rw [Nat.zero_add, Nat.mul_comm] at ho
    subst ho
    (repeat(first|refine pSeq ?_|refine pReg ?_|refine sCons ?_|refine sNil ?_|refine rCons ?_|refine rNil ?_|refine kNo ?_|refine pRow ?_|refine pBlock ?_|refine pSkip ?_|refine pExit ?_|refine pRet ?_|refine pCond ?_|refine gNone ?_))
    refine ldN_is rfl hrow (wCells_at hlt) ?_
    (repeat(first|refine pSeq ?_|refine pReg ?_|refine sCons ?_|refine sNil ?_|refine rCons ?_|refine rNil ?_|refine kNo ?_|refine pRow ?_|refine pBlock ?_|refine pSkip ?_|refine pExit ?_|refine pRet ?_|refine pCond ?_|refine gNone ?_))
    refine (kept_i hk1).mono fun v s1 q => ?_
    obtain ⟨rfl, rfl⟩ := q
    refine kAll .refl ?_
    (repeat(first|refine pSeq ?_|refine pReg ?_|refine sCons ?_|refine sNil ?_|refine rCons ?_|refine rNil ?_|refine kNo ?_|refine pRow ?_|refine pBlock ?_|refine pSkip ?_|refine pExit ?_|refine pRet ?_|refine pCond ?_|refine gNone ?_))
    refine (lay_w (B := S1) (X := (B.wl[m]).2.2) (l := (B.wl[m]).2.1) (cx := 0) (k := (B.wl[m]).1) (many := max (zs.getD m 0) 0) h1.sure (hw.1.slc sz_B) (by omega) (by show (lays ((cutW A.ws zs).take m) A.sure).length ≤ _; have : (lays ((cutW A.ws zs).take m) A.sure).length ≤ A.cap := lsure; omega) (by omega) (by omega) (fun id q => (hw.2.2 id q).1)).mono fun v s6 q => ?_
    obtain ⟨S', rfl, o6, c6, f6⟩ := q
    obtain ⟨b1, b2, b3, b4⟩ := h1.apart
    have hobj6 := c6.blk d _ h1.lt (fun q => b1 d q rfl) h1.obj
    rw [← ltk] at o6 ⊢
    (repeat(first|refine pSeq ?_|refine pReg ?_|refine sCons ?_|refine sNil ?_|refine rCons ?_|refine rNil ?_|refine kNo ?_|refine pRow ?_|refine pBlock ?_|refine pSkip ?_|refine pExit ?_|refine pRet ?_|refine pCond ?_|refine gNone ?_))
    refine st_abs (cs' := dCells { A with sure := lays ((cutW A.ws zs).take (m + 1)) A.sure } { B with S := S' }) rfl rfl hobj6 (Nat.lt_of_lt_of_le h1.lt c6.next) rfl rfl fun s7 hobj7 c7 hn7 => ?_
    obtain ⟨h7, st7⟩ := h1.newS o6 c6 f6 lnext hobj7 c7
    (repeat(first|refine pSeq ?_|refine pReg ?_|refine sCons ?_|refine sNil ?_|refine rCons ?_|refine rNil ?_|refine kNo ?_|refine pRow ?_|refine pBlock ?_|refine pSkip ?_|refine pExit ?_|refine pRet ?_|refine pCond ?_|refine gNone ?_))
    intro z hz
    rw [i64_id (by omega)] at hz
    (repeat(first|refine pSeq ?_|refine pReg ?_|refine sCons ?_|refine sNil ?_|refine rCons ?_|refine rNil ?_|refine kNo ?_|refine pRow ?_|refine pBlock ?_|refine pSkip ?_|refine pExit ?_|refine pRet ?_|refine pCond ?_|refine gNone ?_))
    refine ⟨⟨m + 1, s7, S'⟩, ⟨hlt, h7, st1.trans st7, hk1.chg st7.chg (fun id q r => h1.rdi hk1 id q (foot_whole r))⟩, by dsimp only; omega, Wk.same ⟨rfl, rfl, rfl, ?_, trivial⟩⟩
    subst hz
    rfl
  · obtain rfl : q = false := by rw [hq]; simp; omega
    obtain rfl : i = B.wl.length := by omega
    rw [List.take_of_length_le (by omega)] at h1
    have lall := lays_len (cap := A.cap) (ws := cutW A.ws zs) h.lsure hws
    (repeat(first|refine pSeq ?_|refine pReg ?_|refine sCons ?_|refine sNil ?_|refine rCons ?_|refine rNil ?_|refine kNo ?_|refine pRow ?_|refine pBlock ?_|refine pSkip ?_|refine pExit ?_|refine pRet ?_|refine pCond ?_|refine gNone ?_))
    refine st_abs (cs' := dCells { A with sure := lays (cutW A.ws zs) A.sure, ws := [] } { B with S := S1, W := none, cw := 0, wl := [] }) rfl rfl h1.obj h1.lt rfl rfl fun s7 hobj7 c7 hn7 => ?_
    obtain ⟨h7, st7⟩ := h1.noW hobj7 c7
    (repeat(first|refine pSeq ?_|refine pReg ?_|refine sCons ?_|refine sNil ?_|refine rCons ?_|refine rNil ?_|refine kNo ?_|refine pRow ?_|refine pBlock ?_|refine pSkip ?_|refine pExit ?_|refine pRet ?_|refine pCond ?_|refine gNone ?_))
    refine ld1_is rfl h7.obj rfl ?_
    (repeat(first|refine pSeq ?_|refine pReg ?_|refine sCons ?_|refine sNil ?_|refine rCons ?_|refine rNil ?_|refine kNo ?_|refine pRow ?_|refine pBlock ?_|refine pSkip ?_|refine pExit ?_|refine pRet ?_|refine pCond ?_|refine gNone ?_))
    refine (clone_w h7.sure.rdb (by show (lays (cutW A.ws zs) A.sure).length ≤ _; omega)).mono fun v s8 q => ?_
    obtain ⟨N', rfl, o8, n8, c8⟩ := q
    (repeat(first|refine pSeq ?_|refine pReg ?_|refine sCons ?_|refine sNil ?_|refine rCons ?_|refine rNil ?_|refine kNo ?_|refine pRow ?_|refine pBlock ?_|refine pSkip ?_|refine pExit ?_|refine pRet ?_|refine pCond ?_|refine gNone ?_))
    refine st_abs (cs' := dCells (A.crashed zs) { B with S := S1, N := N', W := none, cw := 0, wl := [] }) rfl rfl (c8.blk d _ h7.lt (by simp) h7.obj) (Nat.lt_of_lt_of_le h7.lt c8.next) rfl rfl fun s9 hobj9 c9 hn9 => ?_
    obtain ⟨h9, st9⟩ := h7.newN o8 n8 c8 lall hobj9 c9
    (repeat(first|refine pSeq ?_|refine pReg ?_|refine sCons ?_|refine sNil ?_|refine rCons ?_|refine rNil ?_|refine kNo ?_|refine pRow ?_|refine pBlock ?_|refine pSkip ?_|refine pExit ?_|refine pRet ?_|refine pCond ?_|refine gNone ?_))
    exact ⟨rfl, _, h9, (st1.trans st7).trans st9, rfl⟩
end Go.Vf.S
