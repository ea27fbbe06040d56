import Derived.Test.YtioildcpkcijkaaDoorDkD
/- New, Read, Sync, Crash. -/
namespace Go.Vf.S
open Go Go.Vf
attribute [local irreducible] wSeq wRow wp wG
set_option linter.unusedVariables false
set_option linter.unusedSimpArgs false
set_option maxRecDepth 10000

def Dk.read (A : Dk) (k m : Int) : List UInt8 :=
  if k < 0 ∨ (A.now.length : Int) < k ∨ m < 0 then [] else (A.now.drop k.toNat).take m.toNat

theorem read_w {s : SS} {d : Nat} {A : Dk} {B : Bs} {k m : Int} (h : DAt s d A B) (hm : m ≤ 9223372036854775807) :
    CallW pr n_disk_Disk_Read [.pointer (some ⟨d, 0, none⟩), .int .i64 k, .int .i64 m] s fun v s' => ∃ b', v = .slice b' (A.read k m).length 0 ∧ Own tB s' b' (A.read k m) ∧ NewA s b' ∧ Chg s s' [] := by
  have hcap := h.cap
  have hlnow := h.lnow
  have nothing : ∀ (hh : k < 0 ∨ (A.now.length : Int) < k ∨ m < 0), A.read k m = [] := fun hh => by unfold Dk.read; rw [if_pos hh]
  refine CallW.run good ok_disk_Disk_Read (by simp) rfl ?_
  (repeat(first|refine pSeq ?_|refine pReg ?_|refine sCons ?_|refine sNil ?_|refine rCons ?_|refine rNil ?_|refine kNo ?_|refine pRow ?_|refine pSkip ?_|refine pRet ?_|refine pCond ?_|refine gNone ?_|refine gOn rfl ?_|refine gOff rfl rfl ?_|refine gTup rfl ?_))
  refine h.is.mono fun v s q => ?_
  obtain ⟨rfl, rfl⟩ := q
  (repeat(first|refine pSeq ?_|refine pReg ?_|refine sCons ?_|refine sNil ?_|refine rCons ?_|refine rNil ?_|refine kNo ?_|refine pRow ?_|refine pSkip ?_|refine pRet ?_|refine pCond ?_|refine gNone ?_|refine gOn rfl ?_|refine gOff rfl rfl ?_|refine gTup rfl ?_))
  intro q hq
  by_cases h0 : k < 0
  · obtain rfl : q = true := by rw [hq]; simp; omega
    rw [nothing (.inl h0)]
    (repeat(first|refine pSeq ?_|refine pReg ?_|refine sCons ?_|refine sNil ?_|refine rCons ?_|refine rNil ?_|refine kNo ?_|refine pRow ?_|refine pSkip ?_|refine pRet ?_|refine pCond ?_|refine gNone ?_|refine gOn rfl ?_|refine gOff rfl rfl ?_|refine gTup rfl ?_))
    exact ⟨none, rfl, rfl, (fun id q => by simp [blkOf] at q), .refl _ _⟩
  obtain rfl : q = false := by rw [hq]; simp; omega
  (repeat(first|refine pSeq ?_|refine pReg ?_|refine sCons ?_|refine sNil ?_|refine rCons ?_|refine rNil ?_|refine kNo ?_|refine pRow ?_|refine pSkip ?_|refine pRet ?_|refine pCond ?_|refine gNone ?_|refine gOn rfl ?_|refine gOff rfl rfl ?_|refine gTup rfl ?_))
  refine ld1_is rfl h.obj rfl ?_
  (repeat(first|refine pSeq ?_|refine pReg ?_|refine sCons ?_|refine sNil ?_|refine rCons ?_|refine rNil ?_|refine kNo ?_|refine pRow ?_|refine pSkip ?_|refine pRet ?_|refine pCond ?_|refine gNone ?_|refine gOn rfl ?_|refine gOff rfl rfl ?_|refine gTup rfl ?_))
  intro q hq
  by_cases h1 : (A.now.length : Int) < k
  · obtain rfl : q = true := by rw [hq]; simp; omega
    rw [nothing (.inr (.inl h1))]
    (repeat(first|refine pSeq ?_|refine pReg ?_|refine sCons ?_|refine sNil ?_|refine rCons ?_|refine rNil ?_|refine kNo ?_|refine pRow ?_|refine pSkip ?_|refine pRet ?_|refine pCond ?_|refine gNone ?_|refine gOn rfl ?_|refine gOff rfl rfl ?_|refine gTup rfl ?_))
    exact ⟨none, rfl, rfl, (fun id q => by simp [blkOf] at q), .refl _ _⟩
  obtain rfl : q = false := by rw [hq]; simp; omega
  (repeat(first|refine pSeq ?_|refine pReg ?_|refine sCons ?_|refine sNil ?_|refine rCons ?_|refine rNil ?_|refine kNo ?_|refine pRow ?_|refine pSkip ?_|refine pRet ?_|refine pCond ?_|refine gNone ?_|refine gOn rfl ?_|refine gOff rfl rfl ?_|refine gTup rfl ?_))
  intro q hq
  by_cases h2 : m < 0
  · obtain rfl : q = true := by rw [hq]; simp; omega
    rw [nothing (.inr (.inr h2))]
    (repeat(first|refine pSeq ?_|refine pReg ?_|refine sCons ?_|refine sNil ?_|refine rCons ?_|refine rNil ?_|refine kNo ?_|refine pRow ?_|refine pSkip ?_|refine pRet ?_|refine pCond ?_|refine gNone ?_|refine gOn rfl ?_|refine gOff rfl rfl ?_|refine gTup rfl ?_))
    exact ⟨none, rfl, rfl, (fun id q => by simp [blkOf] at q), .refl _ _⟩
  obtain rfl : q = false := by rw [hq]; simp; omega
  obtain ⟨k, rfl⟩ := Int.eq_ofNat_of_zero_le (show 0 ≤ k by omega)
  obtain ⟨m, rfl⟩ := Int.eq_ofNat_of_zero_le (show 0 ≤ m by omega)
  have e : A.read k m = (A.now.drop k).take m := by unfold Dk.read; rw [if_neg (by omega)]; rfl
  rw [e]
  (repeat(first|refine pSeq ?_|refine pReg ?_|refine sCons ?_|refine sNil ?_|refine rCons ?_|refine rNil ?_|refine kNo ?_|refine pRow ?_|refine pSkip ?_|refine pRet ?_|refine pCond ?_|refine gNone ?_|refine gOn rfl ?_|refine gOff rfl rfl ?_|refine gTup rfl ?_))
  refine ld1_is rfl h.obj rfl ?_
  (repeat(first|refine pSeq ?_|refine pReg ?_|refine sCons ?_|refine sNil ?_|refine rCons ?_|refine rNil ?_|refine kNo ?_|refine pRow ?_|refine pSkip ?_|refine pRet ?_|refine pCond ?_|refine gNone ?_|refine gOn rfl ?_|refine gOff rfl rfl ?_|refine gTup rfl ?_))
  have sl := h.now.slc (P := pr) sz_B
  refine slL_any k (A.now.length - k) rfl rfl rfl sl rfl (by show k + (A.now.length - k) = A.now.length; omega) (by omega) fun b1 c1 s1 => ?_
  (repeat(first|refine pSeq ?_|refine pReg ?_|refine sCons ?_|refine sNil ?_|refine rCons ?_|refine rNil ?_|refine kNo ?_|refine pRow ?_|refine pSkip ?_|refine pRet ?_|refine pCond ?_|refine gNone ?_|refine gOn rfl ?_|refine gOff rfl rfl ?_|refine gTup rfl ?_))
  refine ld1_is rfl h.obj rfl ?_
  (repeat(first|refine pSeq ?_|refine pReg ?_|refine sCons ?_|refine sNil ?_|refine rCons ?_|refine rNil ?_|refine kNo ?_|refine pRow ?_|refine pSkip ?_|refine pRet ?_|refine pCond ?_|refine gNone ?_|refine gOn rfl ?_|refine gOff rfl rfl ?_|refine gTup rfl ?_))
  intro z hz
  rw [i64_id (by omega)] at hz
  (repeat(first|refine pSeq ?_|refine pReg ?_|refine sCons ?_|refine sNil ?_|refine rCons ?_|refine rNil ?_|refine kNo ?_|refine pRow ?_|refine pSkip ?_|refine pRet ?_|refine pCond ?_|refine gNone ?_|refine gOn rfl ?_|refine gOff rfl rfl ?_|refine gTup rfl ?_))
  intro z2 hz2
  (repeat(first|refine pSeq ?_|refine pReg ?_|refine sCons ?_|refine sNil ?_|refine rCons ?_|refine rNil ?_|refine kNo ?_|refine pRow ?_|refine pSkip ?_|refine pRet ?_|refine pCond ?_|refine gNone ?_|refine gOn rfl ?_|refine gOff rfl rfl ?_|refine gTup rfl ?_))
  refine slL_any 0 (min m (A.now.length - k)) rfl rfl rfl s1 rfl (by show z2 = _; omega) (by omega) fun b2 c2 s2 => ?_
  have e2 : (((A.now.drop k).take (A.now.length - k)).drop 0).take (min m (A.now.length - k)) = (A.now.drop k).take m := by
    rw [List.drop_zero, List.take_take, List.take_eq_take_iff, List.length_drop]
    omega
  rw [e2] at s2
  have len : min m (A.now.length - k) = ((A.now.drop k).take m).length := by rw [List.length_take, List.length_drop]
  rw [len] at s2 ⊢
  (repeat(first|refine pSeq ?_|refine pReg ?_|refine sCons ?_|refine sNil ?_|refine rCons ?_|refine rNil ?_|refine kNo ?_|refine pRow ?_|refine pSkip ?_|refine pRet ?_|refine pCond ?_|refine gNone ?_|refine gOn rfl ?_|refine gOff rfl rfl ?_|refine gTup rfl ?_))
  refine (clone_w s2.1 (by omega)).mono fun v s3 q => ?_
  obtain ⟨b', rfl, o, n, c⟩ := q
  (repeat(first|refine pSeq ?_|refine pReg ?_|refine sCons ?_|refine sNil ?_|refine rCons ?_|refine rNil ?_|refine kNo ?_|refine pRow ?_|refine pSkip ?_|refine pRet ?_|refine pCond ?_|refine gNone ?_|refine gOn rfl ?_|refine gOff rfl rfl ?_|refine gTup rfl ?_))
  exact ⟨b', rfl, o, n, c⟩

/-! ### What is laid, one behind the other -/

def lays (ws : List (Nat × List UInt8)) (b : List UInt8) : List UInt8 := ws.foldl (fun b w => layF b w.1 w.2) b

theorem lays_take {ws : List (Nat × List UInt8)} {b : List UInt8} {i : Nat} (h : i < ws.length) : lays (ws.take (i + 1)) b = layF (lays (ws.take i) b) (ws[i]).1 (ws[i]).2 := by
  unfold lays
  rw [List.take_add_one, List.foldl_append, List.getElem?_eq_getElem h]
  rfl
theorem lays_len {cap : Nat} : ∀ {ws : List (Nat × List UInt8)} {b : List UInt8}, b.length ≤ cap → (∀ w ∈ ws, w.1 + w.2.length ≤ cap) → (lays ws b).length ≤ cap
  | [], b, h, _ => h
  | w :: ws, b, h, hw => by
    refine lays_len (ws := ws) (b := layF b w.1 w.2) ?_ fun x hx => hw x (List.mem_cons_of_mem _ hx)
    have := hw w (List.mem_cons_self ..)
    rw [layF_len]
    split <;> omega

theorem DAt.newS {s s6 s7 : SS} {d : Nat} {A : Dk} {B : Bs} {S' : Option Addr} {b : List UInt8} (h : DAt s d A B) (o6 : Own tB s6 S' b) (c6 : Chg s s6 (blkOf B.S)) (f6 : ∀ id ∈ blkOf S', id ∈ blkOf B.S ∨ s.next ≤ id) (hl : b.length ≤ A.cap)
    (hobj7 : lookH s7.heap d = some (.cells (dCells { A with sure := b } { B with S := S' }) tD false false)) (c7 : Chg s6 s7 [d]) : DAt s7 d { A with sure := b } { B with S := S' } ∧ Step d s B s7 { B with S := S' } := by
  obtain ⟨a1, a2, a3, a4⟩ := h.apart
  have aW := h.apartW
  have n6 := c6.next
  have ltN := h.now.lt
  have d6 : ∀ id ∈ blkOf S', d ≠ id := fun id q => by
    rcases f6 id q with r | r
    · exact a1 id r
    · have := h.lt; omega
  refine ⟨⟨hobj7, Nat.lt_of_lt_of_le h.lt (Nat.le_trans n6 c7.next), ?_, ?_, ?_, ?_, ?_, h.cap, h.lnow, hl, h.lws, h.ews⟩, ?_, ?_, ?_⟩
  · exact o6.chg c7 (fun id q r => d6 id q (List.mem_singleton.1 r).symm)
  · exact (h.now.chg c6 (fun id q r => h.sep id r q)).chg c7 (fun id q r => a2 id q (List.mem_singleton.1 r).symm)
  · exact (h.row.chg c6 (fun id q r => (aW id q).1 id r rfl)).chg c7 (fun id q r => a3 id q (List.mem_singleton.1 r).symm)
  · intro w hw
    have e := h.each w hw
    refine ⟨(e.1.chg c6 (fun id q r => (e.2.2 id q).1 r)).chg c7 (fun id q r => a4 w hw id q (List.mem_singleton.1 r).symm), e.2.1, fun id q => ⟨fun r => ?_, (e.2.2 id q).2⟩⟩
    rcases f6 id r with r | r
    · exact (e.2.2 id q).1 r
    · have := e.1.lt id q; omega
  · intro id q r
    rcases f6 id q with q | q
    · exact h.sep id q r
    · have := ltN id r; omega
  · have t1 : Chg s s6 (foot d B) := c6.sub (fun id q _ => by simp [foot, q])
    exact t1.trans' (C := foot d B) c7 (fun id q _ => q) (fun id q _ => by simp at q; simp [foot, q])
  · intro id q
    simp only [foot, List.mem_cons, List.mem_append] at q ⊢
    rcases q with q | (q | q) | q
    · exact .inl (.inl q)
    · rcases f6 id q with r | r
      · exact .inl (.inr (.inl (.inl r)))
      · exact .inr r
    · exact .inl (.inr (.inl (.inr q)))
    · exact .inl (.inr (.inr q))
  · intro id q
    simp only [whole, bytesOfW, foot, List.mem_cons, List.mem_append] at q ⊢
    rcases q with (q | (q | q) | q) | q
    · exact .inl (.inl (.inl q))
    · rcases f6 id q with r | r
      · exact .inl (.inl (.inr (.inl (.inl r))))
      · exact .inr r
    · exact .inl (.inl (.inr (.inl (.inr q))))
    · exact .inl (.inl (.inr (.inr q)))
    · exact .inl (.inr q)

/-- Nothing waits any more. -/
theorem DAt.noW {s s7 : SS} {d : Nat} {A : Dk} {B : Bs} (h : DAt s d A B) (hobj7 : lookH s7.heap d = some (.cells (dCells { A with ws := [] } { B with W := none, cw := 0, wl := [] }) tD false false)) (c7 : Chg s s7 [d]) :
    DAt s7 d { A with ws := [] } { B with W := none, cw := 0, wl := [] } ∧ Step d s B s7 { B with W := none, cw := 0, wl := [] } := by
  obtain ⟨a1, a2, a3, a4⟩ := h.apart
  refine ⟨⟨hobj7, Nat.lt_of_lt_of_le h.lt c7.next, ?_, ?_, ⟨rfl, rfl⟩, (fun w hw => by simp at hw), h.sep, h.cap, h.lnow, h.lsure, Nat.zero_le _, rfl⟩, ?_, ?_, ?_⟩
  · exact h.sure.chg c7 (fun id q r => a1 id q (List.mem_singleton.1 r).symm)
  · exact h.now.chg c7 (fun id q r => a2 id q (List.mem_singleton.1 r).symm)
  · exact c7.sub (fun id q _ => by simp at q; simp [foot, q])
  · intro id q
    simp only [foot, List.mem_cons, List.mem_append, blkOf, List.not_mem_nil, or_false] at q ⊢
    rcases q with q | q | q
    · exact .inl (.inl q)
    · exact .inl (.inr (.inl (.inl q)))
    · exact .inl (.inr (.inl (.inr q)))
  · intro id q
    simp only [whole, bytesOfW, foot, List.mem_cons, List.mem_append, blkOf, List.not_mem_nil, or_false, List.flatMap_nil] at q ⊢
    rcases q with q | q | q
    · exact .inl (.inl (.inl q))
    · exact .inl (.inl (.inr (.inl (.inl q))))
    · exact .inl (.inl (.inr (.inl (.inr q))))

def Dk.synced (A : Dk) : Dk := { A with sure := lays A.ws A.sure, ws := [] }

structure LoopS where
  i : Nat
  s : SS
  S : Option Addr

theorem DAt.wsAt {s : SS} {d : Nat} {A : Dk} {B : Bs} (h : DAt s d A B) {i : Nat} (hi : i < B.wl.length) : A.ws.length = B.wl.length ∧ ∃ hi' : i < A.ws.length, (A.ws[i]).1 = (B.wl[i]).1 ∧ (A.ws[i]).2 = (B.wl[i]).2.1 := by
  have e := h.ews
  have l : A.ws.length = B.wl.length := by rw [← e, List.length_map]
  have hi' : i < A.ws.length := by omega
  have e3 : A.ws[i]? = some ((B.wl[i]).1, (B.wl[i]).2.1) := by rw [← e, List.getElem?_map, List.getElem?_eq_getElem hi]; rfl
  rw [List.getElem?_eq_getElem hi'] at e3
  have e4 := Option.some.inj e3
  exact ⟨l, hi', by rw [e4], by rw [e4]⟩

/-- The row of what waits, where something waits. -/
theorem DAt.rowAt {s : SS} {d : Nat} {A : Dk} {B : Bs} (h : DAt s d A B) {i : Nat} (hi : i < B.wl.length) : ∃ bw g, lookH s.heap bw = some (.cells (wCells B.wl) tW g false) ∧
    lookH s.heap d = some (.cells [.bool true, .bool A.full, .int .i64 A.cap, .slice B.S A.sure.length 0, .slice B.N A.now.length 0, .slice (some ⟨bw, 0, none⟩) B.wl.length B.cw] tD false false) := by
  have hr := h.row
  have ho := h.obj
  unfold dCells at ho
  cases hW : B.W with
  | none =>
    rw [hW] at hr
    rw [hr.1] at hi
    simp at hi
  | some a =>
    rw [hW] at hr ho
    obtain ⟨b, off, sp⟩ := a
    obtain ⟨rfl, rfl, _, g, h4, _⟩ := hr
    exact ⟨b, g, h4, ho⟩

set_option maxHeartbeats 1000000 in
theorem sync_w {s : SS} {d : Nat} {A : Dk} {B : Bs} (h : DAt s d A B) : CallW pr n_disk_Disk_Sync [.pointer (some ⟨d, 0, none⟩)] s fun v s' => v = .int .i64 0 ∧ ∃ B', DAt s' d A.synced B' ∧ Step d s B s' B' ∧ B'.wl = [] := by
  have hcap := h.cap
  have hlws := h.lws
  have lw : A.ws.length = B.wl.length := by rw [← h.ews, List.length_map]
  have hws : ∀ w ∈ A.ws, w.1 + w.2.length ≤ A.cap := by
    intro w hw
    rw [← h.ews] at hw
    obtain ⟨x, hx, rfl⟩ := List.mem_map.1 hw
    exact (h.each x hx).2.1
  refine CallW.run good ok_disk_Disk_Sync (by simp) rfl ?_
  (repeat(first|refine pSeq ?_|refine pReg ?_|refine sCons ?_|refine sNil ?_|refine rCons ?_|refine rNil ?_|refine kNo ?_|refine pRow ?_|refine pBlock ?_|refine pSkip ?_|refine pExit ?_|refine pRet ?_|refine pCond ?_|refine gNone ?_))
  refine h.is.mono fun v s q => ?_
  obtain ⟨rfl, rfl⟩ := q
  (repeat(first|refine pSeq ?_|refine pReg ?_|refine sCons ?_|refine sNil ?_|refine rCons ?_|refine rNil ?_|refine kNo ?_|refine pRow ?_|refine pBlock ?_|refine pSkip ?_|refine pExit ?_|refine pRet ?_|refine pCond ?_|refine gNone ?_))
  refine ld1_is rfl h.obj rfl ?_
  (repeat(first|refine pSeq ?_|refine pReg ?_|refine sCons ?_|refine sNil ?_|refine rCons ?_|refine rNil ?_|refine kNo ?_|refine pRow ?_|refine pBlock ?_|refine pSkip ?_|refine pExit ?_|refine pRet ?_|refine pCond ?_|refine gNone ?_))
  refine pLoop (MW.head good (fun x : LoopS => B.wl.length - x.i) (fun x => x.i ≤ B.wl.length ∧ DAt x.s d { A with sure := lays (A.ws.take x.i) A.sure } { B with S := x.S } ∧ Step d s B x.s { B with S := x.S })
    (fun x => [(0, .pointer (some ⟨d, 0, none⟩)), (10, .int .i64 B.wl.length), (11, .int .i64 x.i)]) (fun x => x.s) ⟨0, s, B.S⟩ ⟨Nat.zero_le _, ?_, .refl _ _ _⟩ ?_ ?_)
  · simp only [List.take_zero]
    exact h
  · exact Wk.same ⟨rfl, rfl, rfl, trivial⟩
  intro ⟨i, s1, S1⟩ ⟨hi, h1, st1⟩
  dsimp only at hi h1 st1 ⊢
  (repeat(first|refine pSeq ?_|refine pReg ?_|refine sCons ?_|refine sNil ?_|refine rCons ?_|refine rNil ?_|refine kNo ?_|refine pRow ?_|refine pBlock ?_|refine pSkip ?_|refine pExit ?_|refine pRet ?_|refine pCond ?_|refine gNone ?_))
  intro q hq
  by_cases hlt : i < B.wl.length
  · obtain rfl : q = true := by rw [hq]; simp; omega
    obtain ⟨hl, hi', e1, e2⟩ := h.wsAt hlt
    have lsure := h1.lsure
    obtain ⟨bw, g, hrow, obj1⟩ := h1.rowAt hlt
    have hw := h1.each _ (List.getElem_mem hlt)
    have lw1 : (B.wl[i]).1 + (B.wl[i]).2.1.length ≤ A.cap := hw.2.1
    have ltk := lays_take hi' (b := A.sure)
    rw [e1, e2] at ltk
    have lnext := lays_len (cap := A.cap) (ws := A.ws.take (i + 1)) h.lsure (fun w hw => hws w (List.mem_of_mem_take hw))
    (repeat(first|refine pSeq ?_|refine pReg ?_|refine sCons ?_|refine sNil ?_|refine rCons ?_|refine rNil ?_|refine kNo ?_|refine pRow ?_|refine pBlock ?_|refine pSkip ?_|refine pExit ?_|refine pRet ?_|refine pCond ?_|refine gNone ?_))
    refine ld1_is rfl obj1 rfl ?_
    (repeat(first|refine pSeq ?_|refine pReg ?_|refine sCons ?_|refine sNil ?_|refine rCons ?_|refine rNil ?_|refine kNo ?_|refine pRow ?_|refine pBlock ?_|refine pSkip ?_|refine pExit ?_|refine pRet ?_|refine pCond ?_|refine gNone ?_))
    refine ld1_is rfl obj1 rfl ?_
    (repeat(first|refine pSeq ?_|refine pReg ?_|refine sCons ?_|refine sNil ?_|refine rCons ?_|refine rNil ?_|refine kNo ?_|refine pRow ?_|refine pBlock ?_|refine pSkip ?_|refine pExit ?_|refine pRet ?_|refine pCond ?_|refine gNone ?_))
    refine ⟨⟨by omega, Int.ofNat_lt.2 hlt⟩, ?_⟩
    intro m hm o ho
    obtain rfl : m = i := by omega
    rw [Nat.zero_add, Nat.mul_comm] at ho
    subst ho
    (repeat(first|refine pSeq ?_|refine pReg ?_|refine sCons ?_|refine sNil ?_|refine rCons ?_|refine rNil ?_|refine kNo ?_|refine pRow ?_|refine pBlock ?_|refine pSkip ?_|refine pExit ?_|refine pRet ?_|refine pCond ?_|refine gNone ?_))
    refine ldN_is rfl hrow (wCells_at hlt) ?_
    (repeat(first|refine pSeq ?_|refine pReg ?_|refine sCons ?_|refine sNil ?_|refine rCons ?_|refine rNil ?_|refine kNo ?_|refine pRow ?_|refine pBlock ?_|refine pSkip ?_|refine pExit ?_|refine pRet ?_|refine pCond ?_|refine gNone ?_))
    refine ld1_is rfl obj1 rfl ?_
    (repeat(first|refine pSeq ?_|refine pReg ?_|refine sCons ?_|refine sNil ?_|refine rCons ?_|refine rNil ?_|refine kNo ?_|refine pRow ?_|refine pBlock ?_|refine pSkip ?_|refine pExit ?_|refine pRet ?_|refine pCond ?_|refine gNone ?_))
    refine ⟨⟨by omega, Int.ofNat_lt.2 hlt⟩, ?_⟩
    intro m' hm o ho
    obtain rfl : m' = m := by omega
    rw [Nat.zero_add, Nat.mul_comm] at ho
    subst ho
    (repeat(first|refine pSeq ?_|refine pReg ?_|refine sCons ?_|refine sNil ?_|refine rCons ?_|refine rNil ?_|refine kNo ?_|refine pRow ?_|refine pBlock ?_|refine pSkip ?_|refine pExit ?_|refine pRet ?_|refine pCond ?_|refine gNone ?_))
    refine ld1_is rfl hrow (wCells_get hlt).1 ?_
    (repeat(first|refine pSeq ?_|refine pReg ?_|refine sCons ?_|refine sNil ?_|refine rCons ?_|refine rNil ?_|refine kNo ?_|refine pRow ?_|refine pBlock ?_|refine pSkip ?_|refine pExit ?_|refine pRet ?_|refine pCond ?_|refine gNone ?_))
    refine (lay_w (B := S1) (X := (B.wl[m']).2.2) (l := (B.wl[m']).2.1) (cx := 0) (k := (B.wl[m']).1) (many := ((B.wl[m']).2.1.length : Int)) h1.sure (hw.1.slc sz_B) (by omega) (by show (lays (A.ws.take m') A.sure).length ≤ _; have : (lays (A.ws.take m') A.sure).length ≤ A.cap := lsure; omega) (by omega) (by omega) (fun id q => (hw.2.2 id q).1)).mono fun v s6 q => ?_
    obtain ⟨S', rfl, o6, c6, f6⟩ := q
    rw [Int.toNat_natCast, List.take_of_length_le (Nat.le_refl _)] at *
    obtain ⟨b1, b2, b3, b4⟩ := h1.apart
    have hobj6 := c6.blk d _ h1.lt (fun q => b1 d q rfl) h1.obj
    rw [← ltk] at o6 ⊢
    (repeat(first|refine pSeq ?_|refine pReg ?_|refine sCons ?_|refine sNil ?_|refine rCons ?_|refine rNil ?_|refine kNo ?_|refine pRow ?_|refine pBlock ?_|refine pSkip ?_|refine pExit ?_|refine pRet ?_|refine pCond ?_|refine gNone ?_))
    refine st_abs (cs' := dCells { A with sure := lays (A.ws.take (m' + 1)) A.sure } { B with S := S' }) rfl rfl hobj6 (Nat.lt_of_lt_of_le h1.lt c6.next) rfl rfl fun s7 hobj7 c7 hn7 => ?_
    obtain ⟨h7, st7⟩ := h1.newS o6 c6 f6 lnext hobj7 c7
    (repeat(first|refine pSeq ?_|refine pReg ?_|refine sCons ?_|refine sNil ?_|refine rCons ?_|refine rNil ?_|refine kNo ?_|refine pRow ?_|refine pBlock ?_|refine pSkip ?_|refine pExit ?_|refine pRet ?_|refine pCond ?_|refine gNone ?_))
    intro z hz
    rw [i64_id (by omega)] at hz
    (repeat(first|refine pSeq ?_|refine pReg ?_|refine sCons ?_|refine sNil ?_|refine rCons ?_|refine rNil ?_|refine kNo ?_|refine pRow ?_|refine pBlock ?_|refine pSkip ?_|refine pExit ?_|refine pRet ?_|refine pCond ?_|refine gNone ?_))
    refine ⟨⟨m' + 1, s7, S'⟩, ⟨hlt, h7, st1.trans st7⟩, by dsimp only; omega, Wk.same ⟨rfl, rfl, ?_, trivial⟩⟩
    subst hz
    rfl
  · obtain rfl : q = false := by rw [hq]; simp; omega
    obtain rfl : i = B.wl.length := by omega
    rw [List.take_of_length_le (by omega)] at h1
    (repeat(first|refine pSeq ?_|refine pReg ?_|refine sCons ?_|refine sNil ?_|refine rCons ?_|refine rNil ?_|refine kNo ?_|refine pRow ?_|refine pBlock ?_|refine pSkip ?_|refine pExit ?_|refine pRet ?_|refine pCond ?_|refine gNone ?_))
    obtain ⟨b1, b2, b3, b4⟩ := h1.apart
    refine st_abs (cs' := dCells A.synced { B with S := S1, W := none, cw := 0, wl := [] }) rfl rfl h1.obj h1.lt rfl rfl fun s7 hobj7 c7 hn7 => ?_
    obtain ⟨h7, st7⟩ := h1.noW hobj7 c7
    (repeat(first|refine pSeq ?_|refine pReg ?_|refine sCons ?_|refine sNil ?_|refine rCons ?_|refine rNil ?_|refine kNo ?_|refine pRow ?_|refine pBlock ?_|refine pSkip ?_|refine pExit ?_|refine pRet ?_|refine pCond ?_|refine gNone ?_))
    exact ⟨rfl, _, h7, st1.trans st7, rfl⟩
end Go.Vf.S
