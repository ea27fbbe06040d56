import Derived.Test.YtnafoonbjhoolaaDkQ
/- The document's own disk: Sync, Crash, Read. -/
namespace Go.Vf.S
open Go Go.Vf
attribute [local irreducible] wSeq wRow wp
set_option linter.unusedVariables false
set_option linter.unusedSimpArgs false
set_option maxRecDepth 10000

theorem RStep.refl (r : Nat) (s : SS) (R : RB) : RStep r s R s R := ⟨.refl _ _, fun id q => .inl q, fun id q => .inl q⟩
theorem RStep.of {r : Nat} {s s' : SS} {R : RB} (c : Chg s s' []) : RStep r s R s' R := ⟨c.sub (by simp), fun id q => .inl q, fun id q => .inl q⟩
theorem RStep.trans {r : Nat} {s s1 s2 : SS} {R R1 R2 : RB} (h : RStep r s R s1 R1) (k : RStep r s1 R1 s2 R2) : RStep r s R s2 R2 := by
  have := h.chg.next
  refine ⟨h.chg.trans' k.chg (fun id q _ => q) (fun id q hid => ?_), fun id q => ?_, fun id q => ?_⟩
  · rcases h.ft id q with r | r
    · exact r
    · omega
  · rcases k.ft id q with r | r
    · exact h.ft id r
    · exact .inr (by omega)
  · rcases k.al id q with r | r
    · exact h.al id r
    · exact .inr (by omega)
theorem RAt.foot3 {s : SS} {r : Nat} {A : Dk} {R : RB} (h : RAt s r A R) {b : Nat} {c : List Value} {t : TypeId} {g ro : Bool} (hb : lookH s.heap b = some (.cells c t g ro)) (ht : t ≠ tR ∧ t ≠ tV) : b ∉ rfoot r R := by
  intro q
  simp only [rfoot, List.mem_cons] at q
  rcases q with rfl | q
  · exact type_ne hb h.obj ht.1 rfl
  · obtain ⟨_, e⟩ := h.row.at _ q; exact type_ne hb e ht.2 rfl
theorem RAt.footR {s : SS} {r : Nat} {A : Dk} {R : RB} (h : RAt s r A R) {b : Nat} {c : List Value} {t : TypeId} {g : Bool} (hb : lookH s.heap b = some (.cells c t g true)) : b ∉ rwhole r R := by
  intro q
  simp only [rwhole, rfoot, rbytes, List.mem_append, List.mem_cons, List.mem_flatMap] at q
  rcases q with (rfl | q) | (q | ⟨w, hw, q⟩)
  · exact ro_ne hb h.obj rfl
  · obtain ⟨_, e⟩ := h.row.at _ q; exact ro_ne hb e rfl
  · obtain ⟨_, e⟩ := h.sure.at _ q; exact ro_ne hb e rfl
  · obtain ⟨_, e⟩ := (h.each w hw).1.at _ q; exact ro_ne hb e rfl

theorem rsync_w {s : SS} {r : Nat} {A : Dk} {R : RB} (h : RAt s r A R) : CallW pr n_ref01_Disk_Sync [.pointer (some ⟨r, 0, none⟩)] s fun _ s' => ∃ R', RAt s' r A.synced R' ∧ RStep r s R s' R' ∧ R'.wl = [] := by
  obtain ⟨a1, a2, a3, a4⟩ := h.apart
  have hlt := h.lt
  have lsn := lays_len (cap := A.cap) (ws := A.ws) h.lsure h.wsle
  refine CallW.run good ok_ref01_Disk_Sync (by simp) rfl ?_
  (repeat (first | refine pSeq ?_ | refine pReg ?_ | refine sRaw ?_ | refine sCons ?_ | refine sNil ?_ | refine rCons ?_ | refine rNil ?_ | refine kNo ?_ | refine pRow ?_ | refine pBlock ?_ | refine pSkip ?_ | refine pExit ?_ | refine pRet ?_ | refine pCond ?_ | refine gNone ?_ | refine gOn rfl ?_ | refine gOff rfl rfl ?_))
  refine (seen_w h).mono fun v s1 q => ?_
  obtain ⟨O, rfl, o1, n1, c1⟩ := q
  have h1 := h.chg c1 (fun _ _ => by simp)
  have hO : ∀ id ∈ blkOf O, r ≠ id := fun id q => by
    rcases n1 id q with q | q
    · exact a1 id q
    · omega
  (repeat (first | refine pSeq ?_ | refine pReg ?_ | refine sRaw ?_ | refine sCons ?_ | refine sNil ?_ | refine rCons ?_ | refine rNil ?_ | refine kNo ?_ | refine pRow ?_ | refine pBlock ?_ | refine pSkip ?_ | refine pExit ?_ | refine pRet ?_ | refine pCond ?_ | refine gNone ?_ | refine gOn rfl ?_ | refine gOff rfl rfl ?_))
  refine st_abs (cs' := [.int .i64 A.cap, .bool A.full, .slice O (lays A.ws A.sure).length 0, .slice R.W R.wl.length R.cw]) rfl rfl h1.obj h1.lt rfl rfl fun s2 obj2 c2 n2 => ?_
  (repeat (first | refine pSeq ?_ | refine pReg ?_ | refine sRaw ?_ | refine sCons ?_ | refine sNil ?_ | refine rCons ?_ | refine rNil ?_ | refine kNo ?_ | refine pRow ?_ | refine pBlock ?_ | refine pSkip ?_ | refine pExit ?_ | refine pRet ?_ | refine pCond ?_ | refine gNone ?_ | refine gOn rfl ?_ | refine gOff rfl rfl ?_))
  refine st_abs (cs' := rCells A.synced ⟨O, none, 0, []⟩) rfl rfl obj2 (by have := h1.lt; omega) rfl rfl fun s3 obj3 c3 n3 => ?_
  (repeat (first | refine pSeq ?_ | refine pReg ?_ | refine sRaw ?_ | refine sCons ?_ | refine sNil ?_ | refine rCons ?_ | refine rNil ?_ | refine kNo ?_ | refine pRow ?_ | refine pBlock ?_ | refine pSkip ?_ | refine pExit ?_ | refine pRet ?_ | refine pCond ?_ | refine gNone ?_ | refine gOn rfl ?_ | refine gOff rfl rfl ?_))
  obtain ⟨f1, f2⟩ := h.turn (A' := A.synced) (R' := ⟨O, none, 0, []⟩) (c1.sub (by simp)) (c2.trans' c3 (fun id q _ => q) (fun id q _ => q)) obj3
    ((o1.chg c2 (fun id q1 q2 => hO id q1 (List.mem_singleton.1 q2).symm)).chg c3 (fun id q1 q2 => hO id q1 (List.mem_singleton.1 q2).symm)) ⟨rfl, rfl, rfl⟩ (fun w hw => by simp at hw) rfl lsn (Nat.zero_le _) rfl (fun id q => by simp [blkOf] at q) n1
  exact ⟨_, f1, f2, rfl⟩

theorem lays_append (a b : List (Nat × List UInt8)) (l : List UInt8) : lays (a ++ b) l = lays b (lays a l) := by simp [lays, List.foldl_append]
theorem lays_empty : ∀ {ws : List (Nat × List UInt8)} {b : List UInt8}, (∀ w ∈ ws, w.2 = []) → lays ws b = b
  | [], b, _ => rfl
  | w :: ws, b, h => by
    show lays ws (layF b w.1 w.2) = b
    rw [h w (List.mem_cons_self ..)]
    have e : layF b w.1 [] = b := by unfold layF; rw [if_pos rfl]
    rw [e]
    exact lays_empty fun x hx => h x (List.mem_cons_of_mem _ hx)
theorem cutW_front (ws : List (Nat × List UInt8)) (zs : List Int) (b : List UInt8) : lays ((cutW ws zs).take zs.length) b = lays (cutW ws zs) b := by
  have e := lays_append ((cutW ws zs).take zs.length) ((cutW ws zs).drop zs.length) b
  rw [List.take_append_drop] at e
  have hz : ∀ w ∈ (cutW ws zs).drop zs.length, w.2 = [] := by
    intro w hw
    obtain ⟨i, hi⟩ := List.getElem?_of_mem hw
    rw [List.getElem?_drop] at hi
    simp only [cutW, List.getElem?_mapIdx] at hi
    cases hx : ws[zs.length + i]? with
    | none => rw [hx] at hi; cases hi
    | some x =>
      rw [hx] at hi
      cases hi
      have e0 : zs.getD (zs.length + i) 0 = 0 := by rw [List.getD, List.getElem?_eq_none (by omega)]; rfl
      show x.2.take (max (zs.getD (zs.length + i) 0) 0).toNat = []
      rw [e0]
      rfl
  rw [e, lays_empty hz]

set_option maxHeartbeats 1000000 in
theorem rcrash_w {s : SS} {r : Nat} {A : Dk} {R : RB} {kb : Option Addr} {kc : Nat} {zs : List Int} (h : RAt s r A R) (hk : RdI s kb zs.length zs) :
    CallW pr n_ref01_Disk_Crash [.pointer (some ⟨r, 0, none⟩), .slice kb zs.length kc] s fun _ s' => ∃ R', RAt s' r (A.crashed zs) R' ∧ RStep r s R s' R' ∧ R'.wl = [] := by
  have hcap := h.cap
  have hlws := h.lws
  have lw : A.ws.length = R.wl.length := by rw [← h.ews, List.length_map]
  have hws : ∀ w ∈ cutW A.ws zs, w.1 + w.2.length ≤ A.cap := by
    intro w hw
    obtain ⟨x, hx, e1, e2⟩ := cutW_mem hw
    have := h.wsle x hx
    omega
  have hcl : (cutW A.ws zs).length = R.wl.length := by simp [cutW, lw]
  refine CallW.run good ok_ref01_Disk_Crash (by simp) rfl ?_
  (repeat (first | refine pSeq ?_ | refine pReg ?_ | refine sRaw ?_ | refine sCons ?_ | refine sNil ?_ | refine rCons ?_ | refine rNil ?_ | refine kNo ?_ | refine pRow ?_ | refine pBlock ?_ | refine pSkip ?_ | refine pExit ?_ | refine pRet ?_ | refine pCond ?_ | refine gNone ?_ | refine gOn rfl ?_ | refine gOff rfl rfl ?_))
  refine pLoop (MW.head good (fun x : LoopS => R.wl.length - x.i) (fun x => x.i ≤ R.wl.length ∧ x.i ≤ zs.length ∧ RAt x.s r { A with sure := lays ((cutW A.ws zs).take x.i) A.sure } { R with S := x.S } ∧ RStep r s R x.s { R with S := x.S } ∧ RdI x.s kb zs.length zs)
    (fun x => [(0, .pointer (some ⟨r, 0, none⟩)), (1, .slice kb zs.length kc), (4, .int .i64 x.i)]) (fun x => x.s) ⟨0, s, R.S⟩ ⟨Nat.zero_le _, Nat.zero_le _, ?_, .refl _ _ _, hk⟩ ?_ ?_)
  · simp only [List.take_zero]
    exact h
  · exact Wk.same ⟨rfl, rfl, rfl, trivial⟩
  intro ⟨i, s1, S1⟩ ⟨hi, hiz, h1, st1, hk1⟩
  dsimp only at hi hiz h1 st1 hk1 ⊢
  obtain ⟨a1, a2, a3, a4⟩ := h1.apart
  have ltr := h1.lt
  have lb := lays_len (cap := A.cap) (ws := (cutW A.ws zs).take i) h.lsure (fun w hw => hws w (List.mem_of_mem_take hw))
  have fin : i = R.wl.length ∨ i = zs.length → lays ((cutW A.ws zs).take i) A.sure = lays (cutW A.ws zs) A.sure := by
    rintro (e | e)
    · rw [List.take_of_length_le (by omega)]
    · rw [e]; exact cutW_front _ _ _
  (repeat (first | refine pSeq ?_ | refine pReg ?_ | refine sRaw ?_ | refine sCons ?_ | refine sNil ?_ | refine rCons ?_ | refine rNil ?_ | refine kNo ?_ | refine pRow ?_ | refine pBlock ?_ | refine pSkip ?_ | refine pExit ?_ | refine pRet ?_ | refine pCond ?_ | refine gNone ?_ | refine gOn rfl ?_ | refine gOff rfl rfl ?_))
  refine ld1_is rfl h1.obj rfl ?_
  (repeat (first | refine pSeq ?_ | refine pReg ?_ | refine sRaw ?_ | refine sCons ?_ | refine sNil ?_ | refine rCons ?_ | refine rNil ?_ | refine kNo ?_ | refine pRow ?_ | refine pBlock ?_ | refine pSkip ?_ | refine pExit ?_ | refine pRet ?_ | refine pCond ?_ | refine gNone ?_ | refine gOn rfl ?_ | refine gOff rfl rfl ?_))
  intro q hq
  by_cases hlt : i < R.wl.length
  · obtain rfl : q = true := by rw [hq]; simp; omega
    (repeat (first | refine pSeq ?_ | refine pReg ?_ | refine sRaw ?_ | refine sCons ?_ | refine sNil ?_ | refine rCons ?_ | refine rNil ?_ | refine kNo ?_ | refine pRow ?_ | refine pBlock ?_ | refine pSkip ?_ | refine pExit ?_ | refine pRet ?_ | refine pCond ?_ | refine gNone ?_ | refine gOn rfl ?_ | refine gOff rfl rfl ?_))
    intro q hq
    by_cases hltz : i < zs.length
    · obtain rfl : q = true := by rw [hq]; simp; omega
      obtain ⟨hl, hi', e1, e2⟩ := h.wsAt hlt
      obtain ⟨bw, g, hrow, obj1⟩ := h1.rowAt hlt
      have hw := h1.each _ (List.getElem_mem hlt)
      have lw1 : (R.wl[i]).1 + (R.wl[i]).2.1.length ≤ A.cap := hw.2
      have hic : i < (cutW A.ws zs).length := by omega
      have ltk := lays_take hic (b := A.sure)
      have hci : (cutW A.ws zs)[i] = ((R.wl[i]).1, (R.wl[i]).2.1.take (zs.getD i 0).toNat) := by
        simp only [cutW, List.getElem_mapIdx, e1, e2]
        rw [show (max (zs.getD i 0) 0).toNat = (zs.getD i 0).toNat from by omega]
      rw [hci] at ltk
      have lnext := lays_len (cap := A.cap) (ws := (cutW A.ws zs).take (i + 1)) h.lsure (fun w hw => hws w (List.mem_of_mem_take hw))
      cases kb with
      | none =>
        have : zs = [] := hk1.2
        have l0 : zs.length = 0 := by rw [this]; rfl
        omega
      | some ak =>
      obtain ⟨bk, ok, sk⟩ := ak
      obtain ⟨-, rfl, ltk2, kcs, kg, kro, hbk, hkat⟩ := hk1
      (repeat (first | refine pSeq ?_ | refine pReg ?_ | refine sRaw ?_ | refine sCons ?_ | refine sNil ?_ | refine rCons ?_ | refine rNil ?_ | refine kNo ?_ | refine pRow ?_ | refine pBlock ?_ | refine pSkip ?_ | refine pExit ?_ | refine pRet ?_ | refine pCond ?_ | refine gNone ?_ | refine gOn rfl ?_ | refine gOff rfl rfl ?_))
      refine ld1_is rfl obj1 rfl ?_
      (repeat (first | refine pSeq ?_ | refine pReg ?_ | refine sRaw ?_ | refine sCons ?_ | refine sNil ?_ | refine rCons ?_ | refine rNil ?_ | refine kNo ?_ | refine pRow ?_ | refine pBlock ?_ | refine pSkip ?_ | refine pExit ?_ | refine pRet ?_ | refine pCond ?_ | refine gNone ?_ | refine gOn rfl ?_ | refine gOff rfl rfl ?_))
      refine ld1_is rfl obj1 rfl ?_
      (repeat (first | refine pSeq ?_ | refine pReg ?_ | refine sRaw ?_ | refine sCons ?_ | refine sNil ?_ | refine rCons ?_ | refine rNil ?_ | refine kNo ?_ | refine pRow ?_ | refine pBlock ?_ | refine pSkip ?_ | refine pExit ?_ | refine pRet ?_ | refine pCond ?_ | refine gNone ?_ | refine gOn rfl ?_ | refine gOff rfl rfl ?_))
      refine ⟨⟨by omega, Int.ofNat_lt.2 hlt⟩, ?_⟩
      intro m hm o ho
      obtain rfl : m = i := by omega
      rw [Nat.zero_add, Nat.mul_comm] at ho
      subst ho
      (repeat (first | refine pSeq ?_ | refine pReg ?_ | refine sRaw ?_ | refine sCons ?_ | refine sNil ?_ | refine rCons ?_ | refine rNil ?_ | refine kNo ?_ | refine pRow ?_ | refine pBlock ?_ | refine pSkip ?_ | refine pExit ?_ | refine pRet ?_ | refine pCond ?_ | refine gNone ?_ | refine gOn rfl ?_ | refine gOff rfl rfl ?_))
      refine ldN_is rfl hrow (wCells_at hlt) ?_
      (repeat (first | refine pSeq ?_ | refine pReg ?_ | refine sRaw ?_ | refine sCons ?_ | refine sNil ?_ | refine rCons ?_ | refine rNil ?_ | refine kNo ?_ | refine pRow ?_ | refine pBlock ?_ | refine pSkip ?_ | refine pExit ?_ | refine pRet ?_ | refine pCond ?_ | refine gNone ?_ | refine gOn rfl ?_ | refine gOff rfl rfl ?_))
      refine ⟨⟨by omega, Int.ofNat_lt.2 hltz⟩, ?_⟩
      intro m' hm o ho
      obtain rfl : m' = m := by omega
      rw [Nat.mul_one] at ho
      subst ho
      (repeat (first | refine pSeq ?_ | refine pReg ?_ | refine sRaw ?_ | refine sCons ?_ | refine sNil ?_ | refine rCons ?_ | refine rNil ?_ | refine kNo ?_ | refine pRow ?_ | refine pBlock ?_ | refine pSkip ?_ | refine pExit ?_ | refine pRet ?_ | refine pCond ?_ | refine gNone ?_ | refine gOn rfl ?_ | refine gOff rfl rfl ?_))
      refine ldI_is rfl hbk (hkat m' hltz) ?_
      (repeat (first | refine pSeq ?_ | refine pReg ?_ | refine sRaw ?_ | refine sCons ?_ | refine sNil ?_ | refine rCons ?_ | refine rNil ?_ | refine kNo ?_ | refine pRow ?_ | refine pBlock ?_ | refine pSkip ?_ | refine pExit ?_ | refine pRet ?_ | refine pCond ?_ | refine gNone ?_ | refine gOn rfl ?_ | refine gOff rfl rfl ?_))
      refine (rlay_w (X := (R.wl[m']).2.2) (xl := (R.wl[m']).2.1) (cx := 0) (k := (R.wl[m']).1) (many := zs.getD m' 0) h1.sure.rdb hw.1.rdb (by omega) (by show (lays ((cutW A.ws zs).take m') A.sure).length ≤ _; omega) (by omega)).mono fun v s6 q => ?_
      obtain ⟨S', rfl, o6, n6, c6⟩ := q
      rw [← ltk] at o6 ⊢
      have obj6 := c6.blk r _ h1.lt (by simp) h1.obj
      (repeat (first | refine pSeq ?_ | refine pReg ?_ | refine sRaw ?_ | refine sCons ?_ | refine sNil ?_ | refine rCons ?_ | refine rNil ?_ | refine kNo ?_ | refine pRow ?_ | refine pBlock ?_ | refine pSkip ?_ | refine pExit ?_ | refine pRet ?_ | refine pCond ?_ | refine gNone ?_ | refine gOn rfl ?_ | refine gOff rfl rfl ?_))
      refine st_abs (cs' := rCells { A with sure := lays ((cutW A.ws zs).take (m' + 1)) A.sure } { R with S := S' }) rfl rfl obj6 (Nat.lt_of_lt_of_le h1.lt c6.next) rfl rfl fun s7 hobj7 c7 hn7 => ?_
      obtain ⟨h7, st7⟩ := h1.turn (A' := { A with sure := lays ((cutW A.ws zs).take (m' + 1)) A.sure }) (R' := { R with S := S' }) (c6.sub (by simp)) c7 hobj7 (o6.chg c7 (fun id q1 q2 => by have := n6 id q1; have := List.mem_singleton.1 q2; omega))
        ((h1.row.chg c6 (fun _ _ => by simp)).chg c7 (fun id q1 q2 => a2 id q1 (List.mem_singleton.1 q2).symm)) (fun w hw => .inl hw) rfl lnext h.lws h.ews (fun id q => .inl q) (fun id q => .inr (n6 id q))
      (repeat (first | refine pSeq ?_ | refine pReg ?_ | refine sRaw ?_ | refine sCons ?_ | refine sNil ?_ | refine rCons ?_ | refine rNil ?_ | refine kNo ?_ | refine pRow ?_ | refine pBlock ?_ | refine pSkip ?_ | refine pExit ?_ | refine pRet ?_ | refine pCond ?_ | refine gNone ?_ | refine gOn rfl ?_ | refine gOff rfl rfl ?_))
      intro z hz
      rw [i64_id (by omega)] at hz
      (repeat (first | refine pSeq ?_ | refine pReg ?_ | refine sRaw ?_ | refine sCons ?_ | refine sNil ?_ | refine rCons ?_ | refine rNil ?_ | refine kNo ?_ | refine pRow ?_ | refine pBlock ?_ | refine pSkip ?_ | refine pExit ?_ | refine pRet ?_ | refine pCond ?_ | refine gNone ?_ | refine gOn rfl ?_ | refine gOff rfl rfl ?_))
      have hk7 : RdI s7 (some ⟨bk, ok, none⟩) zs.length zs := (show RdI s1 (some ⟨bk, ok, none⟩) zs.length zs from ⟨rfl, rfl, ltk2, kcs, kg, kro, hbk, hkat⟩).chg st7.chg (fun id q1 q2 => by
        simp only [blkOf, List.mem_singleton] at q1
        subst q1
        exact h1.foot3 hbk ⟨by decide, by decide⟩ q2)
      refine ⟨⟨m' + 1, s7, S'⟩, ⟨hlt, hltz, h7, st1.trans st7, hk7⟩, by dsimp only; omega, Wk.same ⟨rfl, rfl, ?_, trivial⟩⟩
      subst hz
      rfl
    · obtain rfl : q = false := by rw [hq]; simp; omega
      have e := fin (.inr (by omega))
      rw [e] at h1
      (repeat (first | refine pSeq ?_ | refine pReg ?_ | refine sRaw ?_ | refine sCons ?_ | refine sNil ?_ | refine rCons ?_ | refine rNil ?_ | refine kNo ?_ | refine pRow ?_ | refine pBlock ?_ | refine pSkip ?_ | refine pExit ?_ | refine pRet ?_ | refine pCond ?_ | refine gNone ?_ | refine gOn rfl ?_ | refine gOff rfl rfl ?_))
      refine st_abs (cs' := rCells (A.crashed zs) { R with S := S1, W := none, cw := 0, wl := [] }) rfl rfl h1.obj h1.lt rfl rfl fun s7 hobj7 c7 hn7 => ?_
      obtain ⟨h7, st7⟩ := h1.turn (A' := A.crashed zs) (R' := { R with S := S1, W := none, cw := 0, wl := [] }) (.refl _ _) c7 hobj7 (h1.sure.chg c7 (fun id q1 q2 => a1 id q1 (List.mem_singleton.1 q2).symm)) ⟨rfl, rfl, rfl⟩ (fun w hw => by simp at hw) rfl h1.lsure (Nat.zero_le _) rfl (fun id q => by simp [blkOf] at q) (fun id q => .inl q)
      (repeat (first | refine pSeq ?_ | refine pReg ?_ | refine sRaw ?_ | refine sCons ?_ | refine sNil ?_ | refine rCons ?_ | refine rNil ?_ | refine kNo ?_ | refine pRow ?_ | refine pBlock ?_ | refine pSkip ?_ | refine pExit ?_ | refine pRet ?_ | refine pCond ?_ | refine gNone ?_ | refine gOn rfl ?_ | refine gOff rfl rfl ?_))
      exact ⟨_, h7, st1.trans st7, rfl⟩
  · obtain rfl : q = false := by rw [hq]; simp; omega
    have e := fin (.inl (by omega))
    rw [e] at h1
    (repeat (first | refine pSeq ?_ | refine pReg ?_ | refine sRaw ?_ | refine sCons ?_ | refine sNil ?_ | refine rCons ?_ | refine rNil ?_ | refine kNo ?_ | refine pRow ?_ | refine pBlock ?_ | refine pSkip ?_ | refine pExit ?_ | refine pRet ?_ | refine pCond ?_ | refine gNone ?_ | refine gOn rfl ?_ | refine gOff rfl rfl ?_))
    refine st_abs (cs' := rCells (A.crashed zs) { R with S := S1, W := none, cw := 0, wl := [] }) rfl rfl h1.obj h1.lt rfl rfl fun s7 hobj7 c7 hn7 => ?_
    obtain ⟨h7, st7⟩ := h1.turn (A' := A.crashed zs) (R' := { R with S := S1, W := none, cw := 0, wl := [] }) (.refl _ _) c7 hobj7 (h1.sure.chg c7 (fun id q1 q2 => a1 id q1 (List.mem_singleton.1 q2).symm)) ⟨rfl, rfl, rfl⟩ (fun w hw => by simp at hw) rfl h1.lsure (Nat.zero_le _) rfl (fun id q => by simp [blkOf] at q) (fun id q => .inl q)
    (repeat (first | refine pSeq ?_ | refine pReg ?_ | refine sRaw ?_ | refine sCons ?_ | refine sNil ?_ | refine rCons ?_ | refine rNil ?_ | refine kNo ?_ | refine pRow ?_ | refine pBlock ?_ | refine pSkip ?_ | refine pExit ?_ | refine pRet ?_ | refine pCond ?_ | refine gNone ?_ | refine gOn rfl ?_ | refine gOff rfl rfl ?_))
    exact ⟨_, h7, st1.trans st7, rfl⟩

set_option maxHeartbeats 1000000 in
theorem rread_w {s : SS} {r : Nat} {A : Dk} {R : RB} {k m : Int} (h : RAt s r A R) (hI : A.Inv) (hn : A.now.length ≤ 1048576) (hk : -9223372036854775808 ≤ k ∧ k ≤ 9223372036854775807) :
    CallW pr n_ref01_Disk_Read [.pointer (some ⟨r, 0, none⟩), .int .i64 k, .int .i64 m] s fun v s' => ∃ b', v = .slice b' (A.read k m).length 0 ∧ Own tB s' b' (A.read k m) ∧ NewA s b' ∧ Chg s s' [] := by
  have hI' : lays A.ws A.sure = A.now := hI.symm
  refine CallW.run good ok_ref01_Disk_Read (by simp) rfl ?_
  (repeat (first | refine pSeq ?_ | refine pReg ?_ | refine sRaw ?_ | refine sCons ?_ | refine sNil ?_ | refine rCons ?_ | refine rNil ?_ | refine kNo ?_ | refine pRow ?_ | refine pBlock ?_ | refine pSkip ?_ | refine pExit ?_ | refine pRet ?_ | refine pCond ?_ | refine gNone ?_ | refine gOn rfl ?_ | refine gOff rfl rfl ?_))
  refine (seen_w h).mono fun v s1 q => ?_
  obtain ⟨O, rfl, o1, n1, c1⟩ := q
  rw [hI'] at *
  have x1 := c1.next
  by_cases h0 : k < 0
  · have e : A.read k m = [] := by unfold Dk.read; rw [if_pos (.inl h0)]
    rw [e]
    (repeat (first | refine pSeq ?_ | refine pReg ?_ | refine sRaw ?_ | refine sCons ?_ | refine sNil ?_ | refine rCons ?_ | refine rNil ?_ | refine kNo ?_ | refine pRow ?_ | refine pBlock ?_ | refine pSkip ?_ | refine pExit ?_ | refine pRet ?_ | refine pCond ?_ | refine gNone ?_ | refine gOn rfl ?_ | refine gOff rfl rfl ?_))
    refine pLoop (MW.head good (fun _ : Unit => 0) (fun _ => True) (fun _ => [(1, .int .i64 k), (2, .int .i64 m), (7, .slice none 0 0), (8, .slice O A.now.length 0), (9, .int .i64 k)]) (fun _ => s1) () trivial (Wk.same ⟨rfl, rfl, rfl, rfl, rfl, trivial⟩) ?_)
    intro _ _
    (repeat (first | refine pSeq ?_ | refine pReg ?_ | refine sRaw ?_ | refine sCons ?_ | refine sNil ?_ | refine rCons ?_ | refine rNil ?_ | refine kNo ?_ | refine pRow ?_ | refine pBlock ?_ | refine pSkip ?_ | refine pExit ?_ | refine pRet ?_ | refine pCond ?_ | refine gNone ?_ | refine gOn rfl ?_ | refine gOff rfl rfl ?_))
    intro q hq
    obtain rfl : q = false := by rw [hq]; simp; omega
    (repeat (first | refine pSeq ?_ | refine pReg ?_ | refine sRaw ?_ | refine sCons ?_ | refine sNil ?_ | refine rCons ?_ | refine rNil ?_ | refine kNo ?_ | refine pRow ?_ | refine pBlock ?_ | refine pSkip ?_ | refine pExit ?_ | refine pRet ?_ | refine pCond ?_ | refine gNone ?_ | refine gOn rfl ?_ | refine gOff rfl rfl ?_))
    exact ⟨none, rfl, rfl, (fun id q => by simp [blkOf] at q), c1⟩
  obtain ⟨k, rfl⟩ := Int.eq_ofNat_of_zero_le (show 0 ≤ k by omega)
  obtain ⟨L, hL⟩ : ∃ L, L = (A.now.drop k).take m.toNat := ⟨_, rfl⟩
  have lL : L.length = min m.toNat (A.now.length - k) := by rw [hL, List.length_take, List.length_drop]
  have e : A.read k m = L := by
    unfold Dk.read
    split
    · rename_i q
      refine (List.eq_nil_of_length_eq_zero ?_).symm
      omega
    · rw [hL, Int.toNat_natCast]
  rw [e]
  (repeat (first | refine pSeq ?_ | refine pReg ?_ | refine sRaw ?_ | refine sCons ?_ | refine sNil ?_ | refine rCons ?_ | refine rNil ?_ | refine kNo ?_ | refine pRow ?_ | refine pBlock ?_ | refine pSkip ?_ | refine pExit ?_ | refine pRet ?_ | refine pCond ?_ | refine gNone ?_ | refine gOn rfl ?_ | refine gOff rfl rfl ?_))
  refine pLoop (MW.head good (fun x : LayS => L.length - x.i) (fun x => x.i ≤ L.length ∧ Own tB x.s x.O (L.take x.i) ∧ NewA s1 x.O ∧ Chg s1 x.s [])
    (fun x => [(1, .int .i64 k), (2, .int .i64 m), (7, .slice x.O x.i 0), (8, .slice O A.now.length 0), (9, .int .i64 (k + x.i : Nat))]) (fun x => x.s) ⟨0, s1, none⟩ ⟨Nat.zero_le _, by simp only [List.take_zero]; rfl, (fun id q => by simp [blkOf] at q), .refl _ _⟩ ?_ ?_)
  · exact Wk.same ⟨rfl, rfl, rfl, rfl, rfl, trivial⟩
  intro ⟨i, s2, O2⟩ ⟨hi, o2, n2, c2⟩
  dsimp only at hi o2 n2 c2 ⊢
  have o12 := o1.chg c2 (fun _ _ => by simp)
  have li : (L.take i).length = i := by rw [List.length_take]; omega
  have fin : L.length ≤ i → ∃ b', (Value.slice O2 i 0) = .slice b' L.length 0 ∧ Own tB s2 b' L ∧ NewA s b' ∧ Chg s s2 [] := by
    intro hle
    obtain rfl : i = L.length := by omega
    rw [List.take_of_length_le (Nat.le_refl _)] at o2
    exact ⟨O2, rfl, o2, fun id q => Nat.le_trans x1 (n2 id q), c1.nil c2⟩
  (repeat (first | refine pSeq ?_ | refine pReg ?_ | refine sRaw ?_ | refine sCons ?_ | refine sNil ?_ | refine rCons ?_ | refine rNil ?_ | refine kNo ?_ | refine pRow ?_ | refine pBlock ?_ | refine pSkip ?_ | refine pExit ?_ | refine pRet ?_ | refine pCond ?_ | refine gNone ?_ | refine gOn rfl ?_ | refine gOff rfl rfl ?_))
  intro q hq
  obtain rfl : q = true := by rw [hq]; simp
  (repeat (first | refine pSeq ?_ | refine pReg ?_ | refine sRaw ?_ | refine sCons ?_ | refine sNil ?_ | refine rCons ?_ | refine rNil ?_ | refine kNo ?_ | refine pRow ?_ | refine pBlock ?_ | refine pSkip ?_ | refine pExit ?_ | refine pRet ?_ | refine pCond ?_ | refine gNone ?_ | refine gOn rfl ?_ | refine gOff rfl rfl ?_))
  intro q hq
  by_cases ha : k + i < A.now.length
  · obtain rfl : q = true := by rw [hq]; simp; omega
    (repeat (first | refine pSeq ?_ | refine pReg ?_ | refine sRaw ?_ | refine sCons ?_ | refine sNil ?_ | refine rCons ?_ | refine rNil ?_ | refine kNo ?_ | refine pRow ?_ | refine pBlock ?_ | refine pSkip ?_ | refine pExit ?_ | refine pRet ?_ | refine pCond ?_ | refine gNone ?_ | refine gOn rfl ?_ | refine gOff rfl rfl ?_))
    intro q hq
    by_cases hb : (i : Int) < m
    · obtain rfl : q = true := by rw [hq]; simp; omega
      have hlt : i < L.length := by omega
      obtain ⟨bo, go, rfl, hbo⟩ := o12.some_at ha
      (repeat (first | refine pSeq ?_ | refine pReg ?_ | refine sRaw ?_ | refine sCons ?_ | refine sNil ?_ | refine rCons ?_ | refine rNil ?_ | refine kNo ?_ | refine pRow ?_ | refine pBlock ?_ | refine pSkip ?_ | refine pExit ?_ | refine pRet ?_ | refine pCond ?_ | refine gNone ?_ | refine gOn rfl ?_ | refine gOff rfl rfl ?_))
      refine ⟨⟨by omega, by show ((k + i : Nat) : Int) < (A.now.length : Int); omega⟩, ?_⟩
      intro j hj o ho
      obtain rfl : j = k + i := by omega
      rw [Nat.zero_add, Nat.mul_one] at ho
      subst ho
      (repeat (first | refine pSeq ?_ | refine pReg ?_ | refine sRaw ?_ | refine sCons ?_ | refine sNil ?_ | refine rCons ?_ | refine rNil ?_ | refine kNo ?_ | refine pRow ?_ | refine pBlock ?_ | refine pSkip ?_ | refine pExit ?_ | refine pRet ?_ | refine pCond ?_ | refine gNone ?_ | refine gOn rfl ?_ | refine gOff rfl rfl ?_))
      refine ldI_is rfl hbo (bytesV_get ha) ?_
      (repeat (first | refine pSeq ?_ | refine pReg ?_ | refine sRaw ?_ | refine sCons ?_ | refine sNil ?_ | refine rCons ?_ | refine rNil ?_ | refine kNo ?_ | refine pRow ?_ | refine pBlock ?_ | refine pSkip ?_ | refine pExit ?_ | refine pRet ?_ | refine pCond ?_ | refine gNone ?_ | refine gOn rfl ?_ | refine gOff rfl rfl ?_))
      have cN := Chg.new (s := s2) (b := .cells (bytesV [A.now.getD (k + i) 0]) tB false false) []
      have rN : Rdb { s2 with heap := (s2.next, some (.cells (bytesV [A.now.getD (k + i) 0]) tB false false)) :: s2.heap, next := s2.next + 1 } (some ⟨s2.next, 0, none⟩) 1 [A.now.getD (k + i) 0] := ⟨rfl, rfl, Nat.lt_succ_self _, _, _, _, _, lkH, rfl, rfl⟩
      refine app_own (l := [A.now.getD (k + i) 0]) (o2.chg cN (fun _ _ => by simp)) li.symm rfl rfl rN (by omega) (by omega) fun s5 o5 c5 n5 => ?_
      have n5 : s5.next = s2.next + 1 + 1 := n5
      have eN : L.take (i + 1) = L.take i ++ [A.now.getD (k + i) 0] := by
        rw [List.take_add_one]
        congr 1
        rw [hL, List.getElem?_take, if_pos (by omega), List.getElem?_drop, List.getD, List.getElem?_eq_getElem ha]
        rfl
      (repeat (first | refine pSeq ?_ | refine pReg ?_ | refine sRaw ?_ | refine sCons ?_ | refine sNil ?_ | refine rCons ?_ | refine rNil ?_ | refine kNo ?_ | refine pRow ?_ | refine pBlock ?_ | refine pSkip ?_ | refine pExit ?_ | refine pRet ?_ | refine pCond ?_ | refine gNone ?_ | refine gOn rfl ?_ | refine gOff rfl rfl ?_))
      intro z hz
      rw [i64_id (by omega)] at hz
      (repeat (first | refine pSeq ?_ | refine pReg ?_ | refine sRaw ?_ | refine sCons ?_ | refine sNil ?_ | refine rCons ?_ | refine rNil ?_ | refine kNo ?_ | refine pRow ?_ | refine pBlock ?_ | refine pSkip ?_ | refine pExit ?_ | refine pRet ?_ | refine pCond ?_ | refine gNone ?_ | refine gOn rfl ?_ | refine gOff rfl rfl ?_))
      refine ⟨⟨i + 1, s5, some ⟨s2.next + 1, 0, none⟩⟩, ⟨hlt, by dsimp only; rw [eN]; exact o5, ?_, c2.fresh (cN.nil c5) (fun id q => n2 id q)⟩, by dsimp only; omega, Wk.same ⟨rfl, rfl, rfl, rfl, ?_, trivial⟩⟩
      · intro id q
        simp only [blkOf, List.mem_singleton] at q
        have := c2.next
        omega
      · subst hz
        rfl
    · obtain rfl : q = false := by rw [hq]; simp; omega
      (repeat (first | refine pSeq ?_ | refine pReg ?_ | refine sRaw ?_ | refine sCons ?_ | refine sNil ?_ | refine rCons ?_ | refine rNil ?_ | refine kNo ?_ | refine pRow ?_ | refine pBlock ?_ | refine pSkip ?_ | refine pExit ?_ | refine pRet ?_ | refine pCond ?_ | refine gNone ?_ | refine gOn rfl ?_ | refine gOff rfl rfl ?_))
      exact fin (by omega)
  · obtain rfl : q = false := by rw [hq]; simp; omega
    (repeat (first | refine pSeq ?_ | refine pReg ?_ | refine sRaw ?_ | refine sCons ?_ | refine sNil ?_ | refine rCons ?_ | refine rNil ?_ | refine kNo ?_ | refine pRow ?_ | refine pBlock ?_ | refine pSkip ?_ | refine pExit ?_ | refine pRet ?_ | refine pCond ?_ | refine gNone ?_ | refine gOn rfl ?_ | refine gOff rfl rfl ?_))
    exact fin (by omega)
end Go.Vf.S
