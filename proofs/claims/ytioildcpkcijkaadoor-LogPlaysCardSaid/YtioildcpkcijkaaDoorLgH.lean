import Derived.Test.YtioildcpkcijkaaDoorLgG
/- A log of known payloads on its disk: appended to, recovered; rows of payloads held against each other. -/
namespace Go.Vf.S
open Go Go.Vf Go.Vf.Fr
attribute [local irreducible] wSeq wRow wp wG
set_option linter.unusedVariables false
set_option linter.unusedSimpArgs false
set_option maxRecDepth 10000

/-- What every call of a log finds. -/
structure Ev (s : SS) : Prop where
  gl : s.gl = 1
  steps : lookH s.heap 0 = some gB
  next : 1 ≤ s.next
  fine : Fine s

theorem Ev.chg {s s' : SS} {Z : List Nat} (h : Ev s) (c : Chg s s' Z) (h0 : 0 ∉ Z) : Ev s' := ⟨c.gl.trans h.gl, c.blk _ _ h.next h0 h.steps, Nat.le_trans h.next c.next, c.fine h.fine⟩
theorem Ev.off {s : SS} {d : Nat} {D : Dk} {B : Bs} (h : Ev s) (k : DAt s d D B) : 0 ∉ foot d B := fun q => by
  have hst := h.steps
  simp only [foot, List.mem_cons, List.mem_append] at q
  rcases q with e0 | (q | q) | q
  · exact type_ne hst k.obj (by decide) e0
  · obtain ⟨z, hz⟩ := k.sure.at _ q
    exact type_ne hst hz (by decide) rfl
  · obtain ⟨z, hz⟩ := k.now.at _ q
    exact type_ne hst hz (by decide) rfl
  · obtain ⟨z, hz⟩ := k.row.at _ q
    exact type_ne hst hz (by decide) rfl
theorem Ev.offL {s : SS} {g d : Nat} {A : Lg} (h : Ev s) (la : LAt s g d A) : 0 ≠ g := type_ne h.steps la.blk (by decide)

/-! ### What is seen is what waits, laid over what is sure -/

def DInv (D : Dk) : Prop := D.now = lays D.ws D.sure
theorem lays_snoc (ws : List (Nat × List UInt8)) (w : Nat × List UInt8) (b : List UInt8) : lays (ws ++ [w]) b = layF (lays ws b) w.1 w.2 := by
  simp [lays, List.foldl_append]
theorem DInv.wrote {D : Dk} (h : DInv D) (k : Int) (l : List UInt8) : DInv (D.wrote k l).2 := by
  unfold Dk.wrote
  split
  · exact h
  · split
    · exact h
    · show layF D.now k.toNat l = lays (D.ws ++ [(k.toNat, l)]) D.sure
      rw [lays_snoc, ← h]

theorem layF_zeros {a w : List UInt8} {z : Nat} : layF (a ++ List.replicate z 0) a.length w = a ++ w ++ List.replicate (z - w.length) 0 := by
  unfold layF
  split
  · rename_i e; subst e; simp
  · have e : (a ++ List.replicate z (0 : UInt8) ++ List.replicate (a.length + w.length - (a ++ List.replicate z (0 : UInt8)).length) 0) = a ++ List.replicate (max z w.length) 0 := by
      rw [List.append_assoc, List.replicate_append_replicate, List.length_append, List.length_replicate]
      congr 2
      omega
    rw [e, List.take_left', List.drop_append, List.drop_of_length_le (by omega), List.nil_append, List.drop_replicate]
    · congr 2
      omega
    · rfl
theorem layF_over {a r : List UInt8} (h : 0 < r.length) : layF (a ++ r) a.length (List.replicate r.length 0) = a ++ List.replicate r.length 0 := by
  unfold layF
  rw [if_neg (by intro e; have := congrArg List.length e; simp at this; subst this; simp at h)]
  have e : (a.length + (List.replicate r.length (0 : UInt8)).length - (a ++ r).length) = 0 := by simp
  rw [e, List.replicate_zero, List.append_nil, List.take_left', List.drop_of_length_le (by simp), List.append_nil]
  rfl

/-! ### Appended -/

theorem app_pure {D : Dk} {ps : PL} {j z : Nat} {p : List UInt8} (hp : p.length ≤ 16384) (hnow : D.now = ch 0#32 1#32 ps ++ List.replicate z 0) (hf : D.full = false) (hcap : (ch 0#32 1#32 ps).length + 10 + p.length ≤ D.cap) :
    (lgS ps j).appended D p = ((BitVec.ofNat 32 (ps ++ [p]).length, 0), lgS (ps ++ [p]) j, { D with now := ch 0#32 1#32 (ps ++ [p]) ++ List.replicate (z - (10 + p.length)) 0, ws := D.ws ++ [((ch 0#32 1#32 ps).length, (lgS ps j).form p)] }) := by
  have e : D.wrote ((lgS ps j).size : Int) ((lgS ps j).form p) = (0, { D with now := ch 0#32 1#32 (ps ++ [p]) ++ List.replicate (z - (10 + p.length)) 0, ws := D.ws ++ [((ch 0#32 1#32 ps).length, (lgS ps j).form p)] }) := by
    have hl : (D.now.length : Int) = (ch 0#32 1#32 ps).length + z := by rw [hnow, List.length_append, List.length_replicate]; omega
    have es : (lgS ps j).size = (ch 0#32 1#32 ps).length := rfl
    unfold Dk.wrote
    rw [es, if_neg (by omega), if_neg (by rw [hf, form_len]; simp; omega), Int.toNat_natCast, hnow, layF_zeros, form_len, ← lgS_form]
  unfold Lg.appended
  rw [if_neg (by omega), e, if_neg (by simp), lgS_took, lgS_many ps j p]

theorem app_full {D : Dk} {ps : PL} {j z : Nat} {p : List UInt8} (hp : p.length ≤ 16384) (hnow : D.now = ch 0#32 1#32 ps ++ List.replicate z 0) (hf : D.full = true) : (lgS ps j).appended D p = ((0#32, 7), lgS ps j, D) := by
  have e : D.wrote ((lgS ps j).size : Int) ((lgS ps j).form p) = (7, D) := by
    have hl : (D.now.length : Int) = (ch 0#32 1#32 ps).length + z := by rw [hnow, List.length_append, List.length_replicate]; omega
    have es : (lgS ps j).size = (ch 0#32 1#32 ps).length := rfl
    unfold Dk.wrote
    rw [es, if_neg (by omega), if_pos (.inl hf)]
  unfold Lg.appended
  rw [if_neg (by omega), e, if_pos (by simp)]

theorem app_room {D : Dk} {ps : PL} {j z : Nat} {p : List UInt8} (hp : p.length ≤ 16384) (hnow : D.now = ch 0#32 1#32 ps ++ List.replicate z 0) (hcap : D.cap < (ch 0#32 1#32 ps).length + 10 + p.length) : (lgS ps j).appended D p = ((0#32, 7), lgS ps j, D) := by
  have e : D.wrote ((lgS ps j).size : Int) ((lgS ps j).form p) = (7, D) := by
    have hl : (D.now.length : Int) = (ch 0#32 1#32 ps).length + z := by rw [hnow, List.length_append, List.length_replicate]; omega
    have es : (lgS ps j).size = (ch 0#32 1#32 ps).length := rfl
    unfold Dk.wrote
    rw [es, if_neg (by omega), if_pos (.inr (by rw [form_len]; omega))]
  unfold Lg.appended
  rw [if_neg (by omega), e, if_pos (by simp)]

/-! ### Recovered -/

theorem recF_is {D : Dk} {ps : PL} {r : List UInt8} (hle : ∀ p ∈ ps, p.length ≤ 16384) (hnow : D.now = ch 0#32 1#32 ps ++ r) (hr : openE (chS 0#32 1#32 ps) (1#32 + BitVec.ofNat 32 ps.length) r ≠ 0) : recF D = chF 0#32 1#32 ps := by
  unfold recF
  rw [hnow]
  exact frs_all hle hr

theorem rcv_ok {D : Dk} {ps : PL} {r : List UInt8} (hle : ∀ p ∈ ps, p.length ≤ 16384) (hnow : D.now = ch 0#32 1#32 ps ++ r) (hr : openE (chS 0#32 1#32 ps) (1#32 + BitVec.ofNat 32 ps.length) r ≠ 0) (hi : DInv D) (hf : D.full = false ∨ r = []) (hcap : D.now.length ≤ D.cap) :
    rcv D = (0, ⟨D.cap, D.full, ch 0#32 1#32 ps ++ List.replicate r.length 0, ch 0#32 1#32 ps ++ List.replicate r.length 0, []⟩) := by
  have e1 : after (recF D) = lgS ps 0 := by rw [recF_is hle hnow hr, after_ch]
  have es : (lgS ps 0).size = (ch 0#32 1#32 ps).length := rfl
  have hl : D.now.length = (ch 0#32 1#32 ps).length + r.length := by rw [hnow, List.length_append]
  by_cases h0 : r.length = 0
  · have hr0 : r = [] := List.eq_nil_of_length_eq_zero h0
    subst hr0
    have e : (lgS ps 0).wiped D = (0, D) := by unfold Lg.wiped; rw [if_pos (by rw [es]; simpa using hl)]
    have hn : D.now = ch 0#32 1#32 ps := by rw [hnow, List.append_nil]
    unfold rcv
    rw [e1, e, if_neg (by simp)]
    unfold Dk.synced
    rw [← hi, hn]
    simp
  · have hf' : D.full = false := hf.resolve_right (fun e => h0 (by rw [e]; rfl))
    have e : (lgS ps 0).wiped D = (0, { D with now := ch 0#32 1#32 ps ++ List.replicate r.length 0, ws := D.ws ++ [((ch 0#32 1#32 ps).length, List.replicate r.length 0)] }) := by
      unfold Lg.wiped
      rw [if_neg (by rw [es]; omega), es]
      unfold Dk.wrote
      rw [if_neg (by omega), if_neg (by rw [hf']; simp; omega), Int.toNat_natCast, hl, Nat.add_sub_cancel_left]
      rw [hnow, layF_over (by omega)]
    unfold rcv
    rw [e1, e, if_neg (by simp)]
    unfold Dk.synced
    simp only [lays_snoc]
    rw [← hi, hnow, layF_over (by omega)]

theorem rcv_full {D : Dk} {ps : PL} {r : List UInt8} (hle : ∀ p ∈ ps, p.length ≤ 16384) (hnow : D.now = ch 0#32 1#32 ps ++ r) (hr : openE (chS 0#32 1#32 ps) (1#32 + BitVec.ofNat 32 ps.length) r ≠ 0) (hf : D.full = true) (h0 : 0 < r.length) : rcv D = (7, D) := by
  have e1 : after (recF D) = lgS ps 0 := by rw [recF_is hle hnow hr, after_ch]
  have es : (lgS ps 0).size = (ch 0#32 1#32 ps).length := rfl
  have hl : D.now.length = (ch 0#32 1#32 ps).length + r.length := by rw [hnow, List.length_append]
  have e : (lgS ps 0).wiped D = (7, D) := by
    unfold Lg.wiped
    rw [if_neg (by rw [es]; omega), es]
    unfold Dk.wrote
    rw [if_neg (by omega), if_pos (.inl hf)]
  unfold rcv
  rw [e1, e, if_pos (by simp)]

theorem recovered_w {s : SS} {d : Nat} {D : Dk} {B : Bs} {ps : PL} {r : List UInt8} (k : DAt s d D B) (ev : Ev s) (hw : D.ws.length < 9998) (hle : ∀ p ∈ ps, p.length ≤ 16384) (hnow : D.now = ch 0#32 1#32 ps ++ r)
    (hr : openE (chS 0#32 1#32 ps) (1#32 + BitVec.ofNat 32 ps.length) r ≠ 0) (hi : DInv D) (hf : D.full = false ∨ r = []) :
    CallW pr n_log_Recover [.pointer (some ⟨d, 0, none⟩)] s fun v s' => ∃ B' g W cw qs, v = .tuple ⟨[.pointer (some ⟨g, 0, none⟩), .slice W qs.length cw, .int .i64 0]⟩ ∧ LAt s' g d (lgS ps ps.length) ∧
      DAt s' d ⟨D.cap, D.full, ch 0#32 1#32 ps ++ List.replicate r.length 0, ch 0#32 1#32 ps ++ List.replicate r.length 0, []⟩ B' ∧ s.next ≤ g ∧ Pys s' s.next W cw qs ∧ qs.map (·.2.2) = ps ∧ Chg s s' (foot d B) ∧ (∀ id ∈ whole d B', id ∈ whole d B ∨ s.next ≤ id) ∧ ∀ id, PyIn W qs id → id ∉ whole d B' ∧ id ≠ g := by
  have e := rcv_ok hle hnow hr hi hf k.lnow
  refine (recover_w k ev.fine ev.gl ev.steps ev.next hw).mono fun v s' q => ?_
  obtain ⟨B', k', c, al, q | q⟩ := q
  · rw [e] at q; exact absurd rfl q.1
  · obtain ⟨-, g, W, cw, qs, rfl, la, hg, py, hp, off⟩ := q
    rw [e] at k'
    refine ⟨B', g, W, cw, qs, rfl, ?_, k', hg, py, ?_, c, al, off⟩
    · rw [recF_is hle hnow hr, after_ch] at la; exact la
    · rw [hp, recF_is hle hnow hr, chF_p]

/-! ### Rows held against each other -/

/-- A row of slices of bytes. -/
def RowAt (s : SS) (W : Option Addr) (qs : List Py) : Prop :=
  (match W with
    | none => qs = []
    | some ⟨b, off, sp⟩ => off = 0 ∧ sp = none ∧ b < s.next ∧ ∃ cs t g r, lookH s.heap b = some (.cells cs t g r) ∧ cs.take qs.length = pyCells qs) ∧ ∀ q ∈ qs, Rdb s q.1 q.2.2.length q.2.2

theorem Pys.row' {s : SS} {s0 : Nat} {W : Option Addr} {cw : Nat} {qs : List Py} (h : Pys s s0 W cw qs) : RowAt s W qs := by
  refine ⟨?_, fun q hq => (h.each q hq).1⟩
  have := h.row
  cases W with
  | none => exact List.eq_nil_of_length_eq_zero this.2.1
  | some a =>
    obtain ⟨b, off, sp⟩ := a
    obtain ⟨h1, h2, h3, g, h4, h5⟩ := this
    exact ⟨h1, h2, h3, _, _, _, _, h4, List.take_of_length_le (by simp [pyCells])⟩

theorem RowAt.at {s : SS} {W : Option Addr} {qs : List Py} (h : RowAt s W qs) {i : Nat} {q : Py} (hi : qs[i]? = some q) : ∃ b, W = some ⟨b, 0, none⟩ ∧ ∃ cs t g r, lookH s.heap b = some (.cells cs t g r) ∧ cs[i]? = some (.slice q.1 q.2.2.length q.2.1) := by
  have hlt := (List.getElem?_eq_some_iff.1 hi).1
  cases W with
  | none => have := h.1; simp only at this; subst this; simp at hlt
  | some a =>
    obtain ⟨b, off, sp⟩ := a
    obtain ⟨⟨rfl, rfl, h3, cs, t, g, r, h4, h5⟩, h6⟩ := h
    refine ⟨b, rfl, cs, t, g, r, h4, ?_⟩
    have := congrArg (fun l => l[i]?) h5
    simp only [List.getElem?_take, if_pos hlt, pyCells, List.getElem?_map, hi, Option.map_some] at this
    exact this

theorem callF_of {f : FuncId} {m : MF} (h : compF pr f = some m) (vs : List Value) : callV pr (.func (.func f) ⟨[]⟩ ⟨[]⟩) vs = some (.enter f vs) := by
  unfold compF at h
  split at h
  · cases h
  · rename_i fn hfn
    split at h
    · cases h
    · rename_i b hb
      have e : pr.funcs[f]? = some fn := hfn
      simp only [callV, e, hb, Option.isSome_some, cond_true]
      simp

theorem equalFunc_w {s : SS} {W V : Option Addr} {c e : Nat} {ps qs : List Py} (h1 : RowAt s W ps) (h2 : RowAt s V qs) (hl : ps.length < 4294967296) :
    CallW pr n_slices_EqualFunc_byte_byte_byte_byte [.slice W ps.length c, .slice V qs.length e, .func (.func n_bytes_Equal) #[] #[]] s fun v s' => v = .bool (decide (ps.map (·.2.2) = qs.map (·.2.2))) ∧ s' = s := by
  refine CallW.run good ok_slices_EqualFunc_byte_byte_byte_byte (by simp) rfl ?_
  (repeat(first|refine pSeq ?_|refine pReg ?_|refine sCons ?_|refine sNil ?_|refine pBlock ?_|refine pSkip ?_|refine pExit ?_|refine pRet ?_|refine pCond ?_|refine gNone ?_))
  intro q hq
  by_cases hn : ps.length = qs.length
  · obtain rfl : q = false := by rw [hq]; simp [hn]
    (repeat(first|refine pSeq ?_|refine pReg ?_|refine sCons ?_|refine sNil ?_|refine pBlock ?_|refine pSkip ?_|refine pExit ?_|refine pRet ?_|refine pCond ?_|refine gNone ?_))
    refine pLoop (MW.head good (fun i => ps.length - i) (fun i => i ≤ ps.length ∧ (ps.map (·.2.2)).take i = (qs.map (·.2.2)).take i) (fun i => [(1, .slice V qs.length e), (2, .func (.func n_bytes_Equal) #[] #[]), (15, .slice W ps.length c), (16, .int .i64 ps.length), (17, .int .i64 i)]) (fun _ => s) 0 ⟨Nat.zero_le _, rfl⟩ (Wk.same ⟨rfl, rfl, rfl, rfl, rfl, trivial⟩) ?_)
    rintro i ⟨hi, heq⟩
    (repeat(first|refine pSeq ?_|refine pReg ?_|refine sCons ?_|refine sNil ?_|refine pBlock ?_|refine pSkip ?_|refine pExit ?_|refine pRet ?_|refine pCond ?_|refine gNone ?_))
    intro q hq
    by_cases hlt : i < ps.length
    · obtain rfl : q = true := by rw [hq]; simp [hlt]
      obtain ⟨a, ha⟩ : ∃ a, ps[i]? = some a := ⟨_, List.getElem?_eq_getElem hlt⟩
      obtain ⟨b, hb⟩ : ∃ b, qs[i]? = some b := ⟨_, List.getElem?_eq_getElem (by omega)⟩
      obtain ⟨b1, rfl, cs1, t1, g1, r1, k1, k2⟩ := h1.at ha
      obtain ⟨b2, rfl, cs2, t2, g2, r2, k3, k4⟩ := h2.at hb
      (repeat(first|refine pSeq ?_|refine pReg ?_|refine sCons ?_|refine sNil ?_|refine pBlock ?_|refine pSkip ?_|refine pExit ?_|refine pRet ?_|refine pCond ?_|refine gNone ?_))
      refine ⟨by omega, ?_⟩
      intro m hm o ho
      obtain rfl : m = i := by omega
      (repeat(first|refine pSeq ?_|refine pReg ?_|refine sCons ?_|refine sNil ?_|refine pBlock ?_|refine pSkip ?_|refine pExit ?_|refine pRet ?_|refine pCond ?_|refine gNone ?_))
      refine ld1_is rfl k1 (by rw [ho, Nat.mul_one, Nat.zero_add]; exact k2) ?_
      (repeat(first|refine pSeq ?_|refine pReg ?_|refine sCons ?_|refine sNil ?_|refine pBlock ?_|refine pSkip ?_|refine pExit ?_|refine pRet ?_|refine pCond ?_|refine gNone ?_))
      refine ⟨by omega, ?_⟩
      intro m2 hm2 o2 ho2
      obtain rfl : m2 = m := by omega
      (repeat(first|refine pSeq ?_|refine pReg ?_|refine sCons ?_|refine sNil ?_|refine pBlock ?_|refine pSkip ?_|refine pExit ?_|refine pRet ?_|refine pCond ?_|refine gNone ?_))
      refine ld1_is rfl k3 (by rw [ho2, Nat.mul_one, Nat.zero_add]; exact k4) ?_
      (repeat(first|refine pSeq ?_|refine pReg ?_|refine sCons ?_|refine sNil ?_|refine pBlock ?_|refine pSkip ?_|refine pExit ?_|refine pRet ?_|refine pCond ?_|refine gNone ?_))
      refine ⟨.call n_bytes_Equal [.slice a.1 a.2.2.length a.2.1, .slice b.1 b.2.2.length b.2.1], callF_of ok_bytes_Equal _, ?_⟩
      refine (equal_w (h1.2 a (List.mem_of_getElem? ha)) (h2.2 b (List.mem_of_getElem? hb))).mono fun v s q => ?_
      obtain ⟨rfl, rfl⟩ := q
      (repeat(first|refine pSeq ?_|refine pReg ?_|refine sCons ?_|refine sNil ?_|refine pBlock ?_|refine pSkip ?_|refine pExit ?_|refine pRet ?_|refine pCond ?_|refine gNone ?_))
      intro q hq
      by_cases he : a.2.2 = b.2.2
      · obtain rfl : q = false := by rw [hq]; simp [he]
        (repeat(first|refine pSeq ?_|refine pReg ?_|refine sCons ?_|refine sNil ?_|refine pBlock ?_|refine pSkip ?_|refine pExit ?_|refine pRet ?_|refine pCond ?_|refine gNone ?_))
        intro z hz
        rw [i64_id (by omega)] at hz
        (repeat(first|refine pSeq ?_|refine pReg ?_|refine sCons ?_|refine sNil ?_|refine pBlock ?_|refine pSkip ?_|refine pExit ?_|refine pRet ?_|refine pCond ?_|refine gNone ?_))
        refine ⟨m2 + 1, ⟨by omega, ?_⟩, by show ps.length - (m2 + 1) < ps.length - m2; omega, Wk.same ⟨rfl, rfl, rfl, rfl, by rw [hz]; rfl, trivial⟩⟩
        rw [List.take_add_one, List.take_add_one, heq, List.getElem?_map, List.getElem?_map, ha, hb, Option.map_some, Option.map_some, he]
      · obtain rfl : q = true := by rw [hq]; simp [he]
        (repeat(first|refine pSeq ?_|refine pReg ?_|refine sCons ?_|refine sNil ?_|refine pBlock ?_|refine pSkip ?_|refine pExit ?_|refine pRet ?_|refine pCond ?_|refine gNone ?_))
        refine ⟨congrArg Value.bool (decide_eq_false (fun h => he ?_)).symm, rfl⟩
        have := congrArg (fun l => l[m2]?) h
        simpa [ha, hb] using this
    · obtain rfl : q = false := by rw [hq]; simp; omega
      obtain rfl : i = ps.length := by omega
      (repeat(first|refine pSeq ?_|refine pReg ?_|refine sCons ?_|refine sNil ?_|refine pBlock ?_|refine pSkip ?_|refine pExit ?_|refine pRet ?_|refine pCond ?_|refine gNone ?_))
      refine ⟨congrArg Value.bool (decide_eq_true ?_).symm, rfl⟩
      rwa [List.take_of_length_le (by simp), List.take_of_length_le (by simp; omega)] at heq
  · obtain rfl : q = true := by rw [hq]; simp; omega
    (repeat(first|refine pSeq ?_|refine pReg ?_|refine sCons ?_|refine sNil ?_|refine pBlock ?_|refine pSkip ?_|refine pExit ?_|refine pRet ?_|refine pCond ?_|refine gNone ?_))
    exact ⟨congrArg Value.bool (decide_eq_false (fun h => hn (by simpa using congrArg List.length h))).symm, rfl⟩

theorem same_w {s : SS} {W V : Option Addr} {c e : Nat} {ps qs : List Py} (h1 : RowAt s W ps) (h2 : RowAt s V qs) (hl : ps.length < 4294967296) :
    CallW pr n_law03_same [.slice W ps.length c, .slice V qs.length e] s fun v s' => v = .bool (decide (ps.map (·.2.2) = qs.map (·.2.2))) ∧ s' = s := by
  refine CallW.run good ok_law03_same (by simp) rfl ?_
  (repeat(first|refine pSeq ?_|refine pReg ?_|refine sCons ?_|refine sNil ?_|refine pRet ?_|refine gNone ?_))
  refine (equalFunc_w h1 h2 hl).mono fun v s q => ?_
  obtain ⟨rfl, rfl⟩ := q
  (repeat(first|refine pSeq ?_|refine pReg ?_|refine sCons ?_|refine sNil ?_|refine pRet ?_|refine gNone ?_))
  exact ⟨rfl, rfl⟩
end Go.Vf.S
