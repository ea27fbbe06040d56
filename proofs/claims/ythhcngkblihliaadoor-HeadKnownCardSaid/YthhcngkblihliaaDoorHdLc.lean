import Derived.Test.YthhcngkblihliaaDoorHdLb
/- A message with a field laid anew. -/
namespace Go.Vf.S
open Go Go.Vf Go.Proofs Go.RowKit
attribute [local irreducible] wSeq wRow wp wG
set_option linter.unusedVariables false
set_option linter.unusedSimpArgs false
set_option maxRecDepth 10000

theorem fsC_drop (fs : List Fld) (k : Nat) : (fsC fs).drop (k * 3) = fsC (fs.drop k) := by
  rcases Nat.lt_or_ge k fs.length with h | h
  · have e : fsC fs = fsC (fs.take k) ++ fsC (fs.drop k) := by rw [← fsC_app, List.take_append_drop]
    rw [e, List.drop_left' (by rw [fsC_len, List.length_take, Nat.min_eq_left (Nat.le_of_lt h)])]
  · rw [List.drop_eq_nil_of_le h, List.drop_eq_nil_of_le (by rw [fsC_len]; omega)]
    rfl
theorem fsC_front (fs : List Fld) (k : Nat) (h : k ≤ fs.length) : takeN ((fs.take k).length * 3) (fsC fs) = some (fsC (fs.take k)) := by
  have e : fsC fs = fsC (fs.take k) ++ fsC (fs.drop k) := by rw [← fsC_app, List.take_append_drop]
  rw [takeN_take _ _ (by rw [fsC_len, List.length_take]; omega), e, List.take_left' (fsC_len _)]
theorem fsC_back (fs : List Fld) : takeN (fs.length * 3) (fsC fs) = some (fsC fs) := by
  rw [takeN_take _ _ (by rw [fsC_len]; omega), List.take_of_length_le (by rw [fsC_len]; omega)]

/-- The front of a row, and what stands behind. -/
theorem slF_lo {T : TL} {s : SS} {K : RR → Prop} {x hi : Operand} {W : Option Addr} {cw n k : Nat} {fs : List Fld} (h : FsO s W cw fs) (hx : opd T s.gl x = some (.slice W n cw)) (hn : n = fs.length) (hh : opd T s.gl hi = some (.int .i64 k)) (hk : k ≤ fs.length)
    (hK : ∀ (V : Option Addr) (c : Nat), FsP s V (fs.take k) → (∀ id ∈ blkOf V, id ∈ blkOf W) → K (.val (.slice V k c))) : wN pr (.slL 3 x none (some hi)) T s K := by
  subst hn
  cases W with
  | none =>
    obtain ⟨h1, h2, rfl⟩ := h
    have h3 : fs = [] := List.length_eq_zero_iff.1 h2
    subst h3
    obtain rfl : k = 0 := by simpa using hk
    simp only [wN, hx, opdO, hh, wBnd]
    refine ⟨⟨by omega, by omega⟩, fun m hm => ?_⟩
    obtain rfl : m = 0 := by omega
    exact hK none _ rfl (by simp [blkOf])
  | some a =>
    obtain ⟨b, off, sp⟩ := a
    obtain ⟨rfl, rfl, h3, g, h4, h5⟩ := h
    have hP : FsP s (some ⟨b, 0, none⟩) (fs.take k) := ⟨rfl, h3, _, _, _, _, h4, by rw [List.drop_zero]; exact fsC_front fs k hk⟩
    cases g with
    | true =>
      simp only [wN, hx, opdO, hh, h4, wBnd]
      refine ⟨sz_Fl, ⟨by omega, by omega⟩, fun m hm o n ho hn => ?_⟩
      obtain rfl : m = k := by omega
      subst ho; subst hn
      simpa using hK _ 0 hP (fun id q => q)
    | false =>
      have h6 := h5 rfl
      subst h6
      simp only [wN, hx, opdO, hh, h4, wBnd]
      refine ⟨⟨by omega, by omega⟩, fun m hm o n d ho hn hd => ?_⟩
      obtain rfl : m = k := by omega
      have e : o = 0 := by rw [ho]; split <;> simp
      subst hn hd
      rw [e, Nat.sub_zero]
      exact hK _ _ hP (fun id q => q)
theorem slF_hi {T : TL} {s : SS} {K : RR → Prop} {x lo : Operand} {W : Option Addr} {cw n k : Nat} {fs : List Fld} (h : FsO s W cw fs) (hx : opd T s.gl x = some (.slice W n cw)) (hn : n = fs.length) (hh : opd T s.gl lo = some (.int .i64 k)) (hk : k ≤ fs.length)
    (hK : ∀ (V : Option Addr) (c : Nat), FsP s V (fs.drop k) → (∀ id ∈ blkOf V, id ∈ blkOf W) → K (.val (.slice V (fs.length - k) c))) : wN pr (.slL 3 x (some lo) none) T s K := by
  subst hn
  cases W with
  | none =>
    obtain ⟨h1, h2, rfl⟩ := h
    have h3 : fs = [] := List.length_eq_zero_iff.1 h2
    subst h3
    obtain rfl : k = 0 := by simpa using hk
    simp only [wN, hx, opdO, hh, wBnd]
    refine ⟨⟨by omega, by simp⟩, fun m hm => ?_⟩
    obtain rfl : m = 0 := by omega
    exact hK none _ rfl (by simp [blkOf])
  | some a =>
    obtain ⟨b, off, sp⟩ := a
    obtain ⟨rfl, rfl, h3, g, h4, h5⟩ := h
    have hP : FsP s (some ⟨b, k * 3, none⟩) (fs.drop k) := ⟨rfl, h3, _, _, _, _, h4, by rw [fsC_drop]; exact fsC_back _⟩
    cases g with
    | true =>
      simp only [wN, hx, opdO, hh, h4, wBnd]
      refine ⟨sz_Fl, ⟨by omega, by omega⟩, fun m hm o n ho hn => ?_⟩
      obtain rfl : m = k := by omega
      subst ho; subst hn
      simpa using hK _ 0 hP (fun id q => q)
    | false =>
      have h6 := h5 rfl
      subst h6
      simp only [wN, hx, opdO, hh, h4, wBnd]
      refine ⟨⟨by omega, by omega⟩, fun m hm o n d ho hn hd => ?_⟩
      obtain rfl : m = k := by omega
      subst hn hd
      split at ho
      · rename_i e
        have e2 : fs.drop m = [] := List.drop_eq_nil_of_le (by omega)
        subst ho
        exact hK _ _ ⟨rfl, h3, _, _, _, _, h4, by rw [e2]; rfl⟩ (fun id q => q)
      · rw [Nat.zero_add] at ho
        subst ho
        exact hK _ _ hP (fun id q => q)

def withF (m : Msg) (i j : Nat) (nm v : List UInt8) : Msg × Nat := match layF nm v with
  | none => (msZ, 5)
  | some f => if 8192 < (textM ⟨m.fs.take i ++ f :: m.fs.drop j, m.b, m.e⟩).length then (msZ, 3) else (⟨m.fs.take i ++ f :: m.fs.drop j, m.b, m.e⟩, 0)

theorem lay_len {nm v : List UInt8} {f : Fld} (h : layF nm v = some f) : f.r.length ≤ 3 * (nm.length + 2 + v.length) + 2 := by
  unfold layF at h
  split at h
  · cases h
    have := jn_fold 1 (nm ++ 58 :: 32 :: v).length (nm.length + 2 + 1) (nm ++ 58 :: 32 :: v)
    simp only [List.length_append, List.length_cons] at this ⊢
    omega
  · cases h
theorem txt_app (a b : List Fld) : txtF (a ++ b) = txtF a ++ txtF b := by unfold txtF; rw [List.flatMap_append]
theorem with_len {m : Msg} {i j : Nat} {f : Fld} (hij : i ≤ j) : (textM ⟨m.fs.take i ++ f :: m.fs.drop j, m.b, m.e⟩).length ≤ (textM m).length + f.r.length := by
  have e1 : txtF m.fs = txtF (m.fs.take j) ++ txtF (m.fs.drop j) := by rw [← txt_app, List.take_append_drop]
  have e2 := txt_le (fs := m.fs.take j) i
  rw [List.take_take, Nat.min_eq_left hij] at e2
  unfold textM
  dsimp only
  rw [txt_app, e1]
  show ((txtF (m.fs.take i) ++ (f.r ++ txtF (m.fs.drop j))) ++ _).length ≤ _
  simp only [List.length_append]
  omega

set_option maxHeartbeats 2000000 in
theorem with_w {s : SS} {m : Msg} {W : Option Addr} {cw i j : Nat} {nm v : List UInt8} (hf : Fine s) (h : FsO s W cw m.fs) (hij : i ≤ j) (hj : j ≤ m.fs.length) (hn : m.fs.length ≤ 90000) (hnm : nm.length ≤ 1000) (hv : v.length ≤ 9000) (hl : (textM m).length ≤ 60000) :
    CallW pr n_head_Message_with [msV m W cw, .int .i64 i, .int .i64 j, str nm, str v] s fun u s' => ∃ W' cw', u = .tuple ⟨[msV (withF m i j nm v).1 W' cw', .int .i64 (withF m i j nm v).2]⟩ ∧ FsO s' W' cw' (withF m i j nm v).1.fs ∧ Chg s s' [] ∧ ∀ id ∈ blkOf W', s.next ≤ id := by
  refine CallW.run good ok_head_Message_with (by simp) rfl ?_
  obtain ⟨s1, hs1⟩ : ∃ s1 : SS, s1 = { s with heap := (s.next + 1, some (.cells (msC msZ none 0) tMs false false)) :: (s.next, some (.cells (msC m W cw) tMs false false)) :: s.heap, next := s.next + 1 + 1 } := ⟨_, rfl⟩
  have c1 : Chg s s1 [] := by rw [hs1]; exact (Chg.new (b := .cells (msC m W cw) tMs false false) []).nil (Chg.new [])
  have k1 : lookH s1.heap s.next = some (.cells (msC m W cw) tMs false false) := by rw [hs1]; exact lkT (by omega) lkH
  have j1 : lookH s1.heap (s.next + 1) = some (.cells (msC msZ none 0) tMs false false) := by rw [hs1]; exact lkH
  have n1 : s1.next = s.next + 2 := by rw [hs1]
  (repeat(first|refine pSeq ?_|refine pReg ?_|refine sCons ?_|refine sNil ?_|refine rCons ?_|refine rNil ?_|refine kNo ?_|refine pRow ?_|refine pSkip ?_|refine pRet ?_|refine pCond ?_|refine gNone ?_))
  refine (hlay_w (nm := nm) (v := v) (by omega) (by omega)).mono fun u s2 q => ?_
  replace q : u = .tuple ⟨[flV (fOr (layF nm v)), .int .i64 (eOr (layF nm v))]⟩ ∧ Chg s1 s2 [] := by subst hs1; exact q
  clear hs1
  obtain ⟨rfl, c2⟩ := q
  have c02 := c1.nil c2
  have n2 := c2.next
  have k2 := c2.blk _ _ (by omega) (by simp) k1
  have j2 := c2.blk _ _ (by omega) (by simp) j1
  (repeat(first|refine pSeq ?_|refine pReg ?_|refine sCons ?_|refine sNil ?_|refine rCons ?_|refine rNil ?_|refine kNo ?_|refine pRow ?_|refine pSkip ?_|refine pRet ?_|refine pCond ?_|refine gNone ?_))
  refine st_abs (cs' := flC (fOr (layF nm v))) rfl rfl lkH (Nat.lt_succ_self _) rfl rfl fun s3 e3 c3 n3 => ?_
  have c23 : Chg s2 s3 [] := (Chg.new []).fresh c3 (by simp)
  have e3 : lookH s3.heap s2.next = some (.cells (flC (fOr (layF nm v))) tFl false false) := e3
  have n3 : s3.next = s2.next + 1 := n3
  have c03 := c02.nil c23
  have k3 := c23.blk _ _ (by omega) (by simp) k2
  have j3 := c23.blk _ _ (by omega) (by simp) j2
  (repeat(first|refine pSeq ?_|refine pReg ?_|refine sCons ?_|refine sNil ?_|refine rCons ?_|refine rNil ?_|refine kNo ?_|refine pRow ?_|refine pSkip ?_|refine pRet ?_|refine pCond ?_|refine gNone ?_))
  intro q hq
  unfold withF
  cases hlay : layF nm v with
  | none =>
    rw [hlay] at hq
    obtain rfl : q = true := by rw [hq]; rfl
    (repeat(first|refine pSeq ?_|refine pReg ?_|refine sCons ?_|refine sNil ?_|refine rCons ?_|refine rNil ?_|refine kNo ?_|refine pRow ?_|refine pSkip ?_|refine pRet ?_|refine pCond ?_|refine gNone ?_))
    refine st_abs (cs' := msC msZ none 0) rfl rfl j3 (show s.next + 1 < s3.next by omega) rfl rfl fun s4 e4 c4 n4 => ?_
    (repeat(first|refine pSeq ?_|refine pReg ?_|refine sCons ?_|refine sNil ?_|refine rCons ?_|refine rNil ?_|refine kNo ?_|refine pRow ?_|refine pSkip ?_|refine pRet ?_|refine pCond ?_|refine gNone ?_))
    (repeat (first | with_reducible refine sqRet ?_ | with_reducible refine bkRet ?_ | with_reducible refine hdRet ?_))
    exact ret_cell agg_Ms sz_Ms rfl e4 agm3 rfl ⟨none, 0, rfl, fs_none, c03.fresh c4 (by simp), by simp [blkOf]⟩
  | some f =>
    rw [hlay] at hq e3
    obtain rfl : q = false := by rw [hq]; rfl
    have hfl := lay_len hlay
    have hwl := with_len (m := m) (i := i) (j := j) (f := f) hij
    have e3 : lookH s3.heap s2.next = some (.cells (flC f) tFl false false) := e3
    have h3 := h.chg c03 (by simp)
    have f3 := c03.fine hf
    dsimp only
    (repeat(first|refine pSeq ?_|refine pReg ?_|refine sCons ?_|refine sNil ?_|refine rCons ?_|refine rNil ?_|refine kNo ?_|refine pRow ?_|refine pSkip ?_|refine pRet ?_|refine pCond ?_|refine gNone ?_))
    refine ld1_is rfl k3 rfl ?_
    (repeat(first|refine pSeq ?_|refine pReg ?_|refine sCons ?_|refine sNil ?_|refine rCons ?_|refine rNil ?_|refine kNo ?_|refine pRow ?_|refine pSkip ?_|refine pRet ?_|refine pCond ?_|refine gNone ?_))
    refine slF_lo h3 rfl rfl rfl (by omega) fun V1 d1 p1 q1 => ?_
    (repeat(first|refine pSeq ?_|refine pReg ?_|refine sCons ?_|refine sNil ?_|refine rCons ?_|refine rNil ?_|refine kNo ?_|refine pRow ?_|refine pSkip ?_|refine pRet ?_|refine pCond ?_|refine gNone ?_))
    refine ldN_is rfl e3 agg3 ?_
    (repeat(first|refine pSeq ?_|refine pReg ?_|refine sCons ?_|refine sNil ?_|refine rCons ?_|refine rNil ?_|refine kNo ?_|refine pRow ?_|refine pSkip ?_|refine pRet ?_|refine pCond ?_|refine gNone ?_))
    refine mkS_is rfl rfl (rNew f3.at ?_)
    (repeat(first|refine pSeq ?_|refine pReg ?_|refine sCons ?_|refine sNil ?_|refine rCons ?_|refine rNil ?_|refine kNo ?_|refine pRow ?_|refine pSkip ?_|refine pRet ?_|refine pCond ?_|refine gNone ?_))
    have c34 : Chg s3 { s3 with heap := (s3.next, some (.cells (flC f) tFl false false)) :: s3.heap, next := s3.next + 1 } [] := .new _
    obtain ⟨s4, hs4⟩ : ∃ s4 : SS, s4 = { s3 with heap := (s3.next, some (.cells (flC f) tFl false false)) :: s3.heap, next := s3.next + 1 } := ⟨_, rfl⟩
    rw [← hs4] at c34
    have x4 : lookH s4.heap s3.next = some (.cells (flC f) tFl false false) := by rw [hs4]; exact lkH
    have n4 : s4.next = s3.next + 1 := by rw [hs4]
    have c04 := c03.nil c34
    have f4 := c04.fine hf
    have k4 := c34.blk _ _ (show s.next < s3.next by omega) (by simp) k3
    have j4 := c34.blk _ _ (show s.next + 1 < s3.next by omega) (by simp) j3
    have h4 := h.chg c04 (by simp)
    have p4 := p1.chg c34 (by simp)
    refine ld1_is rfl (show lookH _ _ = some (.cells (msC m W cw) tMs false false) from (by subst hs4; exact k4)) rfl ?_
    (repeat(first|refine pSeq ?_|refine pReg ?_|refine sCons ?_|refine sNil ?_|refine rCons ?_|refine rNil ?_|refine kNo ?_|refine pRow ?_|refine pSkip ?_|refine pRet ?_|refine pCond ?_|refine gNone ?_))
    refine slF_hi (show FsO _ W cw m.fs from (by subst hs4; exact h4)) rfl rfl rfl (by omega) fun V2 d2 p2 q2 => ?_
    replace p2 : FsP s4 V2 (m.fs.drop j) := by subst hs4; exact p2
    (repeat(first|refine pSeq ?_|refine pReg ?_|refine sCons ?_|refine sNil ?_|refine rCons ?_|refine rNil ?_|refine kNo ?_|refine pRow ?_|refine pSkip ?_|refine pRet ?_|refine pCond ?_|refine gNone ?_))
    refine mkS_is rfl rfl (rNew (show lookH _ _ = none from (by subst hs4; exact f4.at)) ?_)
    (repeat(first|refine pSeq ?_|refine pReg ?_|refine sCons ?_|refine sNil ?_|refine rCons ?_|refine rNil ?_|refine kNo ?_|refine pRow ?_|refine pSkip ?_|refine pRet ?_|refine pCond ?_|refine gNone ?_))
    obtain ⟨ps, hps⟩ : ∃ ps : List Prt, ps = [(V1, d1, m.fs.take i), (some ⟨s3.next, 0, none⟩, 1, [f]), (V2, d2, m.fs.drop j)] := ⟨_, rfl⟩
    have hl3 : ps.length = 3 := by rw [hps]; rfl
    have hpc : prC ps = [.slice V1 i d1, .slice (some ⟨s3.next, 0, none⟩) 1 1, .slice V2 (m.fs.length - j) d2] := by
      rw [hps]
      unfold prC
      simp only [List.map_cons, List.map_nil, List.length_take, List.length_drop, List.length_cons, List.length_nil, Nat.zero_add, Nat.min_eq_left (show i ≤ m.fs.length by omega)]
    have hpf : prF ps = m.fs.take i ++ f :: m.fs.drop j := by rw [hps]; simp [prF]
    obtain ⟨s5, hs5⟩ : ∃ s5 : SS, s5 = { s4 with heap := (s4.next, some (.cells (prC ps) 22 false false)) :: s4.heap, next := s4.next + 1 } := ⟨_, rfl⟩
    have c45 : Chg s4 s5 [] := by rw [hs5]; exact .new _
    have x5 : lookH s5.heap s4.next = some (.cells (prC ps) 22 false false) := by rw [hs5]; exact lkH
    have n5 : s5.next = s4.next + 1 := by rw [hs5]
    have c05 := c04.nil c45
    have hfs : (prF ps).length ≤ 100000 := by rw [hpf]; simp; omega
    have hcc := concat_w (s := s5) (cw := 3) (ps := ps) x5 (by omega) (fun p hp => by
      rw [hps] at hp
      simp only [List.mem_cons, List.not_mem_nil, or_false] at hp
      rcases hp with rfl | rfl | rfl
      · exact p4.chg c45 (by simp)
      · exact ⟨rfl, show s3.next < s5.next by omega, _, _, _, _, c45.blk _ _ (show s3.next < s4.next by omega) (by simp) x4, rfl⟩
      · exact p2.chg c45 (by simp)) (by rw [hpf]; simp) (by omega) (by omega)
    rw [hl3, hpf] at hcc
    rw [hpf] at hfs
    rw [hpc] at hs5
    clear hps hpc hpf hl3
    refine (show CallW pr n_slices_Concat_head_Field_head_Field _ _ fun u s' => ∃ W, u = .slice W (m.fs.take i ++ f :: m.fs.drop j).length 0 ∧ FsO s' W 0 (m.fs.take i ++ f :: m.fs.drop j) ∧ Chg s5 s' [] ∧ ∀ id ∈ blkOf W, s5.next ≤ id from (by subst hs5; subst hs4; exact hcc)).mono fun u s6 q => ?_
    obtain ⟨W6, rfl, o6, c6, w6⟩ := q
    have k6 := (c45.nil c6).blk _ _ (show s.next < s4.next by omega) (by simp) k4
    have j6 := (c45.nil c6).blk _ _ (show s.next + 1 < s4.next by omega) (by simp) j4
    have c06 := c05.nil c6
    clear hs4 hs5
    have n6 := c6.next
    obtain ⟨m2, hm2⟩ : ∃ m2 : Msg, m2 = ⟨m.fs.take i ++ f :: m.fs.drop j, m.b, m.e⟩ := ⟨_, rfl⟩
    have e2 : m2.fs = m.fs.take i ++ f :: m.fs.drop j := by rw [hm2]
    have eb : m2.b = m.b := by rw [hm2]
    have ee : m2.e = m.e := by rw [hm2]
    rw [← e2] at o6 hfs
    rw [← hm2] at hwl ⊢
    (repeat(first|refine pSeq ?_|refine pReg ?_|refine sCons ?_|refine sNil ?_|refine rCons ?_|refine rNil ?_|refine kNo ?_|refine pRow ?_|refine pSkip ?_|refine pRet ?_|refine pCond ?_|refine gNone ?_))
    refine st_abs (cs' := msC m2 W6 0) rfl rfl k6 (show s.next < s6.next by omega) rfl (by rw [← e2]; simp only [msC, eb, ee]; rfl) fun s7 e7 c7 n7 => ?_
    (repeat(first|refine pSeq ?_|refine pReg ?_|refine sCons ?_|refine sNil ?_|refine rCons ?_|refine rNil ?_|refine kNo ?_|refine pRow ?_|refine pSkip ?_|refine pRet ?_|refine pCond ?_|refine gNone ?_))
    have c07 := c06.fresh c7 (by simp)
    have hoff : ∀ id ∈ blkOf W6, id ≠ s.next ∧ id ≠ s.next + 1 := fun id hid => by
      have := w6 id hid
      omega
    have o7 := o6.chg c7 (fun id hid q => (hoff id hid).1 (by simpa using q))
    have j7 := c7.blk _ _ (show s.next + 1 < s6.next by omega) (by simp) j6
    refine ldN_is rfl e7 agm3 ?_
    (repeat(first|refine pSeq ?_|refine pReg ?_|refine sCons ?_|refine sNil ?_|refine rCons ?_|refine rNil ?_|refine kNo ?_|refine pRow ?_|refine pSkip ?_|refine pRet ?_|refine pCond ?_|refine gNone ?_))
    refine (htext_w (m := m2) (rd_of o7) (by omega) (by omega)).mono fun u s8 q => ?_
    obtain ⟨rfl, c8⟩ := q
    have c08 := c07.nil c8
    have o8 := o7.chg c8 (by simp)
    have e8 := c8.blk _ _ (show s.next < s7.next by omega) (by simp) e7
    have j8 := c8.blk _ _ (show s.next + 1 < s7.next by omega) (by simp) j7
    have n8 := c8.next
    (repeat(first|refine pSeq ?_|refine pReg ?_|refine sCons ?_|refine sNil ?_|refine rCons ?_|refine rNil ?_|refine kNo ?_|refine pRow ?_|refine pSkip ?_|refine pRet ?_|refine pCond ?_|refine gNone ?_))
    intro n hnn
    subst hnn
    (repeat(first|refine pSeq ?_|refine pReg ?_|refine sCons ?_|refine sNil ?_|refine rCons ?_|refine rNil ?_|refine kNo ?_|refine pRow ?_|refine pSkip ?_|refine pRet ?_|refine pCond ?_|refine gNone ?_))
    intro q hq
    by_cases hlong : 8192 < (textM m2).length
    · obtain rfl : q = true := by rw [hq]; simp; omega
      rw [if_pos hlong]
      (repeat(first|refine pSeq ?_|refine pReg ?_|refine sCons ?_|refine sNil ?_|refine rCons ?_|refine rNil ?_|refine kNo ?_|refine pRow ?_|refine pSkip ?_|refine pRet ?_|refine pCond ?_|refine gNone ?_))
      refine st_abs (cs' := msC msZ none 0) rfl rfl j8 (show s.next + 1 < s8.next by omega) rfl rfl fun s9 e9 c9 n9 => ?_
      (repeat(first|refine pSeq ?_|refine pReg ?_|refine sCons ?_|refine sNil ?_|refine rCons ?_|refine rNil ?_|refine kNo ?_|refine pRow ?_|refine pSkip ?_|refine pRet ?_|refine pCond ?_|refine gNone ?_))
      (repeat (first | with_reducible refine sqRet ?_ | with_reducible refine bkRet ?_ | with_reducible refine hdRet ?_))
      exact ret_cell agg_Ms sz_Ms rfl e9 agm3 rfl ⟨none, 0, rfl, fs_none, c08.fresh c9 (by simp), by simp [blkOf]⟩
    · obtain rfl : q = false := by rw [hq]; simp; omega
      rw [if_neg hlong]
      (repeat(first|refine pSeq ?_|refine pReg ?_|refine sCons ?_|refine sNil ?_|refine rCons ?_|refine rNil ?_|refine kNo ?_|refine pRow ?_|refine pSkip ?_|refine pRet ?_|refine pCond ?_|refine gNone ?_))
      refine ldN_is rfl e8 agm3 ?_
      (repeat(first|refine pSeq ?_|refine pReg ?_|refine sCons ?_|refine sNil ?_|refine rCons ?_|refine rNil ?_|refine kNo ?_|refine pRow ?_|refine pSkip ?_|refine pRet ?_|refine pCond ?_|refine gNone ?_))
      refine st_abs (cs' := msC m2 W6 0) rfl rfl j8 (show s.next + 1 < s8.next by omega) rfl rfl fun s9 e9 c9 n9 => ?_
      (repeat(first|refine pSeq ?_|refine pReg ?_|refine sCons ?_|refine sNil ?_|refine rCons ?_|refine rNil ?_|refine kNo ?_|refine pRow ?_|refine pSkip ?_|refine pRet ?_|refine pCond ?_|refine gNone ?_))
      (repeat (first | with_reducible refine sqRet ?_ | with_reducible refine bkRet ?_ | with_reducible refine hdRet ?_))
      refine ret_cell agg_Ms sz_Ms rfl e9 agm3 rfl ⟨W6, 0, rfl, o8.chg c9 (fun id hid q => (hoff id hid).2 (by simpa using q)), c08.fresh c9 (by simp), fun id hid => ?_⟩
      have := w6 id hid
      omega
end Go.Vf.S
