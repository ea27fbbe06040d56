import Derived.Test.YtioildcpkcijkaaDoorLgA
/- A log on its disk: Sync, wipe; whether there is a disk. -/
namespace Go.Vf.S
open Go Go.Vf Go.Vf.Fr
attribute [local irreducible] wSeq wRow wp wG
set_option linter.unusedVariables false
set_option linter.unusedSimpArgs false
set_option maxRecDepth 10000

theorem LAt.offW {s : SS} {g d d' : Nat} {A : Lg} {D : Dk} {B : Bs} (h : LAt s g d A) (k : DAt s d' D B) : g ∉ whole d' B := by
  intro hg
  simp only [whole, foot, bytesOfW, List.mem_append, List.mem_cons, List.mem_flatMap] at hg
  rcases hg with (rfl | (q | q) | q) | ⟨w, hw, q⟩
  · exact type_ne h.blk k.obj (by decide) rfl
  · obtain ⟨z, hz⟩ := k.sure.at g q
    exact type_ne h.blk hz (by decide) rfl
  · obtain ⟨z, hz⟩ := k.now.at g q
    exact type_ne h.blk hz (by decide) rfl
  · obtain ⟨z, hz⟩ := k.row.at g q
    exact type_ne h.blk hz (by decide) rfl
  · obtain ⟨z, hz⟩ := (k.each w hw).1.at g q
    exact type_ne h.blk hz (by decide) rfl
theorem LAt.off {s : SS} {g d d' : Nat} {A : Lg} {D : Dk} {B : Bs} (h : LAt s g d A) (k : DAt s d' D B) : g ∉ foot d' B := fun q => h.offW k (List.mem_append_left _ q)

/-- What is appended is sure. -/
def Lg.synced (A : Lg) : Lg := { A with sure := A.many }

theorem lsync_w {s : SS} {g d : Nat} {A : Lg} {D : Dk} {B : Bs} (h : LAt s g d A) (k : DAt s d D B) : CallW pr n_log_Log_Sync [.pointer (some ⟨g, 0, none⟩)] s fun v s' => v = .int .i64 0 ∧ LAt s' g d A.synced ∧ ∃ B', DAt s' d D.synced B' ∧ Chg s s' (g :: foot d B) ∧ B'.wl = [] ∧ (∀ id ∈ whole d B', id ∈ whole d B ∨ s.next ≤ id) := by
  refine CallW.run good ok_log_Log_Sync (by simp) rfl ?_
  (repeat(first|refine pSeq ?_|refine pReg ?_|refine sCons ?_|refine sNil ?_|refine pSkip ?_|refine pRet ?_|refine pCond ?_|refine gNone ?_))
  refine (lnone_w h).mono fun v s' q => ?_
  obtain ⟨rfl, rfl⟩ := q
  (repeat(first|refine pSeq ?_|refine pReg ?_|refine sCons ?_|refine sNil ?_|refine pSkip ?_|refine pRet ?_|refine pCond ?_|refine gNone ?_))
  refine ld1_is rfl h.blk rfl ?_
  (repeat(first|refine pSeq ?_|refine pReg ?_|refine sCons ?_|refine sNil ?_|refine pSkip ?_|refine pRet ?_|refine pCond ?_|refine gNone ?_))
  refine (sync_w k).mono fun v s1 q => ?_
  obtain ⟨rfl, B1, k1, st, hw⟩ := q
  have h1 := h.chg st.chg (h.off k)
  (repeat(first|refine pSeq ?_|refine pReg ?_|refine sCons ?_|refine sNil ?_|refine pSkip ?_|refine pRet ?_|refine pCond ?_|refine gNone ?_))
  intro q hq
  obtain rfl : q = false := by rw [hq]; rfl
  (repeat(first|refine pSeq ?_|refine pReg ?_|refine sCons ?_|refine sNil ?_|refine pSkip ?_|refine pRet ?_|refine pCond ?_|refine gNone ?_))
  refine ldI_is rfl h1.blk rfl ?_
  (repeat(first|refine pSeq ?_|refine pReg ?_|refine sCons ?_|refine sNil ?_|refine pSkip ?_|refine pRet ?_|refine pCond ?_|refine gNone ?_))
  refine st_abs rfl rfl h1.blk h1.lt rfl rfl fun s2 e2 c2 n2 => ?_
  have hoff := h1.offW k1
  (repeat(first|refine pSeq ?_|refine pReg ?_|refine sCons ?_|refine sNil ?_|refine pSkip ?_|refine pRet ?_|refine pCond ?_|refine gNone ?_))
  exact ⟨rfl, ⟨by rw [n2]; exact h1.lt, e2⟩, B1, k1.chg c2 (fun id hid q => by
    obtain rfl : id = g := by simpa using q
    exact hoff hid), (st.chg).trans' c2 (fun id q _ => List.mem_cons_of_mem _ q) (fun id q _ => by simp only [List.mem_singleton] at q; subst q; exact List.mem_cons_self ..), hw, st.al⟩

/-- Whether there is a disk: a write that is refused. -/
theorem isDisk_w {s : SS} {d : Nat} {D : Dk} {B : Bs} (k : DAt s d D B) (hf : Fine s) (hw : B.wl.length < 10000) : CallW pr n_log_none [.pointer (some ⟨d, 0, none⟩)] s fun v s' => v = .bool false ∧ ∃ B', DAt s' d D B' ∧ Step d s B s' B' ∧ B'.wl.length ≤ B.wl.length + 1 := by
  refine CallW.run good ok_log_none (by simp) rfl ?_
  (repeat(first|refine pSeq ?_|refine pReg ?_|refine sCons ?_|refine sNil ?_|refine pRet ?_|refine gNone ?_))
  refine (write_w (k := -1) (l := []) (n := 0) (X := none) (cx := 0) k hf ⟨rfl, rfl⟩ (by omega) hw (by omega)).mono fun v s1 q => ?_
  obtain ⟨rfl, B1, k1, st, hl⟩ := q
  have e : D.wrote (-1) [] = (1, D) := by unfold Dk.wrote; rw [if_pos (by omega)]
  rw [e] at k1 ⊢
  (repeat(first|refine pSeq ?_|refine pReg ?_|refine sCons ?_|refine sNil ?_|refine pRet ?_|refine gNone ?_))
  intro q hq
  obtain rfl : q = false := by rw [hq]; rfl
  (repeat(first|refine pSeq ?_|refine pReg ?_|refine sCons ?_|refine sNil ?_|refine pRet ?_|refine gNone ?_))
  exact ⟨rfl, B1, k1, st, hl⟩
end Go.Vf.S
