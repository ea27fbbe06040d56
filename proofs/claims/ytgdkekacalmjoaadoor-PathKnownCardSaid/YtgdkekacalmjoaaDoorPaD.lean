import Derived.Test.YtgdkekacalmjoaaDoorPaC
import Derived.Test.YtgdkekacalmjoaaDoorEngBf
/- Paths: what is known. -/
namespace Go.Vf.S
open Go Go.Vf Go.MapKept
attribute [local irreducible] wSeq wRow wp wG
set_option linter.unusedVariables false
set_option linter.unusedSimpArgs false
set_option maxRecDepth 10000

theorem known_w {s : SS} {pb : Nat} {p : Pv} (hb : lookH s.heap pb = some (.cells (pvCells p) tPm false false)) (hl : pb < s.next) (hf : Fine s) :
    CallW pr n_path_Params_known [.pointer (some ⟨pb, 0, none⟩)] s fun v s' => ∃ pc bc mp, v = .map (some mp) ∧ PvAt s' pc pb p ∧ lookH s'.heap bc = some (.cells [.int .i64 0] tI false false) ∧ bc < s'.next ∧ lookH s'.heap mp = some (.map (knownM pc bc) 2) ∧ mp < s'.next ∧ Chg s s' [] ∧ s.next ≤ bc := by
  refine CallW.run good ok_path_Params_known (by simp) rfl ?_
  have cA := Chg.new (s := s) (b := .cells (flat (.pointer (some ⟨pb, 0, none⟩))) tPp false false) []
  have eA : lookH ({ s with heap := (s.next, some (.cells (flat (.pointer (some ⟨pb, 0, none⟩))) tPp false false)) :: s.heap, next := s.next + 1 } : SS).heap s.next = some (.cells [.pointer (some ⟨pb, 0, none⟩)] tPp false false) := lkH
  have nA : ({ s with heap := (s.next, some (.cells (flat (.pointer (some ⟨pb, 0, none⟩))) tPp false false)) :: s.heap, next := s.next + 1 } : SS).next = s.next + 1 := rfl
  (repeat(first|refine pSeq ?_|refine pReg ?_|refine sRaw ?_|refine sCons ?_|refine sNil ?_|refine pRet ?_|refine gNone ?_))
  generalize ({ s with heap := (s.next, some (.cells (flat (.pointer (some ⟨pb, 0, none⟩))) tPp false false)) :: s.heap, next := s.next + 1 } : SS) = s1 at *
  have h1 : PvAt s1 s.next pb p := ⟨eA, cA.blk _ _ hl (by simp) hb, by omega, by omega⟩
  have cB := Chg.new (s := s1) (b := .cells [.int .i64 0] tI false false) []
  refine st_abs rfl rfl lkH (Nat.lt_succ_self _) rfl rfl fun s2 e2 c2 n2 => ?_
  have c12 : Chg s1 s2 [] := cB.fresh c2 (fun id q => by simp at q; omega)
  have h2 := h1.chg c12 (by simp) (by simp)
  have n2' : s2.next = s1.next + 1 := n2
  (repeat(first|refine pSeq ?_|refine pReg ?_|refine sRaw ?_|refine sCons ?_|refine sNil ?_|refine pRet ?_|refine gNone ?_))
  refine ⟨.new (.map [] 0) fun id => .map (some id), rfl, ?_⟩
  (repeat(first|refine pSeq ?_|refine pReg ?_|refine sRaw ?_|refine sCons ?_|refine sNil ?_|refine pRet ?_|refine gNone ?_))
  have cM : Chg s2 ({ s2 with heap := (s2.next, some (.map [] 0)) :: s2.heap, next := s2.next + 1 } : SS) [] := Chg.new []
  have eM : lookH ({ s2 with heap := (s2.next, some (.map [] 0)) :: s2.heap, next := s2.next + 1 } : SS).heap s2.next = some (.map [] 0) := lkH
  have nM : ({ s2 with heap := (s2.next, some (.map [] 0)) :: s2.heap, next := s2.next + 1 } : SS).next = s2.next + 1 := rfl
  generalize ({ s2 with heap := (s2.next, some (.map [] 0)) :: s2.heap, next := s2.next + 1 } : SS) = s3 at cM eM nM ⊢
  refine ⟨.val (.func (.func n_path_Params_known_1) #[] #[.pointer (some ⟨s.next, 0, none⟩)]), rfl, ?_⟩
  (repeat(first|refine pSeq ?_|refine pReg ?_|refine sRaw ?_|refine sCons ?_|refine sNil ?_|refine pRet ?_|refine gNone ?_))
  refine insert_abs rfl um_kn un_S rfl rfl rfl eM (by omega) (by decide) (by decide) fun s4 e4 c4 n4 => ?_
  (repeat(first|refine pSeq ?_|refine pReg ?_|refine sRaw ?_|refine sCons ?_|refine sNil ?_|refine pRet ?_|refine gNone ?_))
  refine ⟨.val (.func (.func n_path_Params_known_2) #[] #[.pointer (some ⟨s1.next, 0, none⟩), .pointer (some ⟨s.next, 0, none⟩)]), rfl, ?_⟩
  (repeat(first|refine pSeq ?_|refine pReg ?_|refine sRaw ?_|refine sCons ?_|refine sNil ?_|refine pRet ?_|refine gNone ?_))
  refine insert_abs rfl um_kn un_S rfl rfl rfl e4 (by omega) rfl rfl fun s5 e5 c5 n5 => ?_
  (repeat(first|refine pSeq ?_|refine pReg ?_|refine sRaw ?_|refine sCons ?_|refine sNil ?_|refine pRet ?_|refine gNone ?_))
  have c25 : Chg s2 s5 [] := (cM.fresh c4 (by simp)).fresh c5 (by simp)
  exact ⟨s.next, s1.next, s2.next, rfl, h2.chg c25 (by simp) (by simp), c25.blk _ _ (by omega) (by simp) e2, by omega, e5, by omega, (cA.nil c12).nil c25, by omega⟩
end Go.Vf.S
