import Derived.Test.YtneanogeebbjiaaDoorTxH
import Derived.Test.YtneanogeebbjiaaDoorTxL
import Derived.Test.YtneanogeebbjiaaDoorTxM
import Derived.Test.YtneanogeebbjiaaDoorTxP
import Derived.Test.YtneanogeebbjiaaDoorEngMr
/- The chapter's rows, what is wrong, one by one, and numbers: the law. -/
namespace Go.Vf.S
open Go Go.Vf
attribute [local irreducible] wSeq wRow wp wG
set_option linter.unusedVariables false
set_option linter.unusedSimpArgs false
set_option maxRecDepth 10000

theorem um : pr.underlying 55 = some (.map 9 22) := by kernel_rfl

def esQ : List MapEntry := [⟨str [], .int .i64 5, 0⟩, ⟨str [97], .int .i64 5, 1⟩, ⟨str [34], .int .i64 4, 2⟩, ⟨str [34, 97], .int .i64 4, 3⟩, ⟨str [34, 97, 92], .int .i64 4, 4⟩, ⟨str [34, 92, 34], .int .i64 4, 5⟩, ⟨str [34, 34], .int .i64 0, 6⟩, ⟨str [34, 92, 34, 34], .int .i64 0, 7⟩, ⟨str [34, 97, 9, 98, 34], .int .i64 5, 8⟩, ⟨str [34, 92, 9, 34], .int .i64 5, 9⟩, ⟨str [34, 128, 34], .int .i64 5, 10⟩, ⟨str [34, 32, 34, 120], .int .i64 0, 11⟩]
theorem esQ_is {e : MapEntry} (h : e ∈ esQ) : ∃ l, e.key = str l ∧ e.val = .int .i64 ((quotedF l).2.2 : Nat) ∧ l.length ≤ 1000000 ∧ e.born < 12 := by
  simp only [esQ, List.mem_cons, List.not_mem_nil, or_false] at h
  rcases h with rfl | rfl | rfl | rfl | rfl | rfl | rfl | rfl | rfl | rfl | rfl | rfl
  · exact ⟨[], rfl, by rw [show (quotedF []).2.2 = 5 by decide]; rfl, by decide, by decide⟩
  · exact ⟨[97], rfl, by rw [show (quotedF [97]).2.2 = 5 by decide]; rfl, by decide, by decide⟩
  · exact ⟨[34], rfl, by rw [show (quotedF [34]).2.2 = 4 by decide]; rfl, by decide, by decide⟩
  · exact ⟨[34, 97], rfl, by rw [show (quotedF [34, 97]).2.2 = 4 by decide]; rfl, by decide, by decide⟩
  · exact ⟨[34, 97, 92], rfl, by rw [show (quotedF [34, 97, 92]).2.2 = 4 by decide]; rfl, by decide, by decide⟩
  · exact ⟨[34, 92, 34], rfl, by rw [show (quotedF [34, 92, 34]).2.2 = 4 by decide]; rfl, by decide, by decide⟩
  · exact ⟨[34, 34], rfl, by rw [show (quotedF [34, 34]).2.2 = 0 by decide]; rfl, by decide, by decide⟩
  · exact ⟨[34, 92, 34, 34], rfl, by rw [show (quotedF [34, 92, 34, 34]).2.2 = 0 by decide]; rfl, by decide, by decide⟩
  · exact ⟨[34, 97, 9, 98, 34], rfl, by rw [show (quotedF [34, 97, 9, 98, 34]).2.2 = 5 by decide]; rfl, by decide, by decide⟩
  · exact ⟨[34, 92, 9, 34], rfl, by rw [show (quotedF [34, 92, 9, 34]).2.2 = 5 by decide]; rfl, by decide, by decide⟩
  · exact ⟨[34, 128, 34], rfl, by rw [show (quotedF [34, 128, 34]).2.2 = 5 by decide]; rfl, by decide, by decide⟩
  · exact ⟨[34, 32, 34, 120], rfl, by rw [show (quotedF [34, 32, 34, 120]).2.2 = 0 by decide]; rfl, by decide, by decide⟩
def esC : List MapEntry := [⟨str [], .int .i64 5, 0⟩, ⟨str [41], .int .i64 5, 1⟩, ⟨str [40], .int .i64 4, 2⟩, ⟨str [40, 41], .int .i64 0, 3⟩, ⟨str [40, 40, 41], .int .i64 4, 4⟩, ⟨str [40, 92, 41, 41], .int .i64 0, 5⟩, ⟨str [40, 92], .int .i64 4, 6⟩, ⟨str [40, 9, 41], .int .i64 0, 7⟩, ⟨str [40, 10, 41], .int .i64 5, 8⟩, ⟨str [40, 92, 9, 41], .int .i64 5, 9⟩, ⟨str [40, 40, 40, 40, 40, 40, 40, 40, 97, 41, 41, 41, 41, 41, 41, 41, 41], .int .i64 0, 10⟩, ⟨str [40, 40, 40, 40, 40, 40, 40, 40, 40], .int .i64 3, 11⟩]
theorem esC_is {e : MapEntry} (h : e ∈ esC) : ∃ l, e.key = str l ∧ e.val = .int .i64 ((commentF l).2 : Nat) ∧ l.length ≤ 1000000 ∧ e.born < 12 := by
  simp only [esC, List.mem_cons, List.not_mem_nil, or_false] at h
  rcases h with rfl | rfl | rfl | rfl | rfl | rfl | rfl | rfl | rfl | rfl | rfl | rfl
  · exact ⟨[], rfl, by rw [show (commentF []).2 = 5 by decide]; rfl, by decide, by decide⟩
  · exact ⟨[41], rfl, by rw [show (commentF [41]).2 = 5 by decide]; rfl, by decide, by decide⟩
  · exact ⟨[40], rfl, by rw [show (commentF [40]).2 = 4 by decide]; rfl, by decide, by decide⟩
  · exact ⟨[40, 41], rfl, by rw [show (commentF [40, 41]).2 = 0 by decide]; rfl, by decide, by decide⟩
  · exact ⟨[40, 40, 41], rfl, by rw [show (commentF [40, 40, 41]).2 = 4 by decide]; rfl, by decide, by decide⟩
  · exact ⟨[40, 92, 41, 41], rfl, by rw [show (commentF [40, 92, 41, 41]).2 = 0 by decide]; rfl, by decide, by decide⟩
  · exact ⟨[40, 92], rfl, by rw [show (commentF [40, 92]).2 = 4 by decide]; rfl, by decide, by decide⟩
  · exact ⟨[40, 9, 41], rfl, by rw [show (commentF [40, 9, 41]).2 = 0 by decide]; rfl, by decide, by decide⟩
  · exact ⟨[40, 10, 41], rfl, by rw [show (commentF [40, 10, 41]).2 = 5 by decide]; rfl, by decide, by decide⟩
  · exact ⟨[40, 92, 9, 41], rfl, by rw [show (commentF [40, 92, 9, 41]).2 = 5 by decide]; rfl, by decide, by decide⟩
  · exact ⟨[40, 40, 40, 40, 40, 40, 40, 40, 97, 41, 41, 41, 41, 41, 41, 41, 41], rfl, by rw [show (commentF [40, 40, 40, 40, 40, 40, 40, 40, 97, 41, 41, 41, 41, 41, 41, 41, 41]).2 = 0 by decide]; rfl, by decide, by decide⟩
  · exact ⟨[40, 40, 40, 40, 40, 40, 40, 40, 40], rfl, by rw [show (commentF [40, 40, 40, 40, 40, 40, 40, 40, 40]).2 = 3 by decide]; rfl, by decide, by decide⟩

theorem born12 : (esQ.map (·.born)).Nodup ∧ (esC.map (·.born)).Nodup := by decide

set_option maxHeartbeats 4000000 in
theorem known_w {s : SS} (hG : Gb s) (hF : Fine s) : CallW pr n_law04_TextKnown [] s fun v s' => v = .bool true := by
  refine CallW.run good ok_law04_TextKnown (by simp) rfl ?_
  (repeat (first | refine pSeq ?_ | refine pReg ?_ | refine sRaw ?_ | refine sCons ?_ | refine sNil ?_ | refine rCons ?_ | refine rNil ?_ | refine kNo ?_ | refine pRow ?_ | refine pBlock ?_ | refine pSkip ?_ | refine pExit ?_ | refine pRet ?_ | refine pCond ?_ | refine gNone ?_ | refine gOn rfl ?_ | refine gOff rfl rfl ?_ | refine gTup rfl ?_))
  refine ⟨.new (.map [] 0) fun id => .map (some id), rfl, ?_⟩
  (repeat (first | refine pSeq ?_ | refine pReg ?_ | refine sRaw ?_ | refine sCons ?_ | refine sNil ?_ | refine rCons ?_ | refine rNil ?_ | refine kNo ?_ | refine pRow ?_ | refine pBlock ?_ | refine pSkip ?_ | refine pExit ?_ | refine pRet ?_ | refine pCond ?_ | refine gNone ?_ | refine gOn rfl ?_ | refine gOff rfl rfl ?_ | refine gTup rfl ?_))
  have hmesQ_0 : lookH (({ s with heap := (s.next, some (.map [] 0)) :: s.heap, next := s.next + 1 } : SS)).heap s.next = some (.map [] 0) := lkH
  have ccesQ_0 : Chg s ({ s with heap := (s.next, some (.map [] 0)) :: s.heap, next := s.next + 1 } : SS) [] := Chg.new []
  have nbesQ : s.next ≤ s.next := Nat.le_refl _
  have nxesQ_0 : (({ s with heap := (s.next, some (.map [] 0)) :: s.heap, next := s.next + 1 } : SS)).next = s.next + 1 := rfl
  generalize ({ s with heap := (s.next, some (.map [] 0)) :: s.heap, next := s.next + 1 } : SS) = aesQ_0 at hmesQ_0 ccesQ_0 nxesQ_0 ⊢
  refine insert_abs rfl um un_S rfl rfl rfl hmesQ_0 (by omega) (by decide) (by decide) fun aesQ_1 hmesQ_1 cesQ_1 nesQ_1 => ?_
  (repeat (first | refine pSeq ?_ | refine pReg ?_ | refine sRaw ?_ | refine sCons ?_ | refine sNil ?_ | refine rCons ?_ | refine rNil ?_ | refine kNo ?_ | refine pRow ?_ | refine pBlock ?_ | refine pSkip ?_ | refine pExit ?_ | refine pRet ?_ | refine pCond ?_ | refine gNone ?_ | refine gOn rfl ?_ | refine gOff rfl rfl ?_ | refine gTup rfl ?_))
  have ccesQ_1 := ccesQ_0.fresh cesQ_1 (by simp <;> omega)
  have nxesQ_1 : aesQ_1.next = s.next + 1 := by omega
  refine insert_abs rfl um un_S rfl rfl rfl hmesQ_1 (by omega) (by decide) (by decide) fun aesQ_2 hmesQ_2 cesQ_2 nesQ_2 => ?_
  (repeat (first | refine pSeq ?_ | refine pReg ?_ | refine sRaw ?_ | refine sCons ?_ | refine sNil ?_ | refine rCons ?_ | refine rNil ?_ | refine kNo ?_ | refine pRow ?_ | refine pBlock ?_ | refine pSkip ?_ | refine pExit ?_ | refine pRet ?_ | refine pCond ?_ | refine gNone ?_ | refine gOn rfl ?_ | refine gOff rfl rfl ?_ | refine gTup rfl ?_))
  have ccesQ_2 := ccesQ_1.fresh cesQ_2 (by simp <;> omega)
  have nxesQ_2 : aesQ_2.next = s.next + 1 := by omega
  refine insert_abs rfl um un_S rfl rfl rfl hmesQ_2 (by omega) (by decide) (by decide) fun aesQ_3 hmesQ_3 cesQ_3 nesQ_3 => ?_
  (repeat (first | refine pSeq ?_ | refine pReg ?_ | refine sRaw ?_ | refine sCons ?_ | refine sNil ?_ | refine rCons ?_ | refine rNil ?_ | refine kNo ?_ | refine pRow ?_ | refine pBlock ?_ | refine pSkip ?_ | refine pExit ?_ | refine pRet ?_ | refine pCond ?_ | refine gNone ?_ | refine gOn rfl ?_ | refine gOff rfl rfl ?_ | refine gTup rfl ?_))
  have ccesQ_3 := ccesQ_2.fresh cesQ_3 (by simp <;> omega)
  have nxesQ_3 : aesQ_3.next = s.next + 1 := by omega
  refine insert_abs rfl um un_S rfl rfl rfl hmesQ_3 (by omega) (by decide) (by decide) fun aesQ_4 hmesQ_4 cesQ_4 nesQ_4 => ?_
  (repeat (first | refine pSeq ?_ | refine pReg ?_ | refine sRaw ?_ | refine sCons ?_ | refine sNil ?_ | refine rCons ?_ | refine rNil ?_ | refine kNo ?_ | refine pRow ?_ | refine pBlock ?_ | refine pSkip ?_ | refine pExit ?_ | refine pRet ?_ | refine pCond ?_ | refine gNone ?_ | refine gOn rfl ?_ | refine gOff rfl rfl ?_ | refine gTup rfl ?_))
  have ccesQ_4 := ccesQ_3.fresh cesQ_4 (by simp <;> omega)
  have nxesQ_4 : aesQ_4.next = s.next + 1 := by omega
  refine insert_abs rfl um un_S rfl rfl rfl hmesQ_4 (by omega) (by decide) (by decide) fun aesQ_5 hmesQ_5 cesQ_5 nesQ_5 => ?_
  (repeat (first | refine pSeq ?_ | refine pReg ?_ | refine sRaw ?_ | refine sCons ?_ | refine sNil ?_ | refine rCons ?_ | refine rNil ?_ | refine kNo ?_ | refine pRow ?_ | refine pBlock ?_ | refine pSkip ?_ | refine pExit ?_ | refine pRet ?_ | refine pCond ?_ | refine gNone ?_ | refine gOn rfl ?_ | refine gOff rfl rfl ?_ | refine gTup rfl ?_))
  have ccesQ_5 := ccesQ_4.fresh cesQ_5 (by simp <;> omega)
  have nxesQ_5 : aesQ_5.next = s.next + 1 := by omega
  refine insert_abs rfl um un_S rfl rfl rfl hmesQ_5 (by omega) (by decide) (by decide) fun aesQ_6 hmesQ_6 cesQ_6 nesQ_6 => ?_
  (repeat (first | refine pSeq ?_ | refine pReg ?_ | refine sRaw ?_ | refine sCons ?_ | refine sNil ?_ | refine rCons ?_ | refine rNil ?_ | refine kNo ?_ | refine pRow ?_ | refine pBlock ?_ | refine pSkip ?_ | refine pExit ?_ | refine pRet ?_ | refine pCond ?_ | refine gNone ?_ | refine gOn rfl ?_ | refine gOff rfl rfl ?_ | refine gTup rfl ?_))
  have ccesQ_6 := ccesQ_5.fresh cesQ_6 (by simp <;> omega)
  have nxesQ_6 : aesQ_6.next = s.next + 1 := by omega
  refine insert_abs rfl um un_S rfl rfl rfl hmesQ_6 (by omega) (by decide) (by decide) fun aesQ_7 hmesQ_7 cesQ_7 nesQ_7 => ?_
  (repeat (first | refine pSeq ?_ | refine pReg ?_ | refine sRaw ?_ | refine sCons ?_ | refine sNil ?_ | refine rCons ?_ | refine rNil ?_ | refine kNo ?_ | refine pRow ?_ | refine pBlock ?_ | refine pSkip ?_ | refine pExit ?_ | refine pRet ?_ | refine pCond ?_ | refine gNone ?_ | refine gOn rfl ?_ | refine gOff rfl rfl ?_ | refine gTup rfl ?_))
  have ccesQ_7 := ccesQ_6.fresh cesQ_7 (by simp <;> omega)
  have nxesQ_7 : aesQ_7.next = s.next + 1 := by omega
  refine insert_abs rfl um un_S rfl rfl rfl hmesQ_7 (by omega) (by decide) (by decide) fun aesQ_8 hmesQ_8 cesQ_8 nesQ_8 => ?_
  (repeat (first | refine pSeq ?_ | refine pReg ?_ | refine sRaw ?_ | refine sCons ?_ | refine sNil ?_ | refine rCons ?_ | refine rNil ?_ | refine kNo ?_ | refine pRow ?_ | refine pBlock ?_ | refine pSkip ?_ | refine pExit ?_ | refine pRet ?_ | refine pCond ?_ | refine gNone ?_ | refine gOn rfl ?_ | refine gOff rfl rfl ?_ | refine gTup rfl ?_))
  have ccesQ_8 := ccesQ_7.fresh cesQ_8 (by simp <;> omega)
  have nxesQ_8 : aesQ_8.next = s.next + 1 := by omega
  refine insert_abs rfl um un_S rfl rfl rfl hmesQ_8 (by omega) (by decide) (by decide) fun aesQ_9 hmesQ_9 cesQ_9 nesQ_9 => ?_
  (repeat (first | refine pSeq ?_ | refine pReg ?_ | refine sRaw ?_ | refine sCons ?_ | refine sNil ?_ | refine rCons ?_ | refine rNil ?_ | refine kNo ?_ | refine pRow ?_ | refine pBlock ?_ | refine pSkip ?_ | refine pExit ?_ | refine pRet ?_ | refine pCond ?_ | refine gNone ?_ | refine gOn rfl ?_ | refine gOff rfl rfl ?_ | refine gTup rfl ?_))
  have ccesQ_9 := ccesQ_8.fresh cesQ_9 (by simp <;> omega)
  have nxesQ_9 : aesQ_9.next = s.next + 1 := by omega
  refine insert_abs rfl um un_S rfl rfl rfl hmesQ_9 (by omega) (by decide) (by decide) fun aesQ_10 hmesQ_10 cesQ_10 nesQ_10 => ?_
  (repeat (first | refine pSeq ?_ | refine pReg ?_ | refine sRaw ?_ | refine sCons ?_ | refine sNil ?_ | refine rCons ?_ | refine rNil ?_ | refine kNo ?_ | refine pRow ?_ | refine pBlock ?_ | refine pSkip ?_ | refine pExit ?_ | refine pRet ?_ | refine pCond ?_ | refine gNone ?_ | refine gOn rfl ?_ | refine gOff rfl rfl ?_ | refine gTup rfl ?_))
  have ccesQ_10 := ccesQ_9.fresh cesQ_10 (by simp <;> omega)
  have nxesQ_10 : aesQ_10.next = s.next + 1 := by omega
  refine insert_abs rfl um un_S rfl rfl rfl hmesQ_10 (by omega) (by decide) (by decide) fun aesQ_11 hmesQ_11 cesQ_11 nesQ_11 => ?_
  (repeat (first | refine pSeq ?_ | refine pReg ?_ | refine sRaw ?_ | refine sCons ?_ | refine sNil ?_ | refine rCons ?_ | refine rNil ?_ | refine kNo ?_ | refine pRow ?_ | refine pBlock ?_ | refine pSkip ?_ | refine pExit ?_ | refine pRet ?_ | refine pCond ?_ | refine gNone ?_ | refine gOn rfl ?_ | refine gOff rfl rfl ?_ | refine gTup rfl ?_))
  have ccesQ_11 := ccesQ_10.fresh cesQ_11 (by simp <;> omega)
  have nxesQ_11 : aesQ_11.next = s.next + 1 := by omega
  refine insert_abs rfl um un_S rfl rfl rfl hmesQ_11 (by omega) (by decide) (by decide) fun aesQ_12 hmesQ_12 cesQ_12 nesQ_12 => ?_
  (repeat (first | refine pSeq ?_ | refine pReg ?_ | refine sRaw ?_ | refine sCons ?_ | refine sNil ?_ | refine rCons ?_ | refine rNil ?_ | refine kNo ?_ | refine pRow ?_ | refine pBlock ?_ | refine pSkip ?_ | refine pExit ?_ | refine pRet ?_ | refine pCond ?_ | refine gNone ?_ | refine gOn rfl ?_ | refine gOff rfl rfl ?_ | refine gTup rfl ?_))
  have ccesQ_12 := ccesQ_11.fresh cesQ_12 (by simp <;> omega)
  have nxesQ_12 : aesQ_12.next = s.next + 1 := by omega
  have hmE : lookH aesQ_12.heap s.next = some (.map esQ 12) := hmesQ_12
  have hfE : Fine aesQ_12 := ccesQ_12.fine hF
  refine range_W rfl um rfl hmE ?_
  (repeat (first | refine pSeq ?_ | refine pReg ?_ | refine sRaw ?_ | refine sCons ?_ | refine sNil ?_ | refine rCons ?_ | refine rNil ?_ | refine kNo ?_ | refine pRow ?_ | refine pBlock ?_ | refine pSkip ?_ | refine pExit ?_ | refine pRet ?_ | refine pCond ?_ | refine gNone ?_ | refine gOn rfl ?_ | refine gOff rfl rfl ?_ | refine gTup rfl ?_))
  refine pLoop (MW.maps good (id0 := 0) (g := ⟨aesQ_12, aesQ_12.next, s.next, 12, esQ, [(32, .pointer (some ⟨aesQ_12.next, 0, none⟩))]⟩) rfl (Wk.same ⟨rfl, trivial⟩) rfl hmE (by show aesQ_12.next ≠ s.next; omega) (fun e he => by obtain ⟨_, _, _, _, h⟩ := esQ_is he; exact h) ?_ ?_ ?_)
  · intro n seen hn e he hs
    have hn' : aesQ_12.next < n := hn
    obtain ⟨l, hk, hv, hl, hb⟩ := esQ_is he
    rw [hk, hv]
    (repeat (first | refine pSeq ?_ | refine pReg ?_ | refine sRaw ?_ | refine sCons ?_ | refine sNil ?_ | refine rCons ?_ | refine rNil ?_ | refine kNo ?_ | refine pRow ?_ | refine pBlock ?_ | refine pSkip ?_ | refine pExit ?_ | refine pRet ?_ | refine pCond ?_ | refine gNone ?_ | refine gOn rfl ?_ | refine gOff rfl rfl ?_ | refine gTup rfl ?_))
    refine entry_W (e := e) rfl rfl lkH (lkT (show aesQ_12.next ≠ s.next by omega) hmE) he born12.1 ?_
    rw [hk, hv]
    (repeat (first | refine pSeq ?_ | refine pReg ?_ | refine sRaw ?_ | refine sCons ?_ | refine sNil ?_ | refine rCons ?_ | refine rNil ?_ | refine kNo ?_ | refine pRow ?_ | refine pBlock ?_ | refine pSkip ?_ | refine pExit ?_ | refine pRet ?_ | refine pCond ?_ | refine gNone ?_ | refine gOn rfl ?_ | refine gOff rfl rfl ?_ | refine gTup rfl ?_))
    refine (quoted_w hl).mono fun v s3 q => ?_
    obtain ⟨rfl, c3⟩ := q
    (repeat (first | refine pSeq ?_ | refine pReg ?_ | refine sRaw ?_ | refine sCons ?_ | refine sNil ?_ | refine rCons ?_ | refine rNil ?_ | refine kNo ?_ | refine pRow ?_ | refine pBlock ?_ | refine pSkip ?_ | refine pExit ?_ | refine pRet ?_ | refine pCond ?_ | refine gNone ?_ | refine gOn rfl ?_ | refine gOff rfl rfl ?_ | refine gTup rfl ?_))
    intro q hq
    obtain rfl : q = false := by rw [hq]; simp
    (repeat (first | refine pSeq ?_ | refine pReg ?_ | refine sRaw ?_ | refine sCons ?_ | refine sNil ?_ | refine rCons ?_ | refine rNil ?_ | refine kNo ?_ | refine pRow ?_ | refine pBlock ?_ | refine pSkip ?_ | refine pExit ?_ | refine pRet ?_ | refine pCond ?_ | refine gNone ?_ | refine gOn rfl ?_ | refine gOff rfl rfl ?_ | refine gTup rfl ?_))
    exact ⟨rfl, MapL.back ⟨rfl, trivial⟩ hfE rfl hn' c3⟩
  · intro n seen hn
    (repeat (first | refine pSeq ?_ | refine pReg ?_ | refine sRaw ?_ | refine sCons ?_ | refine sNil ?_ | refine rCons ?_ | refine rNil ?_ | refine kNo ?_ | refine pRow ?_ | refine pBlock ?_ | refine pSkip ?_ | refine pExit ?_ | refine pRet ?_ | refine pCond ?_ | refine gNone ?_ | refine gOn rfl ?_ | refine gOff rfl rfl ?_ | refine gTup rfl ?_))
    exact ⟨rfl, MapL.over ⟨rfl, trivial⟩ hfE rfl⟩
  intro N hN
  have cfesQ := ccesQ_12.nil ((MapL.fin_chg ⟨aesQ_12, aesQ_12.next, s.next, 12, esQ, [(32, .pointer (some ⟨aesQ_12.next, 0, none⟩))]⟩ (n := N) (Nat.le_of_succ_le hN)))
  dsimp only [MapL.fin] at cfesQ ⊢
  generalize hst : ({ heap := aesQ_12.heap, next := N, gl := aesQ_12.gl } : SS) = fesQ at cfesQ ⊢
  (repeat (first | refine pSeq ?_ | refine pReg ?_ | refine sRaw ?_ | refine sCons ?_ | refine sNil ?_ | refine rCons ?_ | refine rNil ?_ | refine kNo ?_ | refine pRow ?_ | refine pBlock ?_ | refine pSkip ?_ | refine pExit ?_ | refine pRet ?_ | refine pCond ?_ | refine gNone ?_ | refine gOn rfl ?_ | refine gOff rfl rfl ?_ | refine gTup rfl ?_))
  refine ⟨.new (.map [] 0) fun id => .map (some id), rfl, ?_⟩
  (repeat (first | refine pSeq ?_ | refine pReg ?_ | refine sRaw ?_ | refine sCons ?_ | refine sNil ?_ | refine rCons ?_ | refine rNil ?_ | refine kNo ?_ | refine pRow ?_ | refine pBlock ?_ | refine pSkip ?_ | refine pExit ?_ | refine pRet ?_ | refine pCond ?_ | refine gNone ?_ | refine gOn rfl ?_ | refine gOff rfl rfl ?_ | refine gTup rfl ?_))
  have hmesC_0 : lookH (({ fesQ with heap := (fesQ.next, some (.map [] 0)) :: fesQ.heap, next := fesQ.next + 1 } : SS)).heap fesQ.next = some (.map [] 0) := lkH
  have ccesC_0 : Chg s ({ fesQ with heap := (fesQ.next, some (.map [] 0)) :: fesQ.heap, next := fesQ.next + 1 } : SS) [] := (cfesQ).nil (.new [])
  have nbesC : s.next ≤ fesQ.next := (cfesQ).next
  have nxesC_0 : (({ fesQ with heap := (fesQ.next, some (.map [] 0)) :: fesQ.heap, next := fesQ.next + 1 } : SS)).next = fesQ.next + 1 := rfl
  generalize ({ fesQ with heap := (fesQ.next, some (.map [] 0)) :: fesQ.heap, next := fesQ.next + 1 } : SS) = aesC_0 at hmesC_0 ccesC_0 nxesC_0 ⊢
  refine insert_abs rfl um un_S rfl rfl rfl hmesC_0 (by omega) (by decide) (by decide) fun aesC_1 hmesC_1 cesC_1 nesC_1 => ?_
  (repeat (first | refine pSeq ?_ | refine pReg ?_ | refine sRaw ?_ | refine sCons ?_ | refine sNil ?_ | refine rCons ?_ | refine rNil ?_ | refine kNo ?_ | refine pRow ?_ | refine pBlock ?_ | refine pSkip ?_ | refine pExit ?_ | refine pRet ?_ | refine pCond ?_ | refine gNone ?_ | refine gOn rfl ?_ | refine gOff rfl rfl ?_ | refine gTup rfl ?_))
  have ccesC_1 := ccesC_0.fresh cesC_1 (by simp <;> omega)
  have nxesC_1 : aesC_1.next = fesQ.next + 1 := by omega
  refine insert_abs rfl um un_S rfl rfl rfl hmesC_1 (by omega) (by decide) (by decide) fun aesC_2 hmesC_2 cesC_2 nesC_2 => ?_
  (repeat (first | refine pSeq ?_ | refine pReg ?_ | refine sRaw ?_ | refine sCons ?_ | refine sNil ?_ | refine rCons ?_ | refine rNil ?_ | refine kNo ?_ | refine pRow ?_ | refine pBlock ?_ | refine pSkip ?_ | refine pExit ?_ | refine pRet ?_ | refine pCond ?_ | refine gNone ?_ | refine gOn rfl ?_ | refine gOff rfl rfl ?_ | refine gTup rfl ?_))
  have ccesC_2 := ccesC_1.fresh cesC_2 (by simp <;> omega)
  have nxesC_2 : aesC_2.next = fesQ.next + 1 := by omega
  refine insert_abs rfl um un_S rfl rfl rfl hmesC_2 (by omega) (by decide) (by decide) fun aesC_3 hmesC_3 cesC_3 nesC_3 => ?_
  (repeat (first | refine pSeq ?_ | refine pReg ?_ | refine sRaw ?_ | refine sCons ?_ | refine sNil ?_ | refine rCons ?_ | refine rNil ?_ | refine kNo ?_ | refine pRow ?_ | refine pBlock ?_ | refine pSkip ?_ | refine pExit ?_ | refine pRet ?_ | refine pCond ?_ | refine gNone ?_ | refine gOn rfl ?_ | refine gOff rfl rfl ?_ | refine gTup rfl ?_))
  have ccesC_3 := ccesC_2.fresh cesC_3 (by simp <;> omega)
  have nxesC_3 : aesC_3.next = fesQ.next + 1 := by omega
  refine insert_abs rfl um un_S rfl rfl rfl hmesC_3 (by omega) (by decide) (by decide) fun aesC_4 hmesC_4 cesC_4 nesC_4 => ?_
  (repeat (first | refine pSeq ?_ | refine pReg ?_ | refine sRaw ?_ | refine sCons ?_ | refine sNil ?_ | refine rCons ?_ | refine rNil ?_ | refine kNo ?_ | refine pRow ?_ | refine pBlock ?_ | refine pSkip ?_ | refine pExit ?_ | refine pRet ?_ | refine pCond ?_ | refine gNone ?_ | refine gOn rfl ?_ | refine gOff rfl rfl ?_ | refine gTup rfl ?_))
  have ccesC_4 := ccesC_3.fresh cesC_4 (by simp <;> omega)
  have nxesC_4 : aesC_4.next = fesQ.next + 1 := by omega
  refine insert_abs rfl um un_S rfl rfl rfl hmesC_4 (by omega) (by decide) (by decide) fun aesC_5 hmesC_5 cesC_5 nesC_5 => ?_
  (repeat (first | refine pSeq ?_ | refine pReg ?_ | refine sRaw ?_ | refine sCons ?_ | refine sNil ?_ | refine rCons ?_ | refine rNil ?_ | refine kNo ?_ | refine pRow ?_ | refine pBlock ?_ | refine pSkip ?_ | refine pExit ?_ | refine pRet ?_ | refine pCond ?_ | refine gNone ?_ | refine gOn rfl ?_ | refine gOff rfl rfl ?_ | refine gTup rfl ?_))
  have ccesC_5 := ccesC_4.fresh cesC_5 (by simp <;> omega)
  have nxesC_5 : aesC_5.next = fesQ.next + 1 := by omega
  refine insert_abs rfl um un_S rfl rfl rfl hmesC_5 (by omega) (by decide) (by decide) fun aesC_6 hmesC_6 cesC_6 nesC_6 => ?_
  (repeat (first | refine pSeq ?_ | refine pReg ?_ | refine sRaw ?_ | refine sCons ?_ | refine sNil ?_ | refine rCons ?_ | refine rNil ?_ | refine kNo ?_ | refine pRow ?_ | refine pBlock ?_ | refine pSkip ?_ | refine pExit ?_ | refine pRet ?_ | refine pCond ?_ | refine gNone ?_ | refine gOn rfl ?_ | refine gOff rfl rfl ?_ | refine gTup rfl ?_))
  have ccesC_6 := ccesC_5.fresh cesC_6 (by simp <;> omega)
  have nxesC_6 : aesC_6.next = fesQ.next + 1 := by omega
  refine insert_abs rfl um un_S rfl rfl rfl hmesC_6 (by omega) (by decide) (by decide) fun aesC_7 hmesC_7 cesC_7 nesC_7 => ?_
  (repeat (first | refine pSeq ?_ | refine pReg ?_ | refine sRaw ?_ | refine sCons ?_ | refine sNil ?_ | refine rCons ?_ | refine rNil ?_ | refine kNo ?_ | refine pRow ?_ | refine pBlock ?_ | refine pSkip ?_ | refine pExit ?_ | refine pRet ?_ | refine pCond ?_ | refine gNone ?_ | refine gOn rfl ?_ | refine gOff rfl rfl ?_ | refine gTup rfl ?_))
  have ccesC_7 := ccesC_6.fresh cesC_7 (by simp <;> omega)
  have nxesC_7 : aesC_7.next = fesQ.next + 1 := by omega
  refine insert_abs rfl um un_S rfl rfl rfl hmesC_7 (by omega) (by decide) (by decide) fun aesC_8 hmesC_8 cesC_8 nesC_8 => ?_
  (repeat (first | refine pSeq ?_ | refine pReg ?_ | refine sRaw ?_ | refine sCons ?_ | refine sNil ?_ | refine rCons ?_ | refine rNil ?_ | refine kNo ?_ | refine pRow ?_ | refine pBlock ?_ | refine pSkip ?_ | refine pExit ?_ | refine pRet ?_ | refine pCond ?_ | refine gNone ?_ | refine gOn rfl ?_ | refine gOff rfl rfl ?_ | refine gTup rfl ?_))
  have ccesC_8 := ccesC_7.fresh cesC_8 (by simp <;> omega)
  have nxesC_8 : aesC_8.next = fesQ.next + 1 := by omega
  refine insert_abs rfl um un_S rfl rfl rfl hmesC_8 (by omega) (by decide) (by decide) fun aesC_9 hmesC_9 cesC_9 nesC_9 => ?_
  (repeat (first | refine pSeq ?_ | refine pReg ?_ | refine sRaw ?_ | refine sCons ?_ | refine sNil ?_ | refine rCons ?_ | refine rNil ?_ | refine kNo ?_ | refine pRow ?_ | refine pBlock ?_ | refine pSkip ?_ | refine pExit ?_ | refine pRet ?_ | refine pCond ?_ | refine gNone ?_ | refine gOn rfl ?_ | refine gOff rfl rfl ?_ | refine gTup rfl ?_))
  have ccesC_9 := ccesC_8.fresh cesC_9 (by simp <;> omega)
  have nxesC_9 : aesC_9.next = fesQ.next + 1 := by omega
  refine insert_abs rfl um un_S rfl rfl rfl hmesC_9 (by omega) (by decide) (by decide) fun aesC_10 hmesC_10 cesC_10 nesC_10 => ?_
  (repeat (first | refine pSeq ?_ | refine pReg ?_ | refine sRaw ?_ | refine sCons ?_ | refine sNil ?_ | refine rCons ?_ | refine rNil ?_ | refine kNo ?_ | refine pRow ?_ | refine pBlock ?_ | refine pSkip ?_ | refine pExit ?_ | refine pRet ?_ | refine pCond ?_ | refine gNone ?_ | refine gOn rfl ?_ | refine gOff rfl rfl ?_ | refine gTup rfl ?_))
  have ccesC_10 := ccesC_9.fresh cesC_10 (by simp <;> omega)
  have nxesC_10 : aesC_10.next = fesQ.next + 1 := by omega
  refine insert_abs rfl um un_S rfl rfl rfl hmesC_10 (by omega) (by decide) (by decide) fun aesC_11 hmesC_11 cesC_11 nesC_11 => ?_
  (repeat (first | refine pSeq ?_ | refine pReg ?_ | refine sRaw ?_ | refine sCons ?_ | refine sNil ?_ | refine rCons ?_ | refine rNil ?_ | refine kNo ?_ | refine pRow ?_ | refine pBlock ?_ | refine pSkip ?_ | refine pExit ?_ | refine pRet ?_ | refine pCond ?_ | refine gNone ?_ | refine gOn rfl ?_ | refine gOff rfl rfl ?_ | refine gTup rfl ?_))
  have ccesC_11 := ccesC_10.fresh cesC_11 (by simp <;> omega)
  have nxesC_11 : aesC_11.next = fesQ.next + 1 := by omega
  refine insert_abs rfl um un_S rfl rfl rfl hmesC_11 (by omega) (by decide) (by decide) fun aesC_12 hmesC_12 cesC_12 nesC_12 => ?_
  (repeat (first | refine pSeq ?_ | refine pReg ?_ | refine sRaw ?_ | refine sCons ?_ | refine sNil ?_ | refine rCons ?_ | refine rNil ?_ | refine kNo ?_ | refine pRow ?_ | refine pBlock ?_ | refine pSkip ?_ | refine pExit ?_ | refine pRet ?_ | refine pCond ?_ | refine gNone ?_ | refine gOn rfl ?_ | refine gOff rfl rfl ?_ | refine gTup rfl ?_))
  have ccesC_12 := ccesC_11.fresh cesC_12 (by simp <;> omega)
  have nxesC_12 : aesC_12.next = fesQ.next + 1 := by omega
  have hmE : lookH aesC_12.heap fesQ.next = some (.map esC 12) := hmesC_12
  have hfE : Fine aesC_12 := ccesC_12.fine hF
  refine range_W rfl um rfl hmE ?_
  (repeat (first | refine pSeq ?_ | refine pReg ?_ | refine sRaw ?_ | refine sCons ?_ | refine sNil ?_ | refine rCons ?_ | refine rNil ?_ | refine kNo ?_ | refine pRow ?_ | refine pBlock ?_ | refine pSkip ?_ | refine pExit ?_ | refine pRet ?_ | refine pCond ?_ | refine gNone ?_ | refine gOn rfl ?_ | refine gOff rfl rfl ?_ | refine gTup rfl ?_))
  refine pLoop (MW.maps good (id0 := 2) (g := ⟨aesC_12, aesC_12.next, fesQ.next, 12, esC, [(49, .pointer (some ⟨aesC_12.next, 0, none⟩))]⟩) rfl (Wk.same ⟨rfl, trivial⟩) rfl hmE (by show aesC_12.next ≠ fesQ.next; omega) (fun e he => by obtain ⟨_, _, _, _, h⟩ := esC_is he; exact h) ?_ ?_ ?_)
  · intro n seen hn e he hs
    have hn' : aesC_12.next < n := hn
    obtain ⟨l, hk, hv, hl, hb⟩ := esC_is he
    rw [hk, hv]
    (repeat (first | refine pSeq ?_ | refine pReg ?_ | refine sRaw ?_ | refine sCons ?_ | refine sNil ?_ | refine rCons ?_ | refine rNil ?_ | refine kNo ?_ | refine pRow ?_ | refine pBlock ?_ | refine pSkip ?_ | refine pExit ?_ | refine pRet ?_ | refine pCond ?_ | refine gNone ?_ | refine gOn rfl ?_ | refine gOff rfl rfl ?_ | refine gTup rfl ?_))
    refine entry_W (e := e) rfl rfl lkH (lkT (show aesC_12.next ≠ fesQ.next by omega) hmE) he born12.2 ?_
    rw [hk, hv]
    (repeat (first | refine pSeq ?_ | refine pReg ?_ | refine sRaw ?_ | refine sCons ?_ | refine sNil ?_ | refine rCons ?_ | refine rNil ?_ | refine kNo ?_ | refine pRow ?_ | refine pBlock ?_ | refine pSkip ?_ | refine pExit ?_ | refine pRet ?_ | refine pCond ?_ | refine gNone ?_ | refine gOn rfl ?_ | refine gOff rfl rfl ?_ | refine gTup rfl ?_))
    refine (comment_w hl).mono fun v s3 q => ?_
    obtain ⟨rfl, c3⟩ := q
    (repeat (first | refine pSeq ?_ | refine pReg ?_ | refine sRaw ?_ | refine sCons ?_ | refine sNil ?_ | refine rCons ?_ | refine rNil ?_ | refine kNo ?_ | refine pRow ?_ | refine pBlock ?_ | refine pSkip ?_ | refine pExit ?_ | refine pRet ?_ | refine pCond ?_ | refine gNone ?_ | refine gOn rfl ?_ | refine gOff rfl rfl ?_ | refine gTup rfl ?_))
    intro q hq
    obtain rfl : q = false := by rw [hq]; simp
    (repeat (first | refine pSeq ?_ | refine pReg ?_ | refine sRaw ?_ | refine sCons ?_ | refine sNil ?_ | refine rCons ?_ | refine rNil ?_ | refine kNo ?_ | refine pRow ?_ | refine pBlock ?_ | refine pSkip ?_ | refine pExit ?_ | refine pRet ?_ | refine pCond ?_ | refine gNone ?_ | refine gOn rfl ?_ | refine gOff rfl rfl ?_ | refine gTup rfl ?_))
    exact ⟨rfl, MapL.back ⟨rfl, trivial⟩ hfE rfl hn' c3⟩
  · intro n seen hn
    (repeat (first | refine pSeq ?_ | refine pReg ?_ | refine sRaw ?_ | refine sCons ?_ | refine sNil ?_ | refine rCons ?_ | refine rNil ?_ | refine kNo ?_ | refine pRow ?_ | refine pBlock ?_ | refine pSkip ?_ | refine pExit ?_ | refine pRet ?_ | refine pCond ?_ | refine gNone ?_ | refine gOn rfl ?_ | refine gOff rfl rfl ?_ | refine gTup rfl ?_))
    exact ⟨rfl, MapL.over ⟨rfl, trivial⟩ hfE rfl⟩
  intro N hN
  have cfesC := ccesC_12.nil ((MapL.fin_chg ⟨aesC_12, aesC_12.next, fesQ.next, 12, esC, [(49, .pointer (some ⟨aesC_12.next, 0, none⟩))]⟩ (n := N) (Nat.le_of_succ_le hN)))
  dsimp only [MapL.fin] at cfesC ⊢
  generalize hst : ({ heap := aesC_12.heap, next := N, gl := aesC_12.gl } : SS) = fesC at cfesC ⊢
  (repeat (first | refine pSeq ?_ | refine pReg ?_ | refine sRaw ?_ | refine sCons ?_ | refine sNil ?_ | refine rCons ?_ | refine rNil ?_ | refine kNo ?_ | refine pRow ?_ | refine pBlock ?_ | refine pSkip ?_ | refine pExit ?_ | refine pRet ?_ | refine pCond ?_ | refine gNone ?_ | refine gOn rfl ?_ | refine gOff rfl rfl ?_ | refine gTup rfl ?_))
  refine (blank_w (l := []) (by simp)).mono fun v w1 q => ?_
  obtain ⟨rfl, d1⟩ := q
  have e1 := (cfesC).nil d1
  rw [show blankF [] = (0, 0) by decide +kernel]
  (repeat (first | refine pSeq ?_ | refine pReg ?_ | refine sRaw ?_ | refine sCons ?_ | refine sNil ?_ | refine rCons ?_ | refine rNil ?_ | refine kNo ?_ | refine pRow ?_ | refine pBlock ?_ | refine pSkip ?_ | refine pExit ?_ | refine pRet ?_ | refine pCond ?_ | refine gNone ?_ | refine gOn rfl ?_ | refine gOff rfl rfl ?_ | refine gTup rfl ?_))
  refine (blank_w (l := [120]) (by simp)).mono fun v w2 q => ?_
  obtain ⟨rfl, d2⟩ := q
  have e2 := (e1).nil d2
  rw [show blankF [120] = (0, 0) by decide +kernel]
  (repeat (first | refine pSeq ?_ | refine pReg ?_ | refine sRaw ?_ | refine sCons ?_ | refine sNil ?_ | refine rCons ?_ | refine rNil ?_ | refine kNo ?_ | refine pRow ?_ | refine pBlock ?_ | refine pSkip ?_ | refine pExit ?_ | refine pRet ?_ | refine pCond ?_ | refine gNone ?_ | refine gOn rfl ?_ | refine gOff rfl rfl ?_ | refine gTup rfl ?_))
  refine (blank_w (l := [32, 32, 40]) (by simp)).mono fun v w3 q => ?_
  obtain ⟨rfl, d3⟩ := q
  have e3 := (e2).nil d3
  rw [show blankF [32, 32, 40] = (0, 4) by decide +kernel]
  (repeat (first | refine pSeq ?_ | refine pReg ?_ | refine sRaw ?_ | refine sCons ?_ | refine sNil ?_ | refine rCons ?_ | refine rNil ?_ | refine kNo ?_ | refine pRow ?_ | refine pBlock ?_ | refine pSkip ?_ | refine pExit ?_ | refine pRet ?_ | refine pCond ?_ | refine gNone ?_ | refine gOn rfl ?_ | refine gOff rfl rfl ?_ | refine gTup rfl ?_))
  refine (number_w (l := [48, 48, 52, 50]) (d := 4) (by simp)).mono fun v w4 q => ?_
  obtain ⟨rfl, d4⟩ := q
  have e4 := (e3).nil d4
  rw [show numberF [48, 48, 52, 50] (4) = (42, 0) by decide +kernel]
  (repeat (first | refine pSeq ?_ | refine pReg ?_ | refine sRaw ?_ | refine sCons ?_ | refine sNil ?_ | refine rCons ?_ | refine rNil ?_ | refine kNo ?_ | refine pRow ?_ | refine pBlock ?_ | refine pSkip ?_ | refine pExit ?_ | refine pRet ?_ | refine pCond ?_ | refine gNone ?_ | refine gOn rfl ?_ | refine gOff rfl rfl ?_ | refine gTup rfl ?_))
  refine (number_w (l := [48, 48, 52, 50]) (d := 3) (by simp)).mono fun v w5 q => ?_
  obtain ⟨rfl, d5⟩ := q
  have e5 := (e4).nil d5
  rw [show numberF [48, 48, 52, 50] (3) = (0, 5) by decide +kernel]
  (repeat (first | refine pSeq ?_ | refine pReg ?_ | refine sRaw ?_ | refine sCons ?_ | refine sNil ?_ | refine rCons ?_ | refine rNil ?_ | refine kNo ?_ | refine pRow ?_ | refine pBlock ?_ | refine pSkip ?_ | refine pExit ?_ | refine pRet ?_ | refine pCond ?_ | refine gNone ?_ | refine gOn rfl ?_ | refine gOff rfl rfl ?_ | refine gTup rfl ?_))
  refine (number_w (l := [52]) (d := -1) (by simp)).mono fun v w6 q => ?_
  obtain ⟨rfl, d6⟩ := q
  have e6 := (e5).nil d6
  rw [show numberF [52] (-1) = (4, 0) by decide +kernel]
  (repeat (first | refine pSeq ?_ | refine pReg ?_ | refine sRaw ?_ | refine sCons ?_ | refine sNil ?_ | refine rCons ?_ | refine rNil ?_ | refine kNo ?_ | refine pRow ?_ | refine pBlock ?_ | refine pSkip ?_ | refine pExit ?_ | refine pRet ?_ | refine pCond ?_ | refine gNone ?_ | refine gOn rfl ?_ | refine gOff rfl rfl ?_ | refine gTup rfl ?_))
  refine (number_w (l := [52, 50]) (d := 0) (by simp)).mono fun v w7 q => ?_
  obtain ⟨rfl, d7⟩ := q
  have e7 := (e6).nil d7
  rw [show numberF [52, 50] (0) = (0, 5) by decide +kernel]
  (repeat (first | refine pSeq ?_ | refine pReg ?_ | refine sRaw ?_ | refine sCons ?_ | refine sNil ?_ | refine rCons ?_ | refine rNil ?_ | refine kNo ?_ | refine pRow ?_ | refine pBlock ?_ | refine pSkip ?_ | refine pExit ?_ | refine pRet ?_ | refine pCond ?_ | refine gNone ?_ | refine gOn rfl ?_ | refine gOff rfl rfl ?_ | refine gTup rfl ?_))
  refine (number_w (l := [57, 57, 57, 57, 57, 57, 57, 57, 57, 57, 57, 57, 57, 57, 57]) (d := 99) (by simp)).mono fun v w8 q => ?_
  obtain ⟨rfl, d8⟩ := q
  have e8 := (e7).nil d8
  rw [show numberF [57, 57, 57, 57, 57, 57, 57, 57, 57, 57, 57, 57, 57, 57, 57] (99) = (999999999999999, 0) by decide +kernel]
  (repeat (first | refine pSeq ?_ | refine pReg ?_ | refine sRaw ?_ | refine sCons ?_ | refine sNil ?_ | refine rCons ?_ | refine rNil ?_ | refine kNo ?_ | refine pRow ?_ | refine pBlock ?_ | refine pSkip ?_ | refine pExit ?_ | refine pRet ?_ | refine pCond ?_ | refine gNone ?_ | refine gOn rfl ?_ | refine gOff rfl rfl ?_ | refine gTup rfl ?_))
  refine (number_w (l := [57, 57, 57, 57, 57, 57, 57, 57, 57, 57, 57, 57, 57, 57, 57, 57]) (d := 99) (by simp)).mono fun v w9 q => ?_
  obtain ⟨rfl, d9⟩ := q
  have e9 := (e8).nil d9
  rw [show numberF [57, 57, 57, 57, 57, 57, 57, 57, 57, 57, 57, 57, 57, 57, 57, 57] (99) = (0, 5) by decide +kernel]
  (repeat (first | refine pSeq ?_ | refine pReg ?_ | refine sRaw ?_ | refine sCons ?_ | refine sNil ?_ | refine rCons ?_ | refine rNil ?_ | refine kNo ?_ | refine pRow ?_ | refine pBlock ?_ | refine pSkip ?_ | refine pExit ?_ | refine pRet ?_ | refine pCond ?_ | refine gNone ?_ | refine gOn rfl ?_ | refine gOff rfl rfl ?_ | refine gTup rfl ?_))
  refine (number_w (l := [45, 49]) (d := 5) (by simp)).mono fun v w10 q => ?_
  obtain ⟨rfl, d10⟩ := q
  have e10 := (e9).nil d10
  rw [show numberF [45, 49] (5) = (0, 5) by decide +kernel]
  (repeat (first | refine pSeq ?_ | refine pReg ?_ | refine sRaw ?_ | refine sCons ?_ | refine sNil ?_ | refine rCons ?_ | refine rNil ?_ | refine kNo ?_ | refine pRow ?_ | refine pBlock ?_ | refine pSkip ?_ | refine pExit ?_ | refine pRet ?_ | refine pCond ?_ | refine gNone ?_ | refine gOn rfl ?_ | refine gOff rfl rfl ?_ | refine gTup rfl ?_))
  intro q hq
  obtain rfl : q = true := by rw [hq]; rfl
  (repeat (first | refine pSeq ?_ | refine pReg ?_ | refine sRaw ?_ | refine sCons ?_ | refine sNil ?_ | refine rCons ?_ | refine rNil ?_ | refine kNo ?_ | refine pRow ?_ | refine pBlock ?_ | refine pSkip ?_ | refine pExit ?_ | refine pRet ?_ | refine pCond ?_ | refine gNone ?_ | refine gOn rfl ?_ | refine gOff rfl rfl ?_ | refine gTup rfl ?_))
  intro q hq
  obtain rfl : q = true := by rw [hq]; rfl
  (repeat (first | refine pSeq ?_ | refine pReg ?_ | refine sRaw ?_ | refine sCons ?_ | refine sNil ?_ | refine rCons ?_ | refine rNil ?_ | refine kNo ?_ | refine pRow ?_ | refine pBlock ?_ | refine pSkip ?_ | refine pExit ?_ | refine pRet ?_ | refine pCond ?_ | refine gNone ?_ | refine gOn rfl ?_ | refine gOff rfl rfl ?_ | refine gTup rfl ?_))
  intro q hq
  obtain rfl : q = true := by rw [hq]; rfl
  (repeat (first | refine pSeq ?_ | refine pReg ?_ | refine sRaw ?_ | refine sCons ?_ | refine sNil ?_ | refine rCons ?_ | refine rNil ?_ | refine kNo ?_ | refine pRow ?_ | refine pBlock ?_ | refine pSkip ?_ | refine pExit ?_ | refine pRet ?_ | refine pCond ?_ | refine gNone ?_ | refine gOn rfl ?_ | refine gOff rfl rfl ?_ | refine gTup rfl ?_))
  intro q hq
  obtain rfl : q = true := by rw [hq]; rfl
  (repeat (first | refine pSeq ?_ | refine pReg ?_ | refine sRaw ?_ | refine sCons ?_ | refine sNil ?_ | refine rCons ?_ | refine rNil ?_ | refine kNo ?_ | refine pRow ?_ | refine pBlock ?_ | refine pSkip ?_ | refine pExit ?_ | refine pRet ?_ | refine pCond ?_ | refine gNone ?_ | refine gOn rfl ?_ | refine gOff rfl rfl ?_ | refine gTup rfl ?_))
  intro q hq
  obtain rfl : q = true := by rw [hq]; rfl
  (repeat (first | refine pSeq ?_ | refine pReg ?_ | refine sRaw ?_ | refine sCons ?_ | refine sNil ?_ | refine rCons ?_ | refine rNil ?_ | refine kNo ?_ | refine pRow ?_ | refine pBlock ?_ | refine pSkip ?_ | refine pExit ?_ | refine pRet ?_ | refine pCond ?_ | refine gNone ?_ | refine gOn rfl ?_ | refine gOff rfl rfl ?_ | refine gTup rfl ?_))
  intro q hq
  obtain rfl : q = true := by rw [hq]; rfl
  (repeat (first | refine pSeq ?_ | refine pReg ?_ | refine sRaw ?_ | refine sCons ?_ | refine sNil ?_ | refine rCons ?_ | refine rNil ?_ | refine kNo ?_ | refine pRow ?_ | refine pBlock ?_ | refine pSkip ?_ | refine pExit ?_ | refine pRet ?_ | refine pCond ?_ | refine gNone ?_ | refine gOn rfl ?_ | refine gOff rfl rfl ?_ | refine gTup rfl ?_))
  intro q hq
  obtain rfl : q = true := by rw [hq]; rfl
  (repeat (first | refine pSeq ?_ | refine pReg ?_ | refine sRaw ?_ | refine sCons ?_ | refine sNil ?_ | refine rCons ?_ | refine rNil ?_ | refine kNo ?_ | refine pRow ?_ | refine pBlock ?_ | refine pSkip ?_ | refine pExit ?_ | refine pRet ?_ | refine pCond ?_ | refine gNone ?_ | refine gOn rfl ?_ | refine gOff rfl rfl ?_ | refine gTup rfl ?_))
  intro q hq
  obtain rfl : q = true := by rw [hq]; rfl
  (repeat (first | refine pSeq ?_ | refine pReg ?_ | refine sRaw ?_ | refine sCons ?_ | refine sNil ?_ | refine rCons ?_ | refine rNil ?_ | refine kNo ?_ | refine pRow ?_ | refine pBlock ?_ | refine pSkip ?_ | refine pExit ?_ | refine pRet ?_ | refine pCond ?_ | refine gNone ?_ | refine gOn rfl ?_ | refine gOff rfl rfl ?_ | refine gTup rfl ?_))
  intro q hq
  obtain rfl : q = true := by rw [hq]; rfl
  (repeat (first | refine pSeq ?_ | refine pReg ?_ | refine sRaw ?_ | refine sCons ?_ | refine sNil ?_ | refine rCons ?_ | refine rNil ?_ | refine kNo ?_ | refine pRow ?_ | refine pBlock ?_ | refine pSkip ?_ | refine pExit ?_ | refine pRet ?_ | refine pCond ?_ | refine gNone ?_ | refine gOn rfl ?_ | refine gOff rfl rfl ?_ | refine gTup rfl ?_))
  intro q hq
  obtain rfl : q = true := by rw [hq]; rfl
  (repeat (first | refine pSeq ?_ | refine pReg ?_ | refine sRaw ?_ | refine sCons ?_ | refine sNil ?_ | refine rCons ?_ | refine rNil ?_ | refine kNo ?_ | refine pRow ?_ | refine pBlock ?_ | refine pSkip ?_ | refine pExit ?_ | refine pRet ?_ | refine pCond ?_ | refine gNone ?_ | refine gOn rfl ?_ | refine gOff rfl rfl ?_ | refine gTup rfl ?_))
  intro q hq
  obtain rfl : q = true := by rw [hq]; rfl
  (repeat (first | refine pSeq ?_ | refine pReg ?_ | refine sRaw ?_ | refine sCons ?_ | refine sNil ?_ | refine rCons ?_ | refine rNil ?_ | refine kNo ?_ | refine pRow ?_ | refine pBlock ?_ | refine pSkip ?_ | refine pExit ?_ | refine pRet ?_ | refine pCond ?_ | refine gNone ?_ | refine gOn rfl ?_ | refine gOff rfl rfl ?_ | refine gTup rfl ?_))
  intro q hq
  obtain rfl : q = true := by rw [hq]; rfl
  (repeat (first | refine pSeq ?_ | refine pReg ?_ | refine sRaw ?_ | refine sCons ?_ | refine sNil ?_ | refine rCons ?_ | refine rNil ?_ | refine kNo ?_ | refine pRow ?_ | refine pBlock ?_ | refine pSkip ?_ | refine pExit ?_ | refine pRet ?_ | refine pCond ?_ | refine gNone ?_ | refine gOn rfl ?_ | refine gOff rfl rfl ?_ | refine gTup rfl ?_))
  intro q hq
  obtain rfl : q = true := by rw [hq]; rfl
  (repeat (first | refine pSeq ?_ | refine pReg ?_ | refine sRaw ?_ | refine sCons ?_ | refine sNil ?_ | refine rCons ?_ | refine rNil ?_ | refine kNo ?_ | refine pRow ?_ | refine pBlock ?_ | refine pSkip ?_ | refine pExit ?_ | refine pRet ?_ | refine pCond ?_ | refine gNone ?_ | refine gOn rfl ?_ | refine gOff rfl rfl ?_ | refine gTup rfl ?_))
  intro q hq
  obtain rfl : q = true := by rw [hq]; rfl
  (repeat (first | refine pSeq ?_ | refine pReg ?_ | refine sRaw ?_ | refine sCons ?_ | refine sNil ?_ | refine rCons ?_ | refine rNil ?_ | refine kNo ?_ | refine pRow ?_ | refine pBlock ?_ | refine pSkip ?_ | refine pExit ?_ | refine pRet ?_ | refine pCond ?_ | refine gNone ?_ | refine gOn rfl ?_ | refine gOff rfl rfl ?_ | refine gTup rfl ?_))
  refine (atom_w (l := [97, 33, 35, 36, 37, 38, 39, 42, 43, 45, 47, 61, 63, 94, 95, 96, 123, 124, 125, 126, 90, 57]) (hG.chg e10 (by simp))).mono fun v w11 q => ?_
  obtain ⟨rfl, d11⟩ := q
  have e11 := (e10).nil d11
  rw [show atomF [97, 33, 35, 36, 37, 38, 39, 42, 43, 45, 47, 61, 63, 94, 95, 96, 123, 124, 125, 126, 90, 57] = true by decide +kernel]
  (repeat (first | refine pSeq ?_ | refine pReg ?_ | refine sRaw ?_ | refine sCons ?_ | refine sNil ?_ | refine rCons ?_ | refine rNil ?_ | refine kNo ?_ | refine pRow ?_ | refine pBlock ?_ | refine pSkip ?_ | refine pExit ?_ | refine pRet ?_ | refine pCond ?_ | refine gNone ?_ | refine gOn rfl ?_ | refine gOff rfl rfl ?_ | refine gTup rfl ?_))
  refine (atom_w (l := []) (hG.chg e11 (by simp))).mono fun v w12 q => ?_
  obtain ⟨rfl, d12⟩ := q
  have e12 := (e11).nil d12
  rw [show atomF [] = false by decide +kernel]
  (repeat (first | refine pSeq ?_ | refine pReg ?_ | refine sRaw ?_ | refine sCons ?_ | refine sNil ?_ | refine rCons ?_ | refine rNil ?_ | refine kNo ?_ | refine pRow ?_ | refine pBlock ?_ | refine pSkip ?_ | refine pExit ?_ | refine pRet ?_ | refine pCond ?_ | refine gNone ?_ | refine gOn rfl ?_ | refine gOff rfl rfl ?_ | refine gTup rfl ?_))
  intro q hq
  obtain rfl : q = true := by rw [hq]; rfl
  (repeat (first | refine pSeq ?_ | refine pReg ?_ | refine sRaw ?_ | refine sCons ?_ | refine sNil ?_ | refine rCons ?_ | refine rNil ?_ | refine kNo ?_ | refine pRow ?_ | refine pBlock ?_ | refine pSkip ?_ | refine pExit ?_ | refine pRet ?_ | refine pCond ?_ | refine gNone ?_ | refine gOn rfl ?_ | refine gOff rfl rfl ?_ | refine gTup rfl ?_))
  refine (atom_w (l := [97, 46, 98]) (hG.chg e12 (by simp))).mono fun v w13 q => ?_
  obtain ⟨rfl, d13⟩ := q
  have e13 := (e12).nil d13
  rw [show atomF [97, 46, 98] = false by decide +kernel]
  (repeat (first | refine pSeq ?_ | refine pReg ?_ | refine sRaw ?_ | refine sCons ?_ | refine sNil ?_ | refine rCons ?_ | refine rNil ?_ | refine kNo ?_ | refine pRow ?_ | refine pBlock ?_ | refine pSkip ?_ | refine pExit ?_ | refine pRet ?_ | refine pCond ?_ | refine gNone ?_ | refine gOn rfl ?_ | refine gOff rfl rfl ?_ | refine gTup rfl ?_))
  intro q hq
  obtain rfl : q = true := by rw [hq]; rfl
  (repeat (first | refine pSeq ?_ | refine pReg ?_ | refine sRaw ?_ | refine sCons ?_ | refine sNil ?_ | refine rCons ?_ | refine rNil ?_ | refine kNo ?_ | refine pRow ?_ | refine pBlock ?_ | refine pSkip ?_ | refine pExit ?_ | refine pRet ?_ | refine pCond ?_ | refine gNone ?_ | refine gOn rfl ?_ | refine gOff rfl rfl ?_ | refine gTup rfl ?_))
  refine (atom_w (l := [97, 32, 98]) (hG.chg e13 (by simp))).mono fun v w14 q => ?_
  obtain ⟨rfl, d14⟩ := q
  have e14 := (e13).nil d14
  rw [show atomF [97, 32, 98] = false by decide +kernel]
  (repeat (first | refine pSeq ?_ | refine pReg ?_ | refine sRaw ?_ | refine sCons ?_ | refine sNil ?_ | refine rCons ?_ | refine rNil ?_ | refine kNo ?_ | refine pRow ?_ | refine pBlock ?_ | refine pSkip ?_ | refine pExit ?_ | refine pRet ?_ | refine pCond ?_ | refine gNone ?_ | refine gOn rfl ?_ | refine gOff rfl rfl ?_ | refine gTup rfl ?_))
  intro q hq
  obtain rfl : q = true := by rw [hq]; rfl
  (repeat (first | refine pSeq ?_ | refine pReg ?_ | refine sRaw ?_ | refine sCons ?_ | refine sNil ?_ | refine rCons ?_ | refine rNil ?_ | refine kNo ?_ | refine pRow ?_ | refine pBlock ?_ | refine pSkip ?_ | refine pExit ?_ | refine pRet ?_ | refine pCond ?_ | refine gNone ?_ | refine gOn rfl ?_ | refine gOff rfl rfl ?_ | refine gTup rfl ?_))
  refine (dotatom_w (l := [97, 46, 98]) (hG.chg e14 (by simp)) (by simp)).mono fun v w15 q => ?_
  obtain ⟨rfl, d15⟩ := q
  have e15 := (e14).nil d15
  rw [show dotF [97, 46, 98] = true by decide +kernel]
  (repeat (first | refine pSeq ?_ | refine pReg ?_ | refine sRaw ?_ | refine sCons ?_ | refine sNil ?_ | refine rCons ?_ | refine rNil ?_ | refine kNo ?_ | refine pRow ?_ | refine pBlock ?_ | refine pSkip ?_ | refine pExit ?_ | refine pRet ?_ | refine pCond ?_ | refine gNone ?_ | refine gOn rfl ?_ | refine gOff rfl rfl ?_ | refine gTup rfl ?_))
  refine (dotatom_w (l := [97, 46, 46, 98]) (hG.chg e15 (by simp)) (by simp)).mono fun v w16 q => ?_
  obtain ⟨rfl, d16⟩ := q
  have e16 := (e15).nil d16
  rw [show dotF [97, 46, 46, 98] = false by decide +kernel]
  (repeat (first | refine pSeq ?_ | refine pReg ?_ | refine sRaw ?_ | refine sCons ?_ | refine sNil ?_ | refine rCons ?_ | refine rNil ?_ | refine kNo ?_ | refine pRow ?_ | refine pBlock ?_ | refine pSkip ?_ | refine pExit ?_ | refine pRet ?_ | refine pCond ?_ | refine gNone ?_ | refine gOn rfl ?_ | refine gOff rfl rfl ?_ | refine gTup rfl ?_))
  intro q hq
  obtain rfl : q = true := by rw [hq]; rfl
  (repeat (first | refine pSeq ?_ | refine pReg ?_ | refine sRaw ?_ | refine sCons ?_ | refine sNil ?_ | refine rCons ?_ | refine rNil ?_ | refine kNo ?_ | refine pRow ?_ | refine pBlock ?_ | refine pSkip ?_ | refine pExit ?_ | refine pRet ?_ | refine pCond ?_ | refine gNone ?_ | refine gOn rfl ?_ | refine gOff rfl rfl ?_ | refine gTup rfl ?_))
  refine (dotatom_w (l := [46, 97]) (hG.chg e16 (by simp)) (by simp)).mono fun v w17 q => ?_
  obtain ⟨rfl, d17⟩ := q
  have e17 := (e16).nil d17
  rw [show dotF [46, 97] = false by decide +kernel]
  (repeat (first | refine pSeq ?_ | refine pReg ?_ | refine sRaw ?_ | refine sCons ?_ | refine sNil ?_ | refine rCons ?_ | refine rNil ?_ | refine kNo ?_ | refine pRow ?_ | refine pBlock ?_ | refine pSkip ?_ | refine pExit ?_ | refine pRet ?_ | refine pCond ?_ | refine gNone ?_ | refine gOn rfl ?_ | refine gOff rfl rfl ?_ | refine gTup rfl ?_))
  intro q hq
  obtain rfl : q = true := by rw [hq]; rfl
  (repeat (first | refine pSeq ?_ | refine pReg ?_ | refine sRaw ?_ | refine sCons ?_ | refine sNil ?_ | refine rCons ?_ | refine rNil ?_ | refine kNo ?_ | refine pRow ?_ | refine pBlock ?_ | refine pSkip ?_ | refine pExit ?_ | refine pRet ?_ | refine pCond ?_ | refine gNone ?_ | refine gOn rfl ?_ | refine gOff rfl rfl ?_ | refine gTup rfl ?_))
  refine (dotatom_w (l := [97, 46]) (hG.chg e17 (by simp)) (by simp)).mono fun v w18 q => ?_
  obtain ⟨rfl, d18⟩ := q
  have e18 := (e17).nil d18
  rw [show dotF [97, 46] = false by decide +kernel]
  (repeat (first | refine pSeq ?_ | refine pReg ?_ | refine sRaw ?_ | refine sCons ?_ | refine sNil ?_ | refine rCons ?_ | refine rNil ?_ | refine kNo ?_ | refine pRow ?_ | refine pBlock ?_ | refine pSkip ?_ | refine pExit ?_ | refine pRet ?_ | refine pCond ?_ | refine gNone ?_ | refine gOn rfl ?_ | refine gOff rfl rfl ?_ | refine gTup rfl ?_))
  intro q hq
  obtain rfl : q = true := by rw [hq]; rfl
  (repeat (first | refine pSeq ?_ | refine pReg ?_ | refine sRaw ?_ | refine sCons ?_ | refine sNil ?_ | refine rCons ?_ | refine rNil ?_ | refine kNo ?_ | refine pRow ?_ | refine pBlock ?_ | refine pSkip ?_ | refine pExit ?_ | refine pRet ?_ | refine pCond ?_ | refine gNone ?_ | refine gOn rfl ?_ | refine gOff rfl rfl ?_ | refine gTup rfl ?_))
  refine (dotatom_w (l := []) (hG.chg e18 (by simp)) (by simp)).mono fun v w19 q => ?_
  obtain ⟨rfl, d19⟩ := q
  have e19 := (e18).nil d19
  rw [show dotF [] = false by decide +kernel]
  (repeat (first | refine pSeq ?_ | refine pReg ?_ | refine sRaw ?_ | refine sCons ?_ | refine sNil ?_ | refine rCons ?_ | refine rNil ?_ | refine kNo ?_ | refine pRow ?_ | refine pBlock ?_ | refine pSkip ?_ | refine pExit ?_ | refine pRet ?_ | refine pCond ?_ | refine gNone ?_ | refine gOn rfl ?_ | refine gOff rfl rfl ?_ | refine gTup rfl ?_))
  intro q hq
  obtain rfl : q = true := by rw [hq]; rfl
  (repeat (first | refine pSeq ?_ | refine pReg ?_ | refine sRaw ?_ | refine sCons ?_ | refine sNil ?_ | refine rCons ?_ | refine rNil ?_ | refine kNo ?_ | refine pRow ?_ | refine pBlock ?_ | refine pSkip ?_ | refine pExit ?_ | refine pRet ?_ | refine pCond ?_ | refine gNone ?_ | refine gOn rfl ?_ | refine gOff rfl rfl ?_ | refine gTup rfl ?_))
  refine (lower_w (l := [192, 65, 90, 91]) (by simp)).mono fun v w20 q => ?_
  obtain ⟨rfl, d20⟩ := q
  have e20 := (e19).nil d20
  rw [show ([192, 65, 90, 91] : List UInt8).map lowB = [192, 97, 122, 91] by decide +kernel]
  (repeat (first | refine pSeq ?_ | refine pReg ?_ | refine sRaw ?_ | refine sCons ?_ | refine sNil ?_ | refine rCons ?_ | refine rNil ?_ | refine kNo ?_ | refine pRow ?_ | refine pBlock ?_ | refine pSkip ?_ | refine pExit ?_ | refine pRet ?_ | refine pCond ?_ | refine gNone ?_ | refine gOn rfl ?_ | refine gOff rfl rfl ?_ | refine gTup rfl ?_))
  intro q hq
  obtain rfl : q = true := by rw [hq]; rfl
  (repeat (first | refine pSeq ?_ | refine pReg ?_ | refine sRaw ?_ | refine sCons ?_ | refine sNil ?_ | refine rCons ?_ | refine rNil ?_ | refine kNo ?_ | refine pRow ?_ | refine pBlock ?_ | refine pSkip ?_ | refine pExit ?_ | refine pRet ?_ | refine pCond ?_ | refine gNone ?_ | refine gOn rfl ?_ | refine gOff rfl rfl ?_ | refine gTup rfl ?_))
  refine (Plain_w (l := [])).mono fun v w21 q => ?_
  obtain ⟨rfl, d21⟩ := q
  have e21 := (e20).nil d21
  rw [show ([] : List UInt8).all plainB = true by decide +kernel]
  (repeat (first | refine pSeq ?_ | refine pReg ?_ | refine sRaw ?_ | refine sCons ?_ | refine sNil ?_ | refine rCons ?_ | refine rNil ?_ | refine kNo ?_ | refine pRow ?_ | refine pBlock ?_ | refine pSkip ?_ | refine pExit ?_ | refine pRet ?_ | refine pCond ?_ | refine gNone ?_ | refine gOn rfl ?_ | refine gOff rfl rfl ?_ | refine gTup rfl ?_))
  refine (Plain_w (l := [127])).mono fun v w22 q => ?_
  obtain ⟨rfl, d22⟩ := q
  have e22 := (e21).nil d22
  rw [show ([127] : List UInt8).all plainB = false by decide +kernel]
  (repeat (first | refine pSeq ?_ | refine pReg ?_ | refine sRaw ?_ | refine sCons ?_ | refine sNil ?_ | refine rCons ?_ | refine rNil ?_ | refine kNo ?_ | refine pRow ?_ | refine pBlock ?_ | refine pSkip ?_ | refine pExit ?_ | refine pRet ?_ | refine pCond ?_ | refine gNone ?_ | refine gOn rfl ?_ | refine gOff rfl rfl ?_ | refine gTup rfl ?_))
  intro q hq
  obtain rfl : q = true := by rw [hq]; rfl
  (repeat (first | refine pSeq ?_ | refine pReg ?_ | refine sRaw ?_ | refine sCons ?_ | refine sNil ?_ | refine rCons ?_ | refine rNil ?_ | refine kNo ?_ | refine pRow ?_ | refine pBlock ?_ | refine pSkip ?_ | refine pExit ?_ | refine pRet ?_ | refine pCond ?_ | refine gNone ?_ | refine gOn rfl ?_ | refine gOff rfl rfl ?_ | refine gTup rfl ?_))
  refine (Plain_w (l := [195, 169])).mono fun v w23 q => ?_
  obtain ⟨rfl, d23⟩ := q
  have e23 := (e22).nil d23
  rw [show ([195, 169] : List UInt8).all plainB = false by decide +kernel]
  (repeat (first | refine pSeq ?_ | refine pReg ?_ | refine sRaw ?_ | refine sCons ?_ | refine sNil ?_ | refine rCons ?_ | refine rNil ?_ | refine kNo ?_ | refine pRow ?_ | refine pBlock ?_ | refine pSkip ?_ | refine pExit ?_ | refine pRet ?_ | refine pCond ?_ | refine gNone ?_ | refine gOn rfl ?_ | refine gOff rfl rfl ?_ | refine gTup rfl ?_))
  intro q hq
  obtain rfl : q = true := by rw [hq]; rfl
  (repeat (first | refine pSeq ?_ | refine pReg ?_ | refine sRaw ?_ | refine sCons ?_ | refine sNil ?_ | refine rCons ?_ | refine rNil ?_ | refine kNo ?_ | refine pRow ?_ | refine pBlock ?_ | refine pSkip ?_ | refine pExit ?_ | refine pRet ?_ | refine pCond ?_ | refine gNone ?_ | refine gOn rfl ?_ | refine gOff rfl rfl ?_ | refine gTup rfl ?_))
  refine (textTrim_w (l := [32, 9, 32, 97, 32, 98, 32, 9]) (by simp)).mono fun v w24 q => ?_
  obtain ⟨rfl, d24⟩ := q
  have e24 := (e23).nil d24
  rw [show trimF [32, 9, 32, 97, 32, 98, 32, 9] = [97, 32, 98] by decide +kernel]
  (repeat (first | refine pSeq ?_ | refine pReg ?_ | refine sRaw ?_ | refine sCons ?_ | refine sNil ?_ | refine rCons ?_ | refine rNil ?_ | refine kNo ?_ | refine pRow ?_ | refine pBlock ?_ | refine pSkip ?_ | refine pExit ?_ | refine pRet ?_ | refine pCond ?_ | refine gNone ?_ | refine gOn rfl ?_ | refine gOff rfl rfl ?_ | refine gTup rfl ?_))
  intro q hq
  obtain rfl : q = true := by rw [hq]; rfl
  (repeat (first | refine pSeq ?_ | refine pReg ?_ | refine sRaw ?_ | refine sCons ?_ | refine sNil ?_ | refine rCons ?_ | refine rNil ?_ | refine kNo ?_ | refine pRow ?_ | refine pBlock ?_ | refine pSkip ?_ | refine pExit ?_ | refine pRet ?_ | refine pCond ?_ | refine gNone ?_ | refine gOn rfl ?_ | refine gOff rfl rfl ?_ | refine gTup rfl ?_))
  refine (Split_w (l := []) (c := 44) (by simp)).mono fun v w25 q => ?_
  obtain ⟨base, cap, rfl, _, d25, _⟩ := q
  (repeat (first | refine pSeq ?_ | refine pReg ?_ | refine sRaw ?_ | refine sCons ?_ | refine sNil ?_ | refine rCons ?_ | refine rNil ?_ | refine kNo ?_ | refine pRow ?_ | refine pBlock ?_ | refine pSkip ?_ | refine pExit ?_ | refine pRet ?_ | refine pCond ?_ | refine gNone ?_ | refine gOn rfl ?_ | refine gOff rfl rfl ?_ | refine gTup rfl ?_))
  intro q hq
  obtain rfl : q = true := by rw [hq]; rfl
  (repeat (first | refine pSeq ?_ | refine pReg ?_ | refine sRaw ?_ | refine sCons ?_ | refine sNil ?_ | refine rCons ?_ | refine rNil ?_ | refine kNo ?_ | refine pRow ?_ | refine pBlock ?_ | refine pSkip ?_ | refine pExit ?_ | refine pRet ?_ | refine pCond ?_ | refine gNone ?_ | refine gOn rfl ?_ | refine gOff rfl rfl ?_ | refine gTup rfl ?_))
  refine (tells_w).mono fun v w26 q => ?_
  obtain ⟨rfl, _⟩ := q
  (repeat (first | refine pSeq ?_ | refine pReg ?_ | refine sRaw ?_ | refine sCons ?_ | refine sNil ?_ | refine rCons ?_ | refine rNil ?_ | refine kNo ?_ | refine pRow ?_ | refine pBlock ?_ | refine pSkip ?_ | refine pExit ?_ | refine pRet ?_ | refine pCond ?_ | refine gNone ?_ | refine gOn rfl ?_ | refine gOff rfl rfl ?_ | refine gTup rfl ?_))
  rfl
end Go.Vf.S
