import Derived.Test.YtnafoonbjhoolaaDkG
/- A disk behind calls. -/
namespace Go.Vf.S
open Go Go.Vf
attribute [local irreducible] wSeq wRow wp
set_option linter.unusedVariables false
set_option linter.unusedSimpArgs false
set_option maxRecDepth 10000

theorem wakes_run : isB (aCall pr 1000 50 n_law01_wakes [] (SS.st ⟨[], 0, 0⟩)) true = true := by kernel_rfl

theorem wakes_w {s : SS} (hg : s.gl = 0) : CallW pr n_law01_wakes [] s fun v s' => v = .bool true ∧ s' = s := by
  refine CallW.of_ok (s1 := s) ?_ ⟨rfl, rfl⟩
  refine CallOk.lift (c := []) (bs := []) (v' := .bool true) (τ := []) (sc := ⟨[], 0, 0⟩) (s := s) (CallW.of_run good wakes_run) rfl (by simp) hg.symm (fun g h => by omega) rfl trivial (by simp) ?_
  intro v s1 hv
  subst hv
  exact ⟨[], List.nodup_nil, rfl, (by simp), rfl, (by simp)⟩

def Dk.act (A : Dk) (a : AV) : Dk :=
  if 0 ≤ a.what ∧ a.what ≤ 4 then (A.wrote a.pos a.bl).2 else if a.what = 5 then A.synced else if a.what = 7 then { A with full := decide (a.pos.tmod 2 ≠ 0) } else A
def runV (l : List AV) : Dk := (fewV 30 l).foldl Dk.act (Dk.made 400)

structure RunS where
  i : Nat
  s : SS
  B : Bs

structure RunI (s0 : SS) (d : Nat) (ob : Option Addr) (fw : List AV) (x : RunS) : Prop where
  le : x.i ≤ fw.length
  at_ : DAt x.s d ((fw.take x.i).foldl Dk.act (Dk.made 400)) x.B
  row : OwnR tA x.s ob 0 fw.length (aCells fw)
  acts : ∀ a ∈ fw, ActOk x.s a
  chg : Chg s0 x.s []
  new : ∀ id ∈ whole d x.B, s0.next ≤ id
  few : x.B.wl.length ≤ x.i

theorem RunI.step {s0 s2 s3 : SS} {d i : Nat} {ob : Option Addr} {fw : List AV} {B B3 : Bs} (h : RunI s0 d ob fw ⟨i, s2, B⟩) (hlt : i < fw.length) (h3 : DAt s3 d (Dk.act ((fw.take i).foldl Dk.act (Dk.made 400)) fw[i]) B3) (st : Step d s2 B s3 B3) (hn : B3.wl.length ≤ B.wl.length + 1) : RunI s0 d ob fw ⟨i + 1, s3, B3⟩ := by
  have e : (fw.take (i + 1)).foldl Dk.act (Dk.made 400) = Dk.act ((fw.take i).foldl Dk.act (Dk.made 400)) fw[i] := by
    rw [List.take_add_one, List.foldl_append, List.getElem?_eq_getElem hlt]
    rfl
  obtain ⟨b, g, hob, hb⟩ := h.row.pos (by omega)
  have n2 := h.chg.next
  refine ⟨hlt, by dsimp only; rw [e]; exact h3, ?_, fun a ha => ?_, ?_, ?_, ?_⟩
  · refine h.row.chg st.chg (fun id q r => ?_)
    rw [hob] at q
    simp only [blkOf, List.mem_singleton] at q
    subst q
    exact h.at_.foot3 hb ⟨by decide, by decide, by decide⟩ (foot_whole r)
  · refine (h.acts a ha).chg st.chg (fun id q r => ?_)
    obtain ⟨c, t, g, e⟩ := (h.acts a ha).ro id q
    exact h.at_.footR e (foot_whole r)
  · exact h.chg.fresh st.chg (fun id q => h.new id (foot_whole q))
  · intro id q
    rcases st.al id q with r | r
    · exact h.new id r
    · exact Nat.le_trans n2 r
  · have := h.few
    dsimp only at this ⊢
    omega

set_option maxHeartbeats 2000000 in
theorem run_w {s : SS} {lb : Option Addr} {l : List AV} (hl : InA s lb l) (hf : Fine s) :
    CallW pr n_law01_run [.slice lb l.length 0] s fun v s' => ∃ d B, v = .pointer (some ⟨d, 0, none⟩) ∧ DAt s' d (runV l) B ∧ Chg s s' [] ∧ (∀ id ∈ whole d B, s.next ≤ id) ∧ B.wl.length ≤ 30 := by
  refine CallW.run good ok_law01_run (by simp) rfl ?_
  (repeat (first | refine pSeq ?_ | refine pReg ?_ | refine sRaw ?_ | refine sCons ?_ | refine sNil ?_ | refine rCons ?_ | refine rNil ?_ | refine kNo ?_ | refine pRow ?_ | refine pBlock ?_ | refine pSkip ?_ | refine pExit ?_ | refine pRet ?_ | refine pCond ?_ | refine gNone ?_ | refine gOn rfl ?_ | refine gOff rfl rfl ?_))
  refine (new_w (c := 400) (by decide)).mono fun v s1 q => ?_
  obtain ⟨d, hd, rfl, h1, c1⟩ := q
  (repeat (first | refine pSeq ?_ | refine pReg ?_ | refine sRaw ?_ | refine sCons ?_ | refine sNil ?_ | refine rCons ?_ | refine rNil ?_ | refine kNo ?_ | refine pRow ?_ | refine pBlock ?_ | refine pSkip ?_ | refine pExit ?_ | refine pRet ?_ | refine pCond ?_ | refine gNone ?_ | refine gOn rfl ?_ | refine gOff rfl rfl ?_))
  intro q hq
  obtain rfl : q = false := by rw [hq]; decide
  (repeat (first | refine pSeq ?_ | refine pReg ?_ | refine sRaw ?_ | refine sCons ?_ | refine sNil ?_ | refine rCons ?_ | refine rNil ?_ | refine kNo ?_ | refine pRow ?_ | refine pBlock ?_ | refine pSkip ?_ | refine pExit ?_ | refine pRet ?_ | refine pCond ?_ | refine gNone ?_ | refine gOn rfl ?_ | refine gOff rfl rfl ?_))
  refine (few_w (m := 30) (hl.chg0 c1) (c1.fine hf) (by decide)).mono fun v s2 q => ?_
  obtain ⟨ob, rfl, ho, hno, c2⟩ := q
  have hfl : (fewV 30 l).length ≤ 30 := by simp [fewV]; omega
  have e0 : fewV 30 l = fewV 30 l := rfl
  have hacts : ∀ a ∈ fewV 30 l, ActOk s2 a := by
    intro a ha
    obtain ⟨x, hx, rfl⟩ := List.mem_map.1 ha
    exact ((hl.2.1 x (List.mem_of_mem_take hx)).chg (c1.nil c2) (fun _ _ => by simp)).cut
  unfold runV
  generalize hfw : fewV 30 l = fw at *
  (repeat (first | refine pSeq ?_ | refine pReg ?_ | refine sRaw ?_ | refine sCons ?_ | refine sNil ?_ | refine rCons ?_ | refine rNil ?_ | refine kNo ?_ | refine pRow ?_ | refine pBlock ?_ | refine pSkip ?_ | refine pExit ?_ | refine pRet ?_ | refine pCond ?_ | refine gNone ?_ | refine gOn rfl ?_ | refine gOff rfl rfl ?_))
  refine pLoop (MW.head good (fun x : RunS => fw.length - x.i) (RunI s d ob fw)
    (fun x => [(3, .pointer (some ⟨d, 0, none⟩)), (14, .slice ob fw.length 0), (15, .int .i64 fw.length), (16, .int .i64 x.i)]) (fun x => x.s) ⟨0, s2, B0⟩
    ⟨Nat.zero_le _, h1.chg c2 (fun _ _ => by simp), ho, hacts, c1.nil c2, (fun id q => by simp [whole, foot, bytesOfW, B0, blkOf] at q; omega), Nat.zero_le _⟩ ?_ ?_)
  · exact Wk.same ⟨rfl, rfl, rfl, rfl, trivial⟩
  intro ⟨i, s3, B⟩ hI
  have hi := hI.le
  have hfew := hI.few
  dsimp only at hi hfew ⊢
  (repeat (first | refine pSeq ?_ | refine pReg ?_ | refine sRaw ?_ | refine sCons ?_ | refine sNil ?_ | refine rCons ?_ | refine rNil ?_ | refine kNo ?_ | refine pRow ?_ | refine pBlock ?_ | refine pSkip ?_ | refine pExit ?_ | refine pRet ?_ | refine pCond ?_ | refine gNone ?_ | refine gOn rfl ?_ | refine gOff rfl rfl ?_))
  intro q hq
  by_cases hlt : i < fw.length
  · obtain rfl : q = true := by rw [hq]; simp; omega
    obtain ⟨b, g, rfl, hb⟩ := hI.row.pos (by omega)
    dsimp only at hb
    (repeat (first | refine pSeq ?_ | refine pReg ?_ | refine sRaw ?_ | refine sCons ?_ | refine sNil ?_ | refine rCons ?_ | refine rNil ?_ | refine kNo ?_ | refine pRow ?_ | refine pBlock ?_ | refine pSkip ?_ | refine pExit ?_ | refine pRet ?_ | refine pCond ?_ | refine gNone ?_ | refine gOn rfl ?_ | refine gOff rfl rfl ?_))
    refine ⟨⟨by omega, Int.ofNat_lt.2 hlt⟩, ?_⟩
    intro k hk o hof
    obtain rfl : k = i := by omega
    rw [Nat.zero_add] at hof
    subst hof
    (repeat (first | refine pSeq ?_ | refine pReg ?_ | refine sRaw ?_ | refine sCons ?_ | refine sNil ?_ | refine rCons ?_ | refine rNil ?_ | refine kNo ?_ | refine pRow ?_ | refine pBlock ?_ | refine pSkip ?_ | refine pExit ?_ | refine pRet ?_ | refine pCond ?_ | refine gNone ?_ | refine gOn rfl ?_ | refine gOff rfl rfl ?_))
    refine ldN_is rfl hb (aCells_at hlt) ?_
    (repeat (first | refine pSeq ?_ | refine pReg ?_ | refine sRaw ?_ | refine sCons ?_ | refine sNil ?_ | refine rCons ?_ | refine rNil ?_ | refine kNo ?_ | refine pRow ?_ | refine pBlock ?_ | refine pSkip ?_ | refine pExit ?_ | refine pRet ?_ | refine pCond ?_ | refine gNone ?_ | refine gOn rfl ?_ | refine gOff rfl rfl ?_))
    have cA := Chg.new (s := s3) (b := .cells [.int .i64 0, .int .i64 0, .int .i64 0, .slice none 0 0, .slice none 0 0] tA false false) []
    refine st_abs (cs' := aCell fw[k]) rfl rfl lkH (Nat.lt_succ_self _) rfl rfl fun s4 hbox c4 hn4 => ?_
    have hn4 : s4.next = s3.next + 1 := hn4
    have c34 : Chg s3 s4 [] := cA.fresh c4 (fun id q => by simp at q; omega)
    have hI4 : RunI s d (some ⟨b, 0, none⟩) fw ⟨k, s4, B⟩ := ⟨hi, hI.at_.chg c34 (fun _ _ => by simp), hI.row.chg c34 (fun _ _ => by simp), fun a ha => (hI.acts a ha).chg c34 (fun _ _ => by simp), hI.chg.nil c34, hI.new, hfew⟩
    have hact : ActOk s4 fw[k] := hI4.acts _ (List.getElem_mem hlt)
    have h4 := hI4.at_
    have f4 := hI4.chg.fine hf
    dsimp only at h4 f4
    obtain ⟨what, hwhat⟩ : ∃ w, w = fw[k].what := ⟨_, rfl⟩
    have fin : ∀ (s5 : SS) (B5 : Bs), DAt s5 d (Dk.act ((fw.take k).foldl Dk.act (Dk.made 400)) fw[k]) B5 → Step d s4 B s5 B5 → B5.wl.length ≤ B.wl.length + 1 → RunI s d (some ⟨b, 0, none⟩) fw ⟨k + 1, s5, B5⟩ := fun s5 B5 a b c => hI4.step hlt a b c
    (repeat (first | refine pSeq ?_ | refine pReg ?_ | refine sRaw ?_ | refine sCons ?_ | refine sNil ?_ | refine rCons ?_ | refine rNil ?_ | refine kNo ?_ | refine pRow ?_ | refine pBlock ?_ | refine pSkip ?_ | refine pExit ?_ | refine pRet ?_ | refine pCond ?_ | refine gNone ?_ | refine gOn rfl ?_ | refine gOff rfl rfl ?_))
    refine ldI_is (z := what) rfl hbox (by rw [hwhat]; rfl) ?_
    by_cases hw : 0 ≤ what ∧ what ≤ 4
    · have ea : Dk.act ((fw.take k).foldl Dk.act (Dk.made 400)) fw[k] = (((fw.take k).foldl Dk.act (Dk.made 400)).wrote fw[k].pos fw[k].bl).2 := by
        unfold Dk.act
        rw [if_pos (by rw [← hwhat]; exact hw)]
      rw [ea] at fin
      have hbl : fw[k].bl.length ≤ 1073741824 := by
        have hm : fw[k] ∈ fewV 30 l := by rw [hfw]; exact List.getElem_mem hlt
        obtain ⟨x, hx, e⟩ := List.mem_map.1 hm
        rw [← e]
        simp [cutA]
        omega
      have hcall := write_w (cx := 0) h4 f4 hact.1.1.1 hbl (by omega) hact.2.2.1.2
      have hcases : what = 0 ∨ what = 1 ∨ what = 2 ∨ what = 3 ∨ what = 4 := by omega
      rcases hcases with rfl | rfl | rfl | rfl | rfl
      all_goals
        (repeat (first | refine pSeq ?_ | refine pReg ?_ | refine sRaw ?_ | refine sCons ?_ | refine sNil ?_ | refine rCons ?_ | refine rNil ?_ | refine kNo ?_ | refine pRow ?_ | refine pBlock ?_ | refine pSkip ?_ | refine pExit ?_ | refine pRet ?_ | refine pCond ?_ | refine gNone ?_ | refine gOn rfl ?_ | refine gOff rfl rfl ?_))
        repeat (
          intro q hq
          simp at hq
          subst hq
          (repeat (first | refine pSeq ?_ | refine pReg ?_ | refine sRaw ?_ | refine sCons ?_ | refine sNil ?_ | refine rCons ?_ | refine rNil ?_ | refine kNo ?_ | refine pRow ?_ | refine pBlock ?_ | refine pSkip ?_ | refine pExit ?_ | refine pRet ?_ | refine pCond ?_ | refine gNone ?_ | refine gOn rfl ?_ | refine gOff rfl rfl ?_)))
        refine ldI_is (z := fw[k].pos) rfl hbox rfl ?_
        (repeat (first | refine pSeq ?_ | refine pReg ?_ | refine sRaw ?_ | refine sCons ?_ | refine sNil ?_ | refine rCons ?_ | refine rNil ?_ | refine kNo ?_ | refine pRow ?_ | refine pBlock ?_ | refine pSkip ?_ | refine pExit ?_ | refine pRet ?_ | refine pCond ?_ | refine gNone ?_ | refine gOn rfl ?_ | refine gOff rfl rfl ?_))
        refine ld1_is (v := .slice fw[k].bb fw[k].bl.length 0) rfl hbox rfl ?_
        (repeat (first | refine pSeq ?_ | refine pReg ?_ | refine sRaw ?_ | refine sCons ?_ | refine sNil ?_ | refine rCons ?_ | refine rNil ?_ | refine kNo ?_ | refine pRow ?_ | refine pBlock ?_ | refine pSkip ?_ | refine pExit ?_ | refine pRet ?_ | refine pCond ?_ | refine gNone ?_ | refine gOn rfl ?_ | refine gOff rfl rfl ?_))
        refine hcall.mono fun v s5 q => ?_
        obtain ⟨rfl, B5, h5, st5, l5⟩ := q
        (repeat (first | refine pSeq ?_ | refine pReg ?_ | refine sRaw ?_ | refine sCons ?_ | refine sNil ?_ | refine rCons ?_ | refine rNil ?_ | refine kNo ?_ | refine pRow ?_ | refine pBlock ?_ | refine pSkip ?_ | refine pExit ?_ | refine pRet ?_ | refine pCond ?_ | refine gNone ?_ | refine gOn rfl ?_ | refine gOff rfl rfl ?_))
        intro z hz
        rw [i64_id (by omega)] at hz
        (repeat (first | refine pSeq ?_ | refine pReg ?_ | refine sRaw ?_ | refine sCons ?_ | refine sNil ?_ | refine rCons ?_ | refine rNil ?_ | refine kNo ?_ | refine pRow ?_ | refine pBlock ?_ | refine pSkip ?_ | refine pExit ?_ | refine pRet ?_ | refine pCond ?_ | refine gNone ?_ | refine gOn rfl ?_ | refine gOff rfl rfl ?_))
        refine ⟨⟨k + 1, s5, B5⟩, fin s5 B5 h5 st5 l5, by dsimp only; omega, Wk.same ⟨rfl, rfl, rfl, ?_, trivial⟩⟩
        subst hz
        rfl
    · have hno : ¬ (0 ≤ fw[k].what ∧ fw[k].what ≤ 4) := by rw [← hwhat]; exact hw
      by_cases h5 : what = 5
      · have ea : Dk.act ((fw.take k).foldl Dk.act (Dk.made 400)) fw[k] = ((fw.take k).foldl Dk.act (Dk.made 400)).synced := by
          unfold Dk.act
          rw [if_neg hno, if_pos (by rw [← hwhat]; exact h5)]
        rw [ea] at fin
        subst h5
        (repeat (first | refine pSeq ?_ | refine pReg ?_ | refine sRaw ?_ | refine sCons ?_ | refine sNil ?_ | refine rCons ?_ | refine rNil ?_ | refine kNo ?_ | refine pRow ?_ | refine pBlock ?_ | refine pSkip ?_ | refine pExit ?_ | refine pRet ?_ | refine pCond ?_ | refine gNone ?_ | refine gOn rfl ?_ | refine gOff rfl rfl ?_))
        repeat (
          intro q hq
          simp at hq
          subst hq
          (repeat (first | refine pSeq ?_ | refine pReg ?_ | refine sRaw ?_ | refine sCons ?_ | refine sNil ?_ | refine rCons ?_ | refine rNil ?_ | refine kNo ?_ | refine pRow ?_ | refine pBlock ?_ | refine pSkip ?_ | refine pExit ?_ | refine pRet ?_ | refine pCond ?_ | refine gNone ?_ | refine gOn rfl ?_ | refine gOff rfl rfl ?_)))
        refine (sync_w h4).mono fun v s5 q => ?_
        obtain ⟨rfl, B5, h5, st5, l5⟩ := q
        (repeat (first | refine pSeq ?_ | refine pReg ?_ | refine sRaw ?_ | refine sCons ?_ | refine sNil ?_ | refine rCons ?_ | refine rNil ?_ | refine kNo ?_ | refine pRow ?_ | refine pBlock ?_ | refine pSkip ?_ | refine pExit ?_ | refine pRet ?_ | refine pCond ?_ | refine gNone ?_ | refine gOn rfl ?_ | refine gOff rfl rfl ?_))
        intro z hz
        rw [i64_id (by omega)] at hz
        (repeat (first | refine pSeq ?_ | refine pReg ?_ | refine sRaw ?_ | refine sCons ?_ | refine sNil ?_ | refine rCons ?_ | refine rNil ?_ | refine kNo ?_ | refine pRow ?_ | refine pBlock ?_ | refine pSkip ?_ | refine pExit ?_ | refine pRet ?_ | refine pCond ?_ | refine gNone ?_ | refine gOn rfl ?_ | refine gOff rfl rfl ?_))
        refine ⟨⟨k + 1, s5, B5⟩, fin s5 B5 h5 st5 (by rw [l5]; exact Nat.zero_le _), by dsimp only; omega, Wk.same ⟨rfl, rfl, rfl, ?_, trivial⟩⟩
        subst hz
        rfl
      by_cases h7 : what = 7
      · have ea : Dk.act ((fw.take k).foldl Dk.act (Dk.made 400)) fw[k] = { ((fw.take k).foldl Dk.act (Dk.made 400)) with full := decide (fw[k].pos.tmod 2 ≠ 0) } := by
          unfold Dk.act
          rw [if_neg hno, if_neg (by rw [← hwhat]; exact h5), if_pos (by rw [← hwhat]; exact h7)]
        rw [ea] at fin
        subst h7
        (repeat (first | refine pSeq ?_ | refine pReg ?_ | refine sRaw ?_ | refine sCons ?_ | refine sNil ?_ | refine rCons ?_ | refine rNil ?_ | refine kNo ?_ | refine pRow ?_ | refine pBlock ?_ | refine pSkip ?_ | refine pExit ?_ | refine pRet ?_ | refine pCond ?_ | refine gNone ?_ | refine gOn rfl ?_ | refine gOff rfl rfl ?_))
        repeat (
          intro q hq
          simp at hq
          subst hq
          (repeat (first | refine pSeq ?_ | refine pReg ?_ | refine sRaw ?_ | refine sCons ?_ | refine sNil ?_ | refine rCons ?_ | refine rNil ?_ | refine kNo ?_ | refine pRow ?_ | refine pBlock ?_ | refine pSkip ?_ | refine pExit ?_ | refine pRet ?_ | refine pCond ?_ | refine gNone ?_ | refine gOn rfl ?_ | refine gOff rfl rfl ?_)))
        refine ldI_is (z := fw[k].pos) rfl hbox rfl ?_
        (repeat (first | refine pSeq ?_ | refine pReg ?_ | refine sRaw ?_ | refine sCons ?_ | refine sNil ?_ | refine rCons ?_ | refine rNil ?_ | refine kNo ?_ | refine pRow ?_ | refine pBlock ?_ | refine pSkip ?_ | refine pExit ?_ | refine pRet ?_ | refine pCond ?_ | refine gNone ?_ | refine gOn rfl ?_ | refine gOff rfl rfl ?_))
        refine ⟨by decide, ?_⟩
        intro z hz
        (repeat (first | refine pSeq ?_ | refine pReg ?_ | refine sRaw ?_ | refine sCons ?_ | refine sNil ?_ | refine rCons ?_ | refine rNil ?_ | refine kNo ?_ | refine pRow ?_ | refine pBlock ?_ | refine pSkip ?_ | refine pExit ?_ | refine pRet ?_ | refine pCond ?_ | refine gNone ?_ | refine gOn rfl ?_ | refine gOff rfl rfl ?_))
        intro q hq
        subst hz; subst hq
        (repeat (first | refine pSeq ?_ | refine pReg ?_ | refine sRaw ?_ | refine sCons ?_ | refine sNil ?_ | refine rCons ?_ | refine rNil ?_ | refine kNo ?_ | refine pRow ?_ | refine pBlock ?_ | refine pSkip ?_ | refine pExit ?_ | refine pRet ?_ | refine pCond ?_ | refine gNone ?_ | refine gOn rfl ?_ | refine gOff rfl rfl ?_))
        refine (fill_w h4 _).mono fun v s5 q => ?_
        obtain ⟨rfl, h5, st5⟩ := q
        (repeat (first | refine pSeq ?_ | refine pReg ?_ | refine sRaw ?_ | refine sCons ?_ | refine sNil ?_ | refine rCons ?_ | refine rNil ?_ | refine kNo ?_ | refine pRow ?_ | refine pBlock ?_ | refine pSkip ?_ | refine pExit ?_ | refine pRet ?_ | refine pCond ?_ | refine gNone ?_ | refine gOn rfl ?_ | refine gOff rfl rfl ?_))
        intro z hz
        rw [i64_id (by omega)] at hz
        (repeat (first | refine pSeq ?_ | refine pReg ?_ | refine sRaw ?_ | refine sCons ?_ | refine sNil ?_ | refine rCons ?_ | refine rNil ?_ | refine kNo ?_ | refine pRow ?_ | refine pBlock ?_ | refine pSkip ?_ | refine pExit ?_ | refine pRet ?_ | refine pCond ?_ | refine gNone ?_ | refine gOn rfl ?_ | refine gOff rfl rfl ?_))
        refine ⟨⟨k + 1, s5, B⟩, fin s5 B h5 st5 (Nat.le_succ _), by dsimp only; omega, Wk.same ⟨rfl, rfl, rfl, ?_, trivial⟩⟩
        subst hz
        rfl
      have ea : Dk.act ((fw.take k).foldl Dk.act (Dk.made 400)) fw[k] = ((fw.take k).foldl Dk.act (Dk.made 400)) := by
        unfold Dk.act
        rw [if_neg hno, if_neg (by rw [← hwhat]; exact h5), if_neg (by rw [← hwhat]; exact h7)]
      rw [ea] at fin
      (repeat (first | refine pSeq ?_ | refine pReg ?_ | refine sRaw ?_ | refine sCons ?_ | refine sNil ?_ | refine rCons ?_ | refine rNil ?_ | refine kNo ?_ | refine pRow ?_ | refine pBlock ?_ | refine pSkip ?_ | refine pExit ?_ | refine pRet ?_ | refine pCond ?_ | refine gNone ?_ | refine gOn rfl ?_ | refine gOff rfl rfl ?_))
      repeat (
        intro q hq
        obtain rfl : q = false := by rw [hq]; simp; omega
        (repeat (first | refine pSeq ?_ | refine pReg ?_ | refine sRaw ?_ | refine sCons ?_ | refine sNil ?_ | refine rCons ?_ | refine rNil ?_ | refine kNo ?_ | refine pRow ?_ | refine pBlock ?_ | refine pSkip ?_ | refine pExit ?_ | refine pRet ?_ | refine pCond ?_ | refine gNone ?_ | refine gOn rfl ?_ | refine gOff rfl rfl ?_)))
      intro z hz
      rw [i64_id (by omega)] at hz
      (repeat (first | refine pSeq ?_ | refine pReg ?_ | refine sRaw ?_ | refine sCons ?_ | refine sNil ?_ | refine rCons ?_ | refine rNil ?_ | refine kNo ?_ | refine pRow ?_ | refine pBlock ?_ | refine pSkip ?_ | refine pExit ?_ | refine pRet ?_ | refine pCond ?_ | refine gNone ?_ | refine gOn rfl ?_ | refine gOff rfl rfl ?_))
      refine ⟨⟨k + 1, s4, B⟩, fin s4 B h4 (.refl _ _ _) (Nat.le_succ _), by dsimp only; omega, Wk.same ⟨rfl, rfl, rfl, ?_, trivial⟩⟩
      subst hz
      rfl
  · obtain rfl : q = false := by rw [hq]; simp; omega
    obtain rfl : i = fw.length := by omega
    have ha := hI.at_
    rw [List.take_of_length_le (Nat.le_refl _)] at ha
    (repeat (first | refine pSeq ?_ | refine pReg ?_ | refine sRaw ?_ | refine sCons ?_ | refine sNil ?_ | refine rCons ?_ | refine rNil ?_ | refine kNo ?_ | refine pRow ?_ | refine pBlock ?_ | refine pSkip ?_ | refine pExit ?_ | refine pRet ?_ | refine pCond ?_ | refine gNone ?_ | refine gOn rfl ?_ | refine gOff rfl rfl ?_))
    exact ⟨d, B, rfl, ha, hI.chg, hI.new, by omega⟩
end Go.Vf.S
