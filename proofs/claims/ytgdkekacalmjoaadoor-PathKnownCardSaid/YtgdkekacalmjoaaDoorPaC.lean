import Derived.Test.YtgdkekacalmjoaaDoorPaB
import Derived.Test.YtgdkekacalmjoaaDoorEngMb
/- Paths: a parameter. -/
namespace Go.Vf.S
open Go Go.Vf Go.MapKept
attribute [local irreducible] wSeq wRow wp wG
set_option linter.unusedVariables false
set_option linter.unusedSimpArgs false
set_option maxRecDepth 10000

def sizeL : List UInt8 := [115, 105, 122, 101]
def bodyL : List UInt8 := [98, 111, 100, 121]
def knownM (pc bc : Nat) : List MapEntry := [⟨str sizeL, .func (.func n_path_Params_known_1) #[] #[.pointer (some ⟨pc, 0, none⟩)], 0⟩, ⟨str bodyL, .func (.func n_path_Params_known_2) #[] #[.pointer (some ⟨bc, 0, none⟩), .pointer (some ⟨pc, 0, none⟩)], 1⟩]

abbrev tKn : TypeId := 88
abbrev tFe : TypeId := 101
theorem um_kn : pr.underlying tKn = some (.map tS tFe) := by kernel_rfl
theorem kn_keys (pc bc : Nat) : ∀ x ∈ knownM pc bc, IsKey .string x.key := by
  intro x hx
  simp only [knownM, List.mem_cons, List.not_mem_nil, or_false] at hx
  rcases hx with rfl | rfl <;> trivial

theorem kn_size (pc bc : Nat) : ∀ x ∈ knownM pc bc, x.key = str sizeL → x.val = .func (.func n_path_Params_known_1) #[] #[.pointer (some ⟨pc, 0, none⟩)] := by
  intro x hx hk
  simp only [knownM, List.mem_cons, List.not_mem_nil, or_false] at hx
  rcases hx with rfl | rfl
  · rfl
  · simp [str, sizeL, bodyL] at hk
theorem kn_body (pc bc : Nat) : ∀ x ∈ knownM pc bc, x.key = str bodyL → x.val = .func (.func n_path_Params_known_2) #[] #[.pointer (some ⟨bc, 0, none⟩), .pointer (some ⟨pc, 0, none⟩)] := by
  intro x hx hk
  simp only [knownM, List.mem_cons, List.not_mem_nil, or_false] at hx
  rcases hx with rfl | rfl
  · simp [str, sizeL, bodyL] at hk
  · rfl
theorem kn_none (pc bc : Nat) {t : List UInt8} (h1 : ¬t = sizeL) (h2 : ¬t = bodyL) : ∀ x ∈ knownM pc bc, x.key ≠ str t := by
  intro x hx hk
  simp only [knownM, List.mem_cons, List.not_mem_nil, or_false] at hx
  rcases hx with rfl | rfl
  · simp [str] at hk; exact h1 hk.symm
  · simp [str] at hk; exact h2 hk.symm

/-! What a parameter says -/
def nameP (l : List UInt8) : List UInt8 := (cutF 61 l).1
def valP (l : List UInt8) : List UInt8 := (cutF 61 l).2.1
def hasP (l : List UInt8) : Bool := (cutF 61 l).2.2
def formP (l : List UInt8) : Bool := rowF namN (nameP l) && (!hasP l || rowF valN (valP l))
def sayE (p : Pv) (k : Nat) (l : List UInt8) : Int := if formP l = false then 5 else if hasP l = false then 1 else if (nameP l).map lowB = sizeL then sizeE p (valP l) else if (nameP l).map lowB = bodyL then bodyE k (valP l) else 1
def sayV (p : Pv) (l : List UInt8) : Pv := if formP l = true ∧ hasP l = true ∧ (nameP l).map lowB = sizeL then ⟨true, p.eight, (numberF (valP l) 9).1⟩ else if formP l = true ∧ hasP l = true ∧ (nameP l).map lowB = bodyL then ⟨p.has, eightB (valP l), p.size⟩ else p
def sayK (k : Nat) (l : List UInt8) : Nat := if formP l = true ∧ hasP l = true ∧ (nameP l).map lowB = bodyL then k + 1 else k

set_option maxHeartbeats 1000000 in
theorem say_w {s : SS} {pc pb bc mp k : Nat} {p : Pv} {l : List UInt8} (h : PvAt s pc pb p) (hb : lookH s.heap bc = some (.cells [.int .i64 k] tI false false)) (hbl : bc < s.next) (hm : lookH s.heap mp = some (.map (knownM pc bc) 2)) (hml : mp < s.next) (hf : Fine s) (hk : k < 1000000) (hl : l.length ≤ 1000000) :
    CallW pr n_path_say [str l, .map (some mp)] s fun v s' => v = .int .i64 (sayE p k l) ∧ PvAt s' pc pb (sayV p l) ∧ lookH s'.heap bc = some (.cells [.int .i64 (sayK k l)] tI false false) ∧ Chg s s' [pb, bc] := by
  have hlen : (cutF 61 l).1.length ≤ 1000000 ∧ (cutF 61 l).2.1.length ≤ 1000000 := by
    unfold cutF
    split
    · refine ⟨Nat.le_trans (List.takeWhile_sublist _).length_le hl, ?_⟩
      show (l.drop _).length ≤ _
      rw [List.length_drop]; omega
    · exact ⟨hl, by simp⟩
  have eN : nameP l = (cutF 61 l).1 := rfl
  have eV : valP l = (cutF 61 l).2.1 := rfl
  have eH : hasP l = (cutF 61 l).2.2 := rfl
  refine CallW.run good ok_path_say (by simp) rfl ?_
  (repeat(first|refine pSeq ?_|refine pReg ?_|refine sRaw ?_|refine sCons ?_|refine sNil ?_|refine pSkip ?_|refine pRet ?_|refine pCond ?_|refine gNone ?_|refine gOn rfl ?_|refine gOff rfl rfl ?_|refine gTup rfl ?_))
  refine (cut1_w (c := 61) hl).mono fun v s q => ?_
  obtain ⟨rfl, rfl⟩ := q
  generalize cutF 61 l = C at *
  obtain ⟨name, value, valued⟩ := C
  dsimp only at *
  obtain ⟨hname, hvalue⟩ := hlen
  (repeat(first|refine pSeq ?_|refine pReg ?_|refine sRaw ?_|refine sCons ?_|refine sNil ?_|refine pSkip ?_|refine pRet ?_|refine pCond ?_|refine gNone ?_|refine gOn rfl ?_|refine gOff rfl rfl ?_|refine gTup rfl ?_))
  refine (row_w hname (fun x => by kernel_rfl) (fun r s1 hr => nameLetter_w hr) nam_hi).mono fun v s1 q => ?_
  obtain ⟨rfl, c1⟩ := q
  have h1 := h.chg c1 (by simp) (by simp)
  have b1 := c1.blk _ _ hbl (by simp) hb
  have m1 := c1.blk _ _ hml (by simp) hm
  have bl1 := Nat.lt_of_lt_of_le hbl c1.next
  have ml1 := Nat.lt_of_lt_of_le hml c1.next
  (repeat(first|refine pSeq ?_|refine pReg ?_|refine sRaw ?_|refine sCons ?_|refine sNil ?_|refine pSkip ?_|refine pRet ?_|refine pCond ?_|refine gNone ?_|refine gOn rfl ?_|refine gOff rfl rfl ?_|refine gTup rfl ?_))
  intro q hq
  cases hr : rowF namN name with
  | false =>
    obtain rfl : q = true := by rw [hq, hr]; rfl
    (repeat(first|refine pSeq ?_|refine pReg ?_|refine sRaw ?_|refine sCons ?_|refine sNil ?_|refine pSkip ?_|refine pRet ?_|refine pCond ?_|refine gNone ?_|refine gOn rfl ?_|refine gOff rfl rfl ?_|refine gTup rfl ?_))
    exact ⟨by show Value.int .i64 5 = _; rw [show sayE p k l = 5 from by simp [sayE, formP, eN, eV, eH, hr]], by rw [show sayV p l = p from by simp [sayV, formP, eN, eV, eH, hr]]; exact h1, by rw [show sayK k l = k from by simp [sayK, formP, eN, eV, eH, hr]]; exact b1, c1.sub (by simp)⟩
  | true =>
    obtain rfl : q = false := by rw [hq, hr]; rfl
    (repeat(first|refine pSeq ?_|refine pReg ?_|refine sRaw ?_|refine sCons ?_|refine sNil ?_|refine pSkip ?_|refine pRet ?_|refine pCond ?_|refine gNone ?_|refine gOn rfl ?_|refine gOff rfl rfl ?_|refine gTup rfl ?_))
    cases valued with
    | false =>
      (repeat(first|refine pSeq ?_|refine pReg ?_|refine sRaw ?_|refine sCons ?_|refine sNil ?_|refine pSkip ?_|refine pRet ?_|refine pCond ?_|refine gNone ?_|refine gOn rfl ?_|refine gOff rfl rfl ?_|refine gTup rfl ?_))
      refine (lower_w hname).mono fun v s2 q => ?_
      obtain ⟨rfl, c2⟩ := q
      have h2 := h1.chg c2 (by simp) (by simp)
      have b2 := c2.blk _ _ bl1 (by simp) b1
      have m2 := c2.blk _ _ ml1 (by simp) m1
      have c12 : Chg s s2 [] := c1.nil c2
      (repeat(first|refine pSeq ?_|refine pReg ?_|refine sRaw ?_|refine sCons ?_|refine sNil ?_|refine pSkip ?_|refine pRet ?_|refine pCond ?_|refine gNone ?_|refine gOn rfl ?_|refine gOff rfl rfl ?_|refine gTup rfl ?_))
      by_cases hs : name.map lowB = sizeL
      · rw [hs]
        refine lookup_val (d := .string) (v := .func (.func n_path_Params_known_1) #[] #[.pointer (some ⟨pc, 0, none⟩)]) rfl um_kn un_S rfl rfl trivial m2 (kn_keys _ _) ⟨_, List.mem_cons_self .., rfl⟩ (kn_size _ _) ?_
        (repeat(first|refine pSeq ?_|refine pReg ?_|refine sRaw ?_|refine sCons ?_|refine sNil ?_|refine pSkip ?_|refine pRet ?_|refine pCond ?_|refine gNone ?_|refine gOn rfl ?_|refine gOff rfl rfl ?_|refine gTup rfl ?_))
        intro q hq
        obtain rfl : q = false := hq
        (repeat(first|refine pSeq ?_|refine pReg ?_|refine sRaw ?_|refine sCons ?_|refine sNil ?_|refine pSkip ?_|refine pRet ?_|refine pCond ?_|refine gNone ?_|refine gOn rfl ?_|refine gOff rfl rfl ?_|refine gTup rfl ?_))
        intro q hq
        obtain rfl : q = true := hq
        (repeat(first|refine pSeq ?_|refine pReg ?_|refine sRaw ?_|refine sCons ?_|refine sNil ?_|refine pSkip ?_|refine pRet ?_|refine pCond ?_|refine gNone ?_|refine gOn rfl ?_|refine gOff rfl rfl ?_|refine gTup rfl ?_))
        exact ⟨by show Value.int .i64 1 = _; rw [show sayE p k l = 1 from by simp [sayE, formP, eN, eV, eH, hr]], by rw [show sayV p l = p from by simp [sayV, formP, eN, eV, eH, hr]]; exact h2, by rw [show sayK k l = k from by simp [sayK, formP, eN, eV, eH, hr]]; exact b2, c12.sub (by simp)⟩
      by_cases hy : name.map lowB = bodyL
      · rw [hy]
        refine lookup_val (d := .string) (v := .func (.func n_path_Params_known_2) #[] #[.pointer (some ⟨bc, 0, none⟩), .pointer (some ⟨pc, 0, none⟩)]) rfl um_kn un_S rfl rfl trivial m2 (kn_keys _ _) ⟨_, List.mem_cons_of_mem _ (List.mem_cons_self ..), rfl⟩ (kn_body _ _) ?_
        (repeat(first|refine pSeq ?_|refine pReg ?_|refine sRaw ?_|refine sCons ?_|refine sNil ?_|refine pSkip ?_|refine pRet ?_|refine pCond ?_|refine gNone ?_|refine gOn rfl ?_|refine gOff rfl rfl ?_|refine gTup rfl ?_))
        intro q hq
        obtain rfl : q = false := hq
        (repeat(first|refine pSeq ?_|refine pReg ?_|refine sRaw ?_|refine sCons ?_|refine sNil ?_|refine pSkip ?_|refine pRet ?_|refine pCond ?_|refine gNone ?_|refine gOn rfl ?_|refine gOff rfl rfl ?_|refine gTup rfl ?_))
        intro q hq
        obtain rfl : q = true := hq
        (repeat(first|refine pSeq ?_|refine pReg ?_|refine sRaw ?_|refine sCons ?_|refine sNil ?_|refine pSkip ?_|refine pRet ?_|refine pCond ?_|refine gNone ?_|refine gOn rfl ?_|refine gOff rfl rfl ?_|refine gTup rfl ?_))
        exact ⟨by show Value.int .i64 1 = _; rw [show sayE p k l = 1 from by simp [sayE, formP, eN, eV, eH, hr]], by rw [show sayV p l = p from by simp [sayV, formP, eN, eV, eH, hr]]; exact h2, by rw [show sayK k l = k from by simp [sayK, formP, eN, eV, eH, hr]]; exact b2, c12.sub (by simp)⟩
      refine lookup_out (d := .string) (z := .nilFunc) rfl um_kn un_S rfl rfl trivial rfl m2 (kn_keys _ _) (kn_none _ _ hs hy) (fun w => rfl) ?_
      (repeat(first|refine pSeq ?_|refine pReg ?_|refine sRaw ?_|refine sCons ?_|refine sNil ?_|refine pSkip ?_|refine pRet ?_|refine pCond ?_|refine gNone ?_|refine gOn rfl ?_|refine gOff rfl rfl ?_|refine gTup rfl ?_))
      intro q hq
      obtain rfl : q = true := hq
      (repeat(first|refine pSeq ?_|refine pReg ?_|refine sRaw ?_|refine sCons ?_|refine sNil ?_|refine pSkip ?_|refine pRet ?_|refine pCond ?_|refine gNone ?_|refine gOn rfl ?_|refine gOff rfl rfl ?_|refine gTup rfl ?_))
      exact ⟨by show Value.int .i64 1 = _; rw [show sayE p k l = 1 from by simp [sayE, formP, eN, eV, eH, hr]], by rw [show sayV p l = p from by simp [sayV, formP, eN, eV, eH, hr]]; exact h2, by rw [show sayK k l = k from by simp [sayK, formP, eN, eV, eH, hr]]; exact b2, c12.sub (by simp)⟩
    | true =>
      (repeat(first|refine pSeq ?_|refine pReg ?_|refine sRaw ?_|refine sCons ?_|refine sNil ?_|refine pSkip ?_|refine pRet ?_|refine pCond ?_|refine gNone ?_|refine gOn rfl ?_|refine gOff rfl rfl ?_|refine gTup rfl ?_))
      refine (row_w hvalue (fun x => by kernel_rfl) (fun r s1 hr => valueLetter_w hr) val_hi).mono fun v s2 q => ?_
      obtain ⟨rfl, c2⟩ := q
      have h2 := h1.chg c2 (by simp) (by simp)
      have b2 := c2.blk _ _ bl1 (by simp) b1
      have m2 := c2.blk _ _ ml1 (by simp) m1
      have bl2 := Nat.lt_of_lt_of_le bl1 c2.next
      have ml2 := Nat.lt_of_lt_of_le ml1 c2.next
      have c12 : Chg s s2 [] := c1.nil c2
      (repeat(first|refine pSeq ?_|refine pReg ?_|refine sRaw ?_|refine sCons ?_|refine sNil ?_|refine pSkip ?_|refine pRet ?_|refine pCond ?_|refine gNone ?_|refine gOn rfl ?_|refine gOff rfl rfl ?_|refine gTup rfl ?_))
      intro q hq
      cases hv : rowF valN value with
      | false =>
        obtain rfl : q = true := by rw [hq, hv]; rfl
        (repeat(first|refine pSeq ?_|refine pReg ?_|refine sRaw ?_|refine sCons ?_|refine sNil ?_|refine pSkip ?_|refine pRet ?_|refine pCond ?_|refine gNone ?_|refine gOn rfl ?_|refine gOff rfl rfl ?_|refine gTup rfl ?_))
        exact ⟨by show Value.int .i64 5 = _; rw [show sayE p k l = 5 from by simp [sayE, formP, eN, eV, eH, hr, hv]], by rw [show sayV p l = p from by simp [sayV, formP, eN, eV, eH, hr, hv]]; exact h2, by rw [show sayK k l = k from by simp [sayK, formP, eN, eV, eH, hr, hv]]; exact b2, c12.sub (by simp)⟩
      | true =>
        obtain rfl : q = false := by rw [hq, hv]; rfl
        (repeat(first|refine pSeq ?_|refine pReg ?_|refine sRaw ?_|refine sCons ?_|refine sNil ?_|refine pSkip ?_|refine pRet ?_|refine pCond ?_|refine gNone ?_|refine gOn rfl ?_|refine gOff rfl rfl ?_|refine gTup rfl ?_))
        refine (lower_w hname).mono fun v s3 q => ?_
        obtain ⟨rfl, c3⟩ := q
        have h3 := h2.chg c3 (by simp) (by simp)
        have b3 := c3.blk _ _ bl2 (by simp) b2
        have m3 := c3.blk _ _ ml2 (by simp) m2
        have bl3 := Nat.lt_of_lt_of_le bl2 c3.next
        have c13 : Chg s s3 [] := c12.nil c3
        (repeat(first|refine pSeq ?_|refine pReg ?_|refine sRaw ?_|refine sCons ?_|refine sNil ?_|refine pSkip ?_|refine pRet ?_|refine pCond ?_|refine gNone ?_|refine gOn rfl ?_|refine gOff rfl rfl ?_|refine gTup rfl ?_))
        by_cases hs : name.map lowB = sizeL
        · rw [hs]
          refine lookup_val (d := .string) (v := .func (.func n_path_Params_known_1) #[] #[.pointer (some ⟨pc, 0, none⟩)]) rfl um_kn un_S rfl rfl trivial m3 (kn_keys _ _) ⟨_, List.mem_cons_self .., rfl⟩ (kn_size _ _) ?_
          (repeat(first|refine pSeq ?_|refine pReg ?_|refine sRaw ?_|refine sCons ?_|refine sNil ?_|refine pSkip ?_|refine pRet ?_|refine pCond ?_|refine gNone ?_|refine gOn rfl ?_|refine gOff rfl rfl ?_|refine gTup rfl ?_))
          intro q hq
          obtain rfl : q = false := hq
          (repeat(first|refine pSeq ?_|refine pReg ?_|refine sRaw ?_|refine sCons ?_|refine sNil ?_|refine pSkip ?_|refine pRet ?_|refine pCond ?_|refine gNone ?_|refine gOn rfl ?_|refine gOff rfl rfl ?_|refine gTup rfl ?_))
          intro q hq
          obtain rfl : q = false := hq
          (repeat(first|refine pSeq ?_|refine pReg ?_|refine sRaw ?_|refine sCons ?_|refine sNil ?_|refine pSkip ?_|refine pRet ?_|refine pCond ?_|refine gNone ?_|refine gOn rfl ?_|refine gOff rfl rfl ?_|refine gTup rfl ?_))
          refine ⟨.call n_path_Params_known_1 [str value, .pointer (some ⟨pc, 0, none⟩)], by kernel_rfl, ?_⟩
          refine (known1_w h3 hvalue).mono fun v s4 q => ?_
          obtain ⟨rfl, p4, c4⟩ := q
          have nb : pb ≠ bc := pm_ne h3.blk b3 (by decide)
          have b4 := c4.blk _ _ bl3 (by simpa using nb.symm) b3
          (repeat(first|refine pSeq ?_|refine pReg ?_|refine sRaw ?_|refine sCons ?_|refine sNil ?_|refine pSkip ?_|refine pRet ?_|refine pCond ?_|refine gNone ?_|refine gOn rfl ?_|refine gOff rfl rfl ?_|refine gTup rfl ?_))
          exact ⟨by show Value.int .i64 (sizeE p value) = _; rw [show sayE p k l = sizeE p value from by simp [sayE, formP, eN, eV, eH, hr, hv, hs]], by rw [show sayV p l = ⟨true, p.eight, (numberF value 9).1⟩ from by simp [sayV, formP, eN, eV, eH, hr, hv, hs]]; exact p4, by rw [show sayK k l = k from by simp [sayK, formP, eN, eV, eH, hr, hv, hs, sizeL, bodyL]]; exact b4, (c13.nil c4).sub (fun id q _ => by simp at q; simp [q])⟩
        by_cases hy : name.map lowB = bodyL
        · rw [hy]
          refine lookup_val (d := .string) (v := .func (.func n_path_Params_known_2) #[] #[.pointer (some ⟨bc, 0, none⟩), .pointer (some ⟨pc, 0, none⟩)]) rfl um_kn un_S rfl rfl trivial m3 (kn_keys _ _) ⟨_, List.mem_cons_of_mem _ (List.mem_cons_self ..), rfl⟩ (kn_body _ _) ?_
          (repeat(first|refine pSeq ?_|refine pReg ?_|refine sRaw ?_|refine sCons ?_|refine sNil ?_|refine pSkip ?_|refine pRet ?_|refine pCond ?_|refine gNone ?_|refine gOn rfl ?_|refine gOff rfl rfl ?_|refine gTup rfl ?_))
          intro q hq
          obtain rfl : q = false := hq
          (repeat(first|refine pSeq ?_|refine pReg ?_|refine sRaw ?_|refine sCons ?_|refine sNil ?_|refine pSkip ?_|refine pRet ?_|refine pCond ?_|refine gNone ?_|refine gOn rfl ?_|refine gOff rfl rfl ?_|refine gTup rfl ?_))
          intro q hq
          obtain rfl : q = false := hq
          (repeat(first|refine pSeq ?_|refine pReg ?_|refine sRaw ?_|refine sCons ?_|refine sNil ?_|refine pSkip ?_|refine pRet ?_|refine pCond ?_|refine gNone ?_|refine gOn rfl ?_|refine gOff rfl rfl ?_|refine gTup rfl ?_))
          refine ⟨.call n_path_Params_known_2 [str value, .pointer (some ⟨bc, 0, none⟩), .pointer (some ⟨pc, 0, none⟩)], by kernel_rfl, ?_⟩
          refine (known2_w h3 b3 bl3 (c13.fine hf) hk hvalue).mono fun v s4 q => ?_
          obtain ⟨rfl, p4, b4, c4⟩ := q
          (repeat(first|refine pSeq ?_|refine pReg ?_|refine sRaw ?_|refine sCons ?_|refine sNil ?_|refine pSkip ?_|refine pRet ?_|refine pCond ?_|refine gNone ?_|refine gOn rfl ?_|refine gOff rfl rfl ?_|refine gTup rfl ?_))
          exact ⟨by show Value.int .i64 (bodyE k value) = _; rw [show sayE p k l = bodyE k value from by simp [sayE, formP, eN, eV, eH, hr, hv, hy, show ¬ bodyL = sizeL from by decide]], by rw [show sayV p l = ⟨p.has, eightB value, p.size⟩ from by simp [sayV, formP, eN, eV, eH, hr, hv, hy, show ¬ bodyL = sizeL from by decide]]; exact p4, by rw [show sayK k l = k + 1 from by simp [sayK, formP, eN, eV, eH, hr, hv, hy, show ¬ bodyL = sizeL from by decide]]; exact b4, c13.nil c4⟩
        refine lookup_out (d := .string) (z := .nilFunc) rfl um_kn un_S rfl rfl trivial rfl m3 (kn_keys _ _) (kn_none _ _ hs hy) (fun w => rfl) ?_
        (repeat(first|refine pSeq ?_|refine pReg ?_|refine sRaw ?_|refine sCons ?_|refine sNil ?_|refine pSkip ?_|refine pRet ?_|refine pCond ?_|refine gNone ?_|refine gOn rfl ?_|refine gOff rfl rfl ?_|refine gTup rfl ?_))
        intro q hq
        obtain rfl : q = true := hq
        (repeat(first|refine pSeq ?_|refine pReg ?_|refine sRaw ?_|refine sCons ?_|refine sNil ?_|refine pSkip ?_|refine pRet ?_|refine pCond ?_|refine gNone ?_|refine gOn rfl ?_|refine gOff rfl rfl ?_|refine gTup rfl ?_))
        exact ⟨by show Value.int .i64 1 = _; rw [show sayE p k l = 1 from by simp [sayE, formP, eN, eV, eH, hr, hv, hs, hy]], by rw [show sayV p l = p from by simp [sayV, formP, eN, eV, eH, hr, hv, hs, hy]]; exact h3, by rw [show sayK k l = k from by simp [sayK, formP, eN, eV, eH, hr, hv, hs, hy]]; exact b3, c13.sub (by simp)⟩
end Go.Vf.S
