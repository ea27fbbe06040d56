import Derived.Test.YtgdkekacalmjoaaDoorTxA
/- A text, quoted. -/
namespace Go.Vf.S
open Go Go.Vf
attribute [local irreducible] wSeq wRow wp wG
set_option linter.unusedVariables false
set_option linter.unusedSimpArgs false
set_option maxRecDepth 10000

def needs (c : UInt8) : Bool := decide (c.toNat = 34 ∨ c.toNat = 92)
def escB (c : UInt8) : List UInt8 := if needs c then [92, c] else [c]
def quoteL (l : List UInt8) : List UInt8 := 34 :: l.flatMap escB ++ [34]
/-- What Quote tells. -/
def quoteF (l : List UInt8) : List UInt8 × Nat := if l.all plainB then (quoteL l, 0) else ([], 5)

theorem flat_next {l : List UInt8} {p : Nat} {c : UInt8} (h : l[p]? = some c) : (l.take (p + 1)).flatMap escB = (l.take p).flatMap escB ++ escB c := by
  rw [take_next h]; simp
theorem esc_len : ∀ l : List UInt8, l.length ≤ (l.flatMap escB).length ∧ (l.flatMap escB).length ≤ 2 * l.length
  | [] => by simp
  | c :: l => by
    have := esc_len l
    have : 1 ≤ (escB c).length ∧ (escB c).length ≤ 2 := by unfold escB; split <;> simp
    simp only [List.flatMap_cons, List.length_append, List.length_cons]
    omega
theorem take_esc {l : List UInt8} (p : Nat) : ((l.take p).flatMap escB).length ≤ 2 * l.length := by
  have := (esc_len (l.take p)).2
  rw [List.length_take] at this
  omega

/-- What stands behind so many bytes of a text. -/
def qO (l : List UInt8) (p : Nat) : List UInt8 := 34 :: (l.take p).flatMap escB
theorem qO_next {l : List UInt8} {p : Nat} {c : UInt8} (h : l[p]? = some c) : qO l (p + 1) = qO l p ++ escB c := by unfold qO; rw [flat_next h]; rfl
theorem qO_len {l : List UInt8} (p : Nat) : (qO l p).length ≤ 2 * l.length + 1 := Nat.succ_le_succ (take_esc p)
theorem qO_end {l : List UInt8} {p : Nat} (h : l.length ≤ p) : qO l p ++ [34] = quoteL l := by unfold qO quoteL; rw [List.take_of_length_le h]

structure QIt where
  p : Nat
  s : SS
  base : Option Addr
  cap : Nat

def QAt (s0 : SS) (id : Nat) (l : List UInt8) (out : List UInt8) (x : QIt) : Prop :=
  At s0 id l ⟨x.p, x.s⟩ ∧ Buf tB x.s x.base x.cap out ∧ ∀ i ∈ blkOf x.base, s0.next ≤ i ∧ i ≠ id

theorem quote_w {s : SS} {l : List UInt8} (hl : l.length ≤ 1000000) : CallW pr n_text_Quote [str l] s fun v s' => v = .tuple ⟨[str (quoteF l).1, .int .i64 (quoteF l).2]⟩ ∧ Chg s s' [] := by
  refine CallW.run good ok_text_Quote (by simp) rfl ?_
  (repeat(first|refine pSeq ?_|refine pReg ?_|refine sRaw ?_|refine sCons ?_|refine sNil ?_|refine pBlock ?_|refine pSkip ?_|refine pExit ?_|refine pRet ?_|refine pCond ?_|refine gNone ?_|refine gOn rfl ?_|refine gOff rfl rfl ?_|refine gTup rfl ?_))
  refine srange_W rfl un_S rfl ?_
  (repeat(first|refine pSeq ?_|refine pReg ?_|refine sRaw ?_|refine sCons ?_|refine sNil ?_|refine pBlock ?_|refine pSkip ?_|refine pExit ?_|refine pRet ?_|refine pCond ?_|refine gNone ?_|refine gOn rfl ?_|refine gOff rfl rfl ?_|refine gTup rfl ?_))
  refine pLoop (MW.head good (fun x : QIt => l.length - x.p) (fun x => (l.take x.p).all plainB = true ∧ QAt s (s.next + 1) l (qO l x.p) x)
    (fun x => [(4, .slice x.base (qO l x.p).length x.cap), (9, .pointer (some ⟨s.next + 1, 0, none⟩))]) (fun x => x.s) ⟨0, _, _, _⟩ ⟨rfl, ⟨(Chg.new _).nil (.new _), Nat.le_succ _, Nat.lt_succ_self _, lkH⟩, .inr ⟨rfl, s.next, false, rfl, ?_, lkT (show s.next + 1 ≠ s.next by omega) lkH⟩, ?_⟩ (Wk.same ⟨rfl, rfl, trivial⟩) ?_)
  · show s.next < s.next + 1 + 1
    omega
  · intro i hi
    simp only [blkOf, List.mem_singleton] at hi
    omega
  intro ⟨p, s1, base, cap⟩ ⟨h0, h1, h2, h3⟩
  dsimp only at h0 h1 h2 h3 ⊢
  have hle := qO_len (l := l) p
  generalize hqo : qO l p = out at hle h2 ⊢
  (repeat(first|refine pSeq ?_|refine pReg ?_|refine sRaw ?_|refine sCons ?_|refine sNil ?_|refine pBlock ?_|refine pSkip ?_|refine pExit ?_|refine pRet ?_|refine pCond ?_|refine gNone ?_|refine gOn rfl ?_|refine gOff rfl rfl ?_|refine gTup rfl ?_))
  refine snext_L rfl rfl h1.2.2.2 (fun he => ?_) (fun c hc h7 => ?_) (fun c r w hc h7 hr hr2 _ hw _ => ?_)
  · (repeat(first|refine pSeq ?_|refine pReg ?_|refine sRaw ?_|refine sCons ?_|refine sNil ?_|refine pBlock ?_|refine pSkip ?_|refine pExit ?_|refine pRet ?_|refine pCond ?_|refine gNone ?_|refine gOn rfl ?_|refine gOff rfl rfl ?_|refine gTup rfl ?_))
    refine app_lit (d := 34) h2 rfl rfl rfl rfl (by omega) fun s2 o2 c2 n2 => ?_
    (repeat(first|refine pSeq ?_|refine pReg ?_|refine sRaw ?_|refine sCons ?_|refine sNil ?_|refine pBlock ?_|refine pSkip ?_|refine pExit ?_|refine pRet ?_|refine pCond ?_|refine gNone ?_|refine gOn rfl ?_|refine gOff rfl rfl ?_|refine gTup rfl ?_))
    refine toStr_Rdb rfl (by have := o2.rdb; rw [List.length_append] at this; exact this) ?_
    (repeat(first|refine pSeq ?_|refine pReg ?_|refine sRaw ?_|refine sCons ?_|refine sNil ?_|refine pBlock ?_|refine pSkip ?_|refine pExit ?_|refine pRet ?_|refine pCond ?_|refine gNone ?_|refine gOn rfl ?_|refine gOff rfl rfl ?_|refine gTup rfl ?_))
    have e : quoteF l = (out ++ [34], 0) := by
      unfold quoteF
      rw [← hqo, qO_end he]
      rw [List.take_of_length_le he] at h0
      rw [h0]; rfl
    rw [e]
    exact ⟨rfl, h1.1.fresh c2 fun i hi => (h3 i hi).1⟩
  · (repeat(first|refine pSeq ?_|refine pReg ?_|refine sRaw ?_|refine sCons ?_|refine sNil ?_|refine pBlock ?_|refine pSkip ?_|refine pExit ?_|refine pRet ?_|refine pCond ?_|refine gNone ?_|refine gOn rfl ?_|refine gOff rfl rfl ?_|refine gTup rfl ?_))
    refine (plain_w (by omega)).mono fun v s2 q => ?_
    obtain ⟨rfl, rfl⟩ := q
    (repeat(first|refine pSeq ?_|refine pReg ?_|refine sRaw ?_|refine sCons ?_|refine sNil ?_|refine pBlock ?_|refine pSkip ?_|refine pExit ?_|refine pRet ?_|refine pCond ?_|refine gNone ?_|refine gOn rfl ?_|refine gOff rfl rfl ?_|refine gTup rfl ?_))
    intro q hq
    have e : decide (32 ≤ c.toNat ∧ c.toNat ≤ 126) = plainB c := rfl
    rw [e] at hq
    have off : ∀ i ∈ blkOf base, i ∉ [s.next + 1] := fun i hi q => (h3 i hi).2 (List.mem_singleton.1 q)
    by_cases hp : plainB c = true
    · obtain rfl : q = false := by rw [hq, hp]; rfl
      (repeat(first|refine pSeq ?_|refine pReg ?_|refine sRaw ?_|refine sCons ?_|refine sNil ?_|refine pBlock ?_|refine pSkip ?_|refine pExit ?_|refine pRet ?_|refine pCond ?_|refine gNone ?_|refine gOn rfl ?_|refine gOff rfl rfl ?_|refine gTup rfl ?_))
      intro q1 hq1
      by_cases h34 : c.toNat = 34
      · obtain rfl : q1 = true := by rw [hq1]; simp; omega
        have hn : needs c = true := by simp [needs, h34]
        (repeat(first|refine pSeq ?_|refine pReg ?_|refine sRaw ?_|refine sCons ?_|refine sNil ?_|refine pBlock ?_|refine pSkip ?_|refine pExit ?_|refine pRet ?_|refine pCond ?_|refine gNone ?_|refine gOn rfl ?_|refine gOff rfl rfl ?_|refine gTup rfl ?_))
        refine app_lit (d := 92) (h2.chg (Chg.turn h1.2.2.1) off) rfl rfl rfl rfl (by omega) fun s2 o2 c2 n2 => ?_
        (repeat(first|refine pSeq ?_|refine pReg ?_|refine sRaw ?_|refine sCons ?_|refine sNil ?_|refine pBlock ?_|refine pSkip ?_|refine pExit ?_|refine pRet ?_|refine pCond ?_|refine gNone ?_|refine gOn rfl ?_|refine gOff rfl rfl ?_|refine gTup rfl ?_))
        intro z hz
        rw [byte_id] at hz
        (repeat(first|refine pSeq ?_|refine pReg ?_|refine sRaw ?_|refine sCons ?_|refine sNil ?_|refine pBlock ?_|refine pSkip ?_|refine pExit ?_|refine pRet ?_|refine pCond ?_|refine gNone ?_|refine gOn rfl ?_|refine gOff rfl rfl ?_|refine gTup rfl ?_))
        refine app_lit (d := c) o2.buf (by simp) rfl rfl hz (by omega) fun s3 o3 c3 n3 => ?_
        (repeat(first|refine pSeq ?_|refine pReg ?_|refine sRaw ?_|refine sCons ?_|refine sNil ?_|refine pBlock ?_|refine pSkip ?_|refine pExit ?_|refine pRet ?_|refine pCond ?_|refine gNone ?_|refine gOn rfl ?_|refine gOff rfl rfl ?_|refine gTup rfl ?_))
        have a2 : At s (s.next + 1) l ⟨p + 1, s2⟩ := (h1.go (p + 1)).chg c2 h3
        have a3 : At s (s.next + 1) l ⟨p + 1, s3⟩ := a2.chg c3 fun i hi => by
          simp only [blkOf, List.mem_singleton] at hi
          have := h1.1.next
          have := h1.2.2.1
          dsimp only at *
          omega
        have eo : qO l (p + 1) = out ++ [92] ++ [c] := by rw [qO_next hc, hqo, escB, if_pos hn]; simp
        refine ⟨⟨p + 1, s3, _, 0⟩, ⟨by rw [take_next hc]; simp [h0, hp], a3, by rw [eo]; exact o3.buf, fun i hi => ?_⟩, by have : p < l.length := lt_of_get hc; show l.length - (p + 1) < l.length - p; omega, Wk.same ⟨?_, rfl, trivial⟩⟩
        · simp only [blkOf, List.mem_singleton] at hi
          have := h1.1.next
          have := h1.2.2.1
          dsimp only at *
          omega
        · show look _ 4 = _
          rw [eo, List.length_append, List.length_append]
          rfl
      · obtain rfl : q1 = false := by rw [hq1]; simp; omega
        (repeat(first|refine pSeq ?_|refine pReg ?_|refine sRaw ?_|refine sCons ?_|refine sNil ?_|refine pBlock ?_|refine pSkip ?_|refine pExit ?_|refine pRet ?_|refine pCond ?_|refine gNone ?_|refine gOn rfl ?_|refine gOff rfl rfl ?_|refine gTup rfl ?_))
        intro q2 hq2
        by_cases h92 : c.toNat = 92
        · obtain rfl : q2 = true := by rw [hq2]; simp; omega
          have hn : needs c = true := by simp [needs, h92]
          (repeat(first|refine pSeq ?_|refine pReg ?_|refine sRaw ?_|refine sCons ?_|refine sNil ?_|refine pBlock ?_|refine pSkip ?_|refine pExit ?_|refine pRet ?_|refine pCond ?_|refine gNone ?_|refine gOn rfl ?_|refine gOff rfl rfl ?_|refine gTup rfl ?_))
          refine app_lit (d := 92) (h2.chg (Chg.turn h1.2.2.1) off) rfl rfl rfl rfl (by omega) fun s2 o2 c2 n2 => ?_
          (repeat(first|refine pSeq ?_|refine pReg ?_|refine sRaw ?_|refine sCons ?_|refine sNil ?_|refine pBlock ?_|refine pSkip ?_|refine pExit ?_|refine pRet ?_|refine pCond ?_|refine gNone ?_|refine gOn rfl ?_|refine gOff rfl rfl ?_|refine gTup rfl ?_))
          intro z hz
          rw [byte_id] at hz
          (repeat(first|refine pSeq ?_|refine pReg ?_|refine sRaw ?_|refine sCons ?_|refine sNil ?_|refine pBlock ?_|refine pSkip ?_|refine pExit ?_|refine pRet ?_|refine pCond ?_|refine gNone ?_|refine gOn rfl ?_|refine gOff rfl rfl ?_|refine gTup rfl ?_))
          refine app_lit (d := c) o2.buf (by simp) rfl rfl hz (by omega) fun s3 o3 c3 n3 => ?_
          (repeat(first|refine pSeq ?_|refine pReg ?_|refine sRaw ?_|refine sCons ?_|refine sNil ?_|refine pBlock ?_|refine pSkip ?_|refine pExit ?_|refine pRet ?_|refine pCond ?_|refine gNone ?_|refine gOn rfl ?_|refine gOff rfl rfl ?_|refine gTup rfl ?_))
          have a2 : At s (s.next + 1) l ⟨p + 1, s2⟩ := (h1.go (p + 1)).chg c2 h3
          have a3 : At s (s.next + 1) l ⟨p + 1, s3⟩ := a2.chg c3 fun i hi => by
            simp only [blkOf, List.mem_singleton] at hi
            have := h1.1.next
            have := h1.2.2.1
            dsimp only at *
            omega
          have eo : qO l (p + 1) = out ++ [92] ++ [c] := by rw [qO_next hc, hqo, escB, if_pos hn]; simp
          refine ⟨⟨p + 1, s3, _, 0⟩, ⟨by rw [take_next hc]; simp [h0, hp], a3, by rw [eo]; exact o3.buf, fun i hi => ?_⟩, by have : p < l.length := lt_of_get hc; show l.length - (p + 1) < l.length - p; omega, Wk.same ⟨?_, rfl, trivial⟩⟩
          · simp only [blkOf, List.mem_singleton] at hi
            have := h1.1.next
            have := h1.2.2.1
            dsimp only at *
            omega
          · show look _ 4 = _
            rw [eo, List.length_append, List.length_append]
            rfl
        · obtain rfl : q2 = false := by rw [hq2]; simp; omega
          have hn : needs c = false := by simp [needs, h34, h92]
          (repeat(first|refine pSeq ?_|refine pReg ?_|refine sRaw ?_|refine sCons ?_|refine sNil ?_|refine pBlock ?_|refine pSkip ?_|refine pExit ?_|refine pRet ?_|refine pCond ?_|refine gNone ?_|refine gOn rfl ?_|refine gOff rfl rfl ?_|refine gTup rfl ?_))
          intro z hz
          rw [byte_id] at hz
          (repeat(first|refine pSeq ?_|refine pReg ?_|refine sRaw ?_|refine sCons ?_|refine sNil ?_|refine pBlock ?_|refine pSkip ?_|refine pExit ?_|refine pRet ?_|refine pCond ?_|refine gNone ?_|refine gOn rfl ?_|refine gOff rfl rfl ?_|refine gTup rfl ?_))
          refine app_lit (d := c) (h2.chg (Chg.turn h1.2.2.1) off) rfl rfl rfl hz (by omega) fun s2 o2 c2 n2 => ?_
          (repeat(first|refine pSeq ?_|refine pReg ?_|refine sRaw ?_|refine sCons ?_|refine sNil ?_|refine pBlock ?_|refine pSkip ?_|refine pExit ?_|refine pRet ?_|refine pCond ?_|refine gNone ?_|refine gOn rfl ?_|refine gOff rfl rfl ?_|refine gTup rfl ?_))
          have a2 : At s (s.next + 1) l ⟨p + 1, s2⟩ := (h1.go (p + 1)).chg c2 h3
          have eo : qO l (p + 1) = out ++ [c] := by rw [qO_next hc, hqo, escB, if_neg (by simp [hn])]
          refine ⟨⟨p + 1, s2, _, 0⟩, ⟨by rw [take_next hc]; simp [h0, hp], a2, by rw [eo]; exact o2.buf, fun i hi => ?_⟩, by have : p < l.length := lt_of_get hc; show l.length - (p + 1) < l.length - p; omega, Wk.same ⟨?_, rfl, trivial⟩⟩
          · simp only [blkOf, List.mem_singleton] at hi
            have := h1.1.next
            have := h1.2.2.1
            dsimp only at *
            omega
          · show look _ 4 = _
            rw [eo, List.length_append]
            rfl
    · obtain rfl : q = true := by rw [hq, plain_no hp]; rfl
      (repeat(first|refine pSeq ?_|refine pReg ?_|refine sRaw ?_|refine sCons ?_|refine sNil ?_|refine pBlock ?_|refine pSkip ?_|refine pExit ?_|refine pRet ?_|refine pCond ?_|refine gNone ?_|refine gOn rfl ?_|refine gOff rfl rfl ?_|refine gTup rfl ?_))
      have e : quoteF l = ([], 5) := by unfold quoteF; rw [all_no hc (plain_no hp)]; rfl
      rw [e]
      exact ⟨rfl, (h1.go _).1⟩
  · (repeat(first|refine pSeq ?_|refine pReg ?_|refine sRaw ?_|refine sCons ?_|refine sNil ?_|refine pBlock ?_|refine pSkip ?_|refine pExit ?_|refine pRet ?_|refine pCond ?_|refine gNone ?_|refine gOn rfl ?_|refine gOff rfl rfl ?_|refine gTup rfl ?_))
    refine (plain_w (by omega)).mono fun v s2 q => ?_
    obtain ⟨rfl, rfl⟩ := q
    (repeat(first|refine pSeq ?_|refine pReg ?_|refine sRaw ?_|refine sCons ?_|refine sNil ?_|refine pBlock ?_|refine pSkip ?_|refine pExit ?_|refine pRet ?_|refine pCond ?_|refine gNone ?_|refine gOn rfl ?_|refine gOff rfl rfl ?_|refine gTup rfl ?_))
    intro q hq
    obtain rfl : q = true := by rw [hq]; simp; omega
    (repeat(first|refine pSeq ?_|refine pReg ?_|refine sRaw ?_|refine sCons ?_|refine sNil ?_|refine pBlock ?_|refine pSkip ?_|refine pExit ?_|refine pRet ?_|refine pCond ?_|refine gNone ?_|refine gOn rfl ?_|refine gOff rfl rfl ?_|refine gTup rfl ?_))
    have e : quoteF l = ([], 5) := by unfold quoteF; rw [all_no hc (plain_hi h7)]; rfl
    rw [e]
    exact ⟨rfl, (h1.go _).1⟩

theorem rquote_w {s : SS} {l : List UInt8} (hl : l.length ≤ 1000000) : CallW pr n_ref04_Quote [str l] s fun v s' => v = .tuple ⟨[str (quoteF l).1, .int .i64 (quoteF l).2]⟩ ∧ s' = s := by
  refine CallW.run good ok_ref04_Quote (by simp) rfl ?_
  (repeat(first|refine pSeq ?_|refine pReg ?_|refine sCons ?_|refine sNil ?_|refine pBlock ?_|refine pSkip ?_|refine pExit ?_|refine pRet ?_|refine pCond ?_|refine gNone ?_|refine gOn rfl ?_|refine gOff rfl rfl ?_|refine gTup rfl ?_))
  refine (rPlain_w hl).mono fun v s q => ?_
  obtain ⟨rfl, rfl⟩ := q
  (repeat(first|refine pSeq ?_|refine pReg ?_|refine sCons ?_|refine sNil ?_|refine pBlock ?_|refine pSkip ?_|refine pExit ?_|refine pRet ?_|refine pCond ?_|refine gNone ?_|refine gOn rfl ?_|refine gOff rfl rfl ?_|refine gTup rfl ?_))
  intro q hq
  by_cases hp : l.all plainB = true
  · obtain rfl : q = false := by rw [hq, hp]; rfl
    (repeat(first|refine pSeq ?_|refine pReg ?_|refine sCons ?_|refine sNil ?_|refine pBlock ?_|refine pSkip ?_|refine pExit ?_|refine pRet ?_|refine pCond ?_|refine gNone ?_|refine gOn rfl ?_|refine gOff rfl rfl ?_|refine gTup rfl ?_))
    refine pLoop (MW.head good (fun i : Nat => l.length - i) (fun i => i ≤ l.length) (fun i => [(0, str l), (4, str (qO l i)), (5, .int .i64 i)]) (fun i => s) 0 (Nat.zero_le _) (Wk.same ⟨rfl, rfl, rfl, trivial⟩) ?_)
    intro i h1
    have hle := qO_len (l := l) i
    (repeat(first|refine pSeq ?_|refine pReg ?_|refine sCons ?_|refine sNil ?_|refine pBlock ?_|refine pSkip ?_|refine pExit ?_|refine pRet ?_|refine pCond ?_|refine gNone ?_|refine gOn rfl ?_|refine gOff rfl rfl ?_|refine gTup rfl ?_))
    intro n hn
    (repeat(first|refine pSeq ?_|refine pReg ?_|refine sCons ?_|refine sNil ?_|refine pBlock ?_|refine pSkip ?_|refine pExit ?_|refine pRet ?_|refine pCond ?_|refine gNone ?_|refine gOn rfl ?_|refine gOff rfl rfl ?_|refine gTup rfl ?_))
    intro q hq
    by_cases hlt : i < l.length
    · obtain rfl : q = true := by rw [hq]; simp <;> omega
      obtain ⟨c, hc⟩ : ∃ c, l[i]? = some c := ⟨_, List.getElem?_eq_getElem hlt⟩
      have key : (l.drop i).take 1 = [c] := by rw [drop_next hc]; rfl
      (repeat(first|refine pSeq ?_|refine pReg ?_|refine sCons ?_|refine sNil ?_|refine pBlock ?_|refine pSkip ?_|refine pExit ?_|refine pRet ?_|refine pCond ?_|refine gNone ?_|refine gOn rfl ?_|refine gOff rfl rfl ?_|refine gTup rfl ?_))
      refine ⟨by omega, ?_⟩
      intro m hm
      obtain rfl : m = i := by omega
      refine ⟨c, hc, ?_⟩
      (repeat(first|refine pSeq ?_|refine pReg ?_|refine sCons ?_|refine sNil ?_|refine pBlock ?_|refine pSkip ?_|refine pExit ?_|refine pRet ?_|refine pCond ?_|refine gNone ?_|refine gOn rfl ?_|refine gOff rfl rfl ?_|refine gTup rfl ?_))
      intro q hq
      by_cases h34 : c.toNat = 34
      · obtain rfl : q = true := by rw [hq]; simp <;> omega
        have eo : qO l (m + 1) = qO l m ++ [92] ++ [c] := by rw [qO_next hc, escB, if_pos (by simp [needs, h34])]; simp
        (repeat(first|refine pSeq ?_|refine pReg ?_|refine sCons ?_|refine sNil ?_|refine pBlock ?_|refine pSkip ?_|refine pExit ?_|refine pRet ?_|refine pCond ?_|refine gNone ?_|refine gOn rfl ?_|refine gOff rfl rfl ?_|refine gTup rfl ?_))
        refine ⟨by simp; omega, ?_⟩
        intro z hz
        (repeat(first|refine pSeq ?_|refine pReg ?_|refine sCons ?_|refine sNil ?_|refine pBlock ?_|refine pSkip ?_|refine pExit ?_|refine pRet ?_|refine pCond ?_|refine gNone ?_|refine gOn rfl ?_|refine gOff rfl rfl ?_|refine gTup rfl ?_))
        intro z1 hz1
        rw [i64_id (by omega)] at hz1
        (repeat(first|refine pSeq ?_|refine pReg ?_|refine sCons ?_|refine sNil ?_|refine pBlock ?_|refine pSkip ?_|refine pExit ?_|refine pRet ?_|refine pCond ?_|refine gNone ?_|refine gOn rfl ?_|refine gOff rfl rfl ?_|refine gTup rfl ?_))
        refine ⟨by omega, ?_⟩
        intro m1 hm1
        refine ⟨by omega, ?_⟩
        intro m2 hm2 r hr
        obtain rfl : m2 = m := by omega
        obtain rfl : m1 = m2 + 1 := by omega
        rw [Nat.add_sub_cancel_left, key] at hr
        subst hr
        (repeat(first|refine pSeq ?_|refine pReg ?_|refine sCons ?_|refine sNil ?_|refine pBlock ?_|refine pSkip ?_|refine pExit ?_|refine pRet ?_|refine pCond ?_|refine gNone ?_|refine gOn rfl ?_|refine gOff rfl rfl ?_|refine gTup rfl ?_))
        refine ⟨by rw [hz]; simp; omega, ?_⟩
        intro z3 hz3
        (repeat(first|refine pSeq ?_|refine pReg ?_|refine sCons ?_|refine sNil ?_|refine pBlock ?_|refine pSkip ?_|refine pExit ?_|refine pRet ?_|refine pCond ?_|refine gNone ?_|refine gOn rfl ?_|refine gOff rfl rfl ?_|refine gTup rfl ?_))
        intro z4 hz4
        rw [i64_id (by omega)] at hz4
        obtain rfl : z4 = ((m2 + 1 : Nat) : Int) := by omega
        (repeat(first|refine pSeq ?_|refine pReg ?_|refine sCons ?_|refine sNil ?_|refine pBlock ?_|refine pSkip ?_|refine pExit ?_|refine pRet ?_|refine pCond ?_|refine gNone ?_|refine gOn rfl ?_|refine gOff rfl rfl ?_|refine gTup rfl ?_))
        refine ⟨m2 + 1, hlt, by show l.length - (m2 + 1) < l.length - m2; omega, Wk.same ⟨rfl, ?_, rfl, trivial⟩⟩
        show look _ 4 = _
        rw [eo, hz3, hz]
        rfl
      · obtain rfl : q = false := by rw [hq]; simp <;> omega
        (repeat(first|refine pSeq ?_|refine pReg ?_|refine sCons ?_|refine sNil ?_|refine pBlock ?_|refine pSkip ?_|refine pExit ?_|refine pRet ?_|refine pCond ?_|refine gNone ?_|refine gOn rfl ?_|refine gOff rfl rfl ?_|refine gTup rfl ?_))
        refine ⟨by omega, ?_⟩
        intro m9 hm9
        obtain rfl : m9 = m := by omega
        refine ⟨c, hc, ?_⟩
        (repeat(first|refine pSeq ?_|refine pReg ?_|refine sCons ?_|refine sNil ?_|refine pBlock ?_|refine pSkip ?_|refine pExit ?_|refine pRet ?_|refine pCond ?_|refine gNone ?_|refine gOn rfl ?_|refine gOff rfl rfl ?_|refine gTup rfl ?_))
        intro q hq
        by_cases h92 : c.toNat = 92
        · obtain rfl : q = true := by rw [hq]; simp <;> omega
          have eo : qO l (m9 + 1) = qO l m9 ++ [92] ++ [c] := by rw [qO_next hc, escB, if_pos (by simp [needs, h92])]; simp
          (repeat(first|refine pSeq ?_|refine pReg ?_|refine sCons ?_|refine sNil ?_|refine pBlock ?_|refine pSkip ?_|refine pExit ?_|refine pRet ?_|refine pCond ?_|refine gNone ?_|refine gOn rfl ?_|refine gOff rfl rfl ?_|refine gTup rfl ?_))
          refine ⟨by simp; omega, ?_⟩
          intro z hz
          (repeat(first|refine pSeq ?_|refine pReg ?_|refine sCons ?_|refine sNil ?_|refine pBlock ?_|refine pSkip ?_|refine pExit ?_|refine pRet ?_|refine pCond ?_|refine gNone ?_|refine gOn rfl ?_|refine gOff rfl rfl ?_|refine gTup rfl ?_))
          intro z1 hz1
          rw [i64_id (by omega)] at hz1
          (repeat(first|refine pSeq ?_|refine pReg ?_|refine sCons ?_|refine sNil ?_|refine pBlock ?_|refine pSkip ?_|refine pExit ?_|refine pRet ?_|refine pCond ?_|refine gNone ?_|refine gOn rfl ?_|refine gOff rfl rfl ?_|refine gTup rfl ?_))
          refine ⟨by omega, ?_⟩
          intro m1 hm1
          refine ⟨by omega, ?_⟩
          intro m2 hm2 r hr
          obtain rfl : m2 = m9 := by omega
          obtain rfl : m1 = m2 + 1 := by omega
          rw [Nat.add_sub_cancel_left, key] at hr
          subst hr
          (repeat(first|refine pSeq ?_|refine pReg ?_|refine sCons ?_|refine sNil ?_|refine pBlock ?_|refine pSkip ?_|refine pExit ?_|refine pRet ?_|refine pCond ?_|refine gNone ?_|refine gOn rfl ?_|refine gOff rfl rfl ?_|refine gTup rfl ?_))
          refine ⟨by rw [hz]; simp; omega, ?_⟩
          intro z3 hz3
          (repeat(first|refine pSeq ?_|refine pReg ?_|refine sCons ?_|refine sNil ?_|refine pBlock ?_|refine pSkip ?_|refine pExit ?_|refine pRet ?_|refine pCond ?_|refine gNone ?_|refine gOn rfl ?_|refine gOff rfl rfl ?_|refine gTup rfl ?_))
          intro z4 hz4
          rw [i64_id (by omega)] at hz4
          obtain rfl : z4 = ((m2 + 1 : Nat) : Int) := by omega
          (repeat(first|refine pSeq ?_|refine pReg ?_|refine sCons ?_|refine sNil ?_|refine pBlock ?_|refine pSkip ?_|refine pExit ?_|refine pRet ?_|refine pCond ?_|refine gNone ?_|refine gOn rfl ?_|refine gOff rfl rfl ?_|refine gTup rfl ?_))
          refine ⟨m2 + 1, hlt, by show l.length - (m2 + 1) < l.length - m2; omega, Wk.same ⟨rfl, ?_, rfl, trivial⟩⟩
          show look _ 4 = _
          rw [eo, hz3, hz]
          rfl
        · obtain rfl : q = false := by rw [hq]; simp <;> omega
          have eo : qO l (m9 + 1) = qO l m9 ++ [c] := by rw [qO_next hc, escB, if_neg (by simp [needs, h34, h92])]
          (repeat(first|refine pSeq ?_|refine pReg ?_|refine sCons ?_|refine sNil ?_|refine pBlock ?_|refine pSkip ?_|refine pExit ?_|refine pRet ?_|refine pCond ?_|refine gNone ?_|refine gOn rfl ?_|refine gOff rfl rfl ?_|refine gTup rfl ?_))
          intro z1 hz1
          rw [i64_id (by omega)] at hz1
          (repeat(first|refine pSeq ?_|refine pReg ?_|refine sCons ?_|refine sNil ?_|refine pBlock ?_|refine pSkip ?_|refine pExit ?_|refine pRet ?_|refine pCond ?_|refine gNone ?_|refine gOn rfl ?_|refine gOff rfl rfl ?_|refine gTup rfl ?_))
          refine ⟨by omega, ?_⟩
          intro m1 hm1
          refine ⟨by omega, ?_⟩
          intro m2 hm2 r hr
          obtain rfl : m2 = m9 := by omega
          obtain rfl : m1 = m2 + 1 := by omega
          rw [Nat.add_sub_cancel_left, key] at hr
          subst hr
          (repeat(first|refine pSeq ?_|refine pReg ?_|refine sCons ?_|refine sNil ?_|refine pBlock ?_|refine pSkip ?_|refine pExit ?_|refine pRet ?_|refine pCond ?_|refine gNone ?_|refine gOn rfl ?_|refine gOff rfl rfl ?_|refine gTup rfl ?_))
          refine ⟨by simp; omega, ?_⟩
          intro z3 hz3
          (repeat(first|refine pSeq ?_|refine pReg ?_|refine sCons ?_|refine sNil ?_|refine pBlock ?_|refine pSkip ?_|refine pExit ?_|refine pRet ?_|refine pCond ?_|refine gNone ?_|refine gOn rfl ?_|refine gOff rfl rfl ?_|refine gTup rfl ?_))
          intro z4 hz4
          rw [i64_id (by omega)] at hz4
          obtain rfl : z4 = ((m2 + 1 : Nat) : Int) := by omega
          (repeat(first|refine pSeq ?_|refine pReg ?_|refine sCons ?_|refine sNil ?_|refine pBlock ?_|refine pSkip ?_|refine pExit ?_|refine pRet ?_|refine pCond ?_|refine gNone ?_|refine gOn rfl ?_|refine gOff rfl rfl ?_|refine gTup rfl ?_))
          refine ⟨m2 + 1, hlt, by show l.length - (m2 + 1) < l.length - m2; omega, Wk.same ⟨rfl, ?_, rfl, trivial⟩⟩
          show look _ 4 = _
          rw [eo, hz3]
          rfl
    · obtain rfl : q = false := by rw [hq]; simp <;> omega
      (repeat(first|refine pSeq ?_|refine pReg ?_|refine sCons ?_|refine sNil ?_|refine pBlock ?_|refine pSkip ?_|refine pExit ?_|refine pRet ?_|refine pCond ?_|refine gNone ?_|refine gOn rfl ?_|refine gOff rfl rfl ?_|refine gTup rfl ?_))
      refine ⟨by have := qO_len (l := l) i; simp; omega, ?_⟩
      intro z hz
      (repeat(first|refine pSeq ?_|refine pReg ?_|refine sCons ?_|refine sNil ?_|refine pBlock ?_|refine pSkip ?_|refine pExit ?_|refine pRet ?_|refine pCond ?_|refine gNone ?_|refine gOn rfl ?_|refine gOff rfl rfl ?_|refine gTup rfl ?_))
      have e : quoteF l = (quoteL l, 0) := by unfold quoteF; rw [hp]; rfl
      rw [e, ← qO_end (p := i) (by omega), hz]
      exact ⟨rfl, rfl⟩
  · obtain rfl : q = true := by rw [hq, Bool.eq_false_iff.2 hp]; rfl
    (repeat(first|refine pSeq ?_|refine pReg ?_|refine sCons ?_|refine sNil ?_|refine pBlock ?_|refine pSkip ?_|refine pExit ?_|refine pRet ?_|refine pCond ?_|refine gNone ?_|refine gOn rfl ?_|refine gOff rfl rfl ?_|refine gTup rfl ?_))
    have e : quoteF l = ([], 5) := by unfold quoteF; rw [Bool.eq_false_iff.2 hp]; rfl
    rw [e]
    exact ⟨rfl, rfl⟩
end Go.Vf.S
