import Derived.Test.YtgdkekacalmjoaaDoorTxB
/- What a quoted string at the front stands for. -/
namespace Go.Vf.S
open Go Go.Vf
attribute [local irreducible] wSeq wRow wp wG
set_option linter.unusedVariables false
set_option linter.unusedSimpArgs false
set_option maxRecDepth 10000

/-- Behind the first quote, byte by byte. -/
def qd : List UInt8 → Bool → List UInt8 → Nat → List UInt8 × Nat × Nat
  | [], _, _, _ => ([], 0, 4)
  | c :: r, e, o, i => if plainB c = true then
      (if e = false ∧ c.toNat = 34 then (o, i + 2, 0) else if e = false ∧ c.toNat = 92 then qd r true o (i + 1) else qd r false (o ++ [c]) (i + 1))
    else ([], 0, 5)
def quotedF (l : List UInt8) : List UInt8 × Nat × Nat := if l.take 1 = [34] then qd (l.drop 1) false [] 0 else ([], 0, 5)
abbrev qRes (q : List UInt8 × Nat × Nat) : Value := .tuple ⟨[str q.1, .int .i64 q.2.1, .int .i64 q.2.2]⟩

structure RIt where
  p : Nat
  s : SS
  base : Option Addr
  out : List UInt8
  e : Bool

theorem quoted_w {s : SS} {l : List UInt8} (hl : l.length ≤ 1000000) : CallW pr n_text_Quoted [str l] s fun v s' => v = qRes (quotedF l) ∧ Chg s s' [] := by
  refine CallW.run good ok_text_Quoted (by simp) rfl ?_
  (repeat(first|refine pSeq ?_|refine pReg ?_|refine sRaw ?_|refine sCons ?_|refine sNil ?_|refine pBlock ?_|refine pSkip ?_|refine pExit ?_|refine pRet ?_|refine pCond ?_|refine gNone ?_|refine gOn rfl ?_|refine gOff rfl rfl ?_|refine gTup rfl ?_))
  refine prefix_w.mono fun v s q => ?_
  obtain ⟨rfl, rfl⟩ := q
  (repeat(first|refine pSeq ?_|refine pReg ?_|refine sRaw ?_|refine sCons ?_|refine sNil ?_|refine pBlock ?_|refine pSkip ?_|refine pExit ?_|refine pRet ?_|refine pCond ?_|refine gNone ?_|refine gOn rfl ?_|refine gOff rfl rfl ?_|refine gTup rfl ?_))
  intro q hq
  by_cases hfr : l.take 1 = [34]
  · have eF : quotedF l = qd (l.drop 1) false [] 0 := by unfold quotedF; rw [if_pos hfr]
    obtain rfl : q = false := by rw [hq]; simp [hfr]
    have h1l : 1 ≤ l.length := by
      have := congrArg List.length hfr
      simp at this
      omega
    (repeat(first|refine pSeq ?_|refine pReg ?_|refine sRaw ?_|refine sCons ?_|refine sNil ?_|refine pBlock ?_|refine pSkip ?_|refine pExit ?_|refine pRet ?_|refine pCond ?_|refine gNone ?_|refine gOn rfl ?_|refine gOff rfl rfl ?_|refine gTup rfl ?_))
    refine ⟨by omega, ?_⟩
    intro m hm r hr
    obtain rfl : m = 1 := by omega
    have hrl : r.length ≤ 1000000 := by rw [hr]; simp; omega
    have er : r = l.drop 1 := by rw [hr, List.take_of_length_le (by simp)]
    rw [← er] at eF
    clear hr hfr
    (repeat(first|refine pSeq ?_|refine pReg ?_|refine sRaw ?_|refine sCons ?_|refine sNil ?_|refine pBlock ?_|refine pSkip ?_|refine pExit ?_|refine pRet ?_|refine pCond ?_|refine gNone ?_|refine gOn rfl ?_|refine gOff rfl rfl ?_|refine gTup rfl ?_))
    refine srange_W rfl un_S rfl ?_
    (repeat(first|refine pSeq ?_|refine pReg ?_|refine sRaw ?_|refine sCons ?_|refine sNil ?_|refine pBlock ?_|refine pSkip ?_|refine pExit ?_|refine pRet ?_|refine pCond ?_|refine gNone ?_|refine gOn rfl ?_|refine gOff rfl rfl ?_|refine gTup rfl ?_))
    refine pLoop (MW.head good (fun x : RIt => r.length - x.p) (fun x => qd (r.drop x.p) x.e x.out x.p = quotedF l ∧ x.p ≤ r.length ∧ x.out.length ≤ x.p ∧ At s s.next r ⟨x.p, x.s⟩ ∧ Own tB x.s x.base x.out ∧ ∀ i ∈ blkOf x.base, s.next ≤ i ∧ i ≠ s.next)
      (fun x => [(5, .slice x.base x.out.length 0), (6, .bool x.e), (14, .pointer (some ⟨s.next, 0, none⟩))]) (fun x => x.s) ⟨0, _, none, [], false⟩ ⟨eF.symm, Nat.zero_le _, Nat.zero_le _, .start s r, rfl, by simp [blkOf]⟩ (Wk.same ⟨rfl, rfl, rfl, trivial⟩) ?_)
    intro ⟨p, s1, base, out, e⟩ ⟨h0, hp, ho, h1, h2, h3⟩
    dsimp only at h0 hp ho h1 h2 h3 ⊢
    (repeat(first|refine pSeq ?_|refine pReg ?_|refine sRaw ?_|refine sCons ?_|refine sNil ?_|refine pBlock ?_|refine pSkip ?_|refine pExit ?_|refine pRet ?_|refine pCond ?_|refine gNone ?_|refine gOn rfl ?_|refine gOff rfl rfl ?_|refine gTup rfl ?_))
    refine snext_L rfl rfl h1.2.2.2 (fun he => ?_) (fun c hc h7 => ?_) (fun c r w hc h7 hr hr2 _ hw _ => ?_)
    · (repeat(first|refine pSeq ?_|refine pReg ?_|refine sRaw ?_|refine sCons ?_|refine sNil ?_|refine pBlock ?_|refine pSkip ?_|refine pExit ?_|refine pRet ?_|refine pCond ?_|refine gNone ?_|refine gOn rfl ?_|refine gOff rfl rfl ?_|refine gTup rfl ?_))
      rw [← h0, List.drop_of_length_le he]
      exact ⟨rfl, h1.1⟩
    · have hlt : p < r.length := lt_of_get hc
      rw [drop_next (show r[p]? = some c from hc), qd] at h0
      (repeat(first|refine pSeq ?_|refine pReg ?_|refine sRaw ?_|refine sCons ?_|refine sNil ?_|refine pBlock ?_|refine pSkip ?_|refine pExit ?_|refine pRet ?_|refine pCond ?_|refine gNone ?_|refine gOn rfl ?_|refine gOff rfl rfl ?_|refine gTup rfl ?_))
      refine (plain_w (by omega)).mono fun v s2 q => ?_
      obtain ⟨rfl, rfl⟩ := q
      (repeat(first|refine pSeq ?_|refine pReg ?_|refine sRaw ?_|refine sCons ?_|refine sNil ?_|refine pBlock ?_|refine pSkip ?_|refine pExit ?_|refine pRet ?_|refine pCond ?_|refine gNone ?_|refine gOn rfl ?_|refine gOff rfl rfl ?_|refine gTup rfl ?_))
      intro q hq
      have e0 : decide (32 ≤ c.toNat ∧ c.toNat ≤ 126) = plainB c := rfl
      rw [e0] at hq
      have off : ∀ i ∈ blkOf base, i ∉ [s.next] := fun i hi q => (h3 i hi).2 (List.mem_singleton.1 q)
      by_cases hpl : plainB c = true
      · obtain rfl : q = false := by rw [hq, hpl]; rfl
        rw [if_pos hpl] at h0
        (repeat(first|refine pSeq ?_|refine pReg ?_|refine sRaw ?_|refine sCons ?_|refine sNil ?_|refine pBlock ?_|refine pSkip ?_|refine pExit ?_|refine pRet ?_|refine pCond ?_|refine gNone ?_|refine gOn rfl ?_|refine gOff rfl rfl ?_|refine gTup rfl ?_))
        intro q hq
        cases e with
        | false =>
          obtain rfl : q = true := by rw [hq]; simp <;> omega
          (repeat(first|refine pSeq ?_|refine pReg ?_|refine sRaw ?_|refine sCons ?_|refine sNil ?_|refine pBlock ?_|refine pSkip ?_|refine pExit ?_|refine pRet ?_|refine pCond ?_|refine gNone ?_|refine gOn rfl ?_|refine gOff rfl rfl ?_|refine gTup rfl ?_))
          intro q hq
          by_cases h34 : c.toNat = 34
          · obtain rfl : q = true := by rw [hq]; simp <;> omega
            rw [if_pos ⟨rfl, h34⟩] at h0
            (repeat(first|refine pSeq ?_|refine pReg ?_|refine sRaw ?_|refine sCons ?_|refine sNil ?_|refine pBlock ?_|refine pSkip ?_|refine pExit ?_|refine pRet ?_|refine pCond ?_|refine gNone ?_|refine gOn rfl ?_|refine gOff rfl rfl ?_|refine gTup rfl ?_))
            refine toStr_Rdb rfl (h2.chg (Chg.turn h1.2.2.1) off).rdb ?_
            (repeat(first|refine pSeq ?_|refine pReg ?_|refine sRaw ?_|refine sCons ?_|refine sNil ?_|refine pBlock ?_|refine pSkip ?_|refine pExit ?_|refine pRet ?_|refine pCond ?_|refine gNone ?_|refine gOn rfl ?_|refine gOff rfl rfl ?_|refine gTup rfl ?_))
            intro z hz
            dsimp only at hz
            rw [i64_id (by omega)] at hz
            (repeat(first|refine pSeq ?_|refine pReg ?_|refine sRaw ?_|refine sCons ?_|refine sNil ?_|refine pBlock ?_|refine pSkip ?_|refine pExit ?_|refine pRet ?_|refine pCond ?_|refine gNone ?_|refine gOn rfl ?_|refine gOff rfl rfl ?_|refine gTup rfl ?_))
            rw [← h0]
            refine ⟨?_, (h1.go _).1⟩
            rw [hz]
            rfl
          · obtain rfl : q = false := by rw [hq]; simp <;> omega
            rw [if_neg (fun q => h34 q.2)] at h0
            (repeat(first|refine pSeq ?_|refine pReg ?_|refine sRaw ?_|refine sCons ?_|refine sNil ?_|refine pBlock ?_|refine pSkip ?_|refine pExit ?_|refine pRet ?_|refine pCond ?_|refine gNone ?_|refine gOn rfl ?_|refine gOff rfl rfl ?_|refine gTup rfl ?_))
            intro q hq
            obtain rfl : q = true := by rw [hq]; simp <;> omega
            (repeat(first|refine pSeq ?_|refine pReg ?_|refine sRaw ?_|refine sCons ?_|refine sNil ?_|refine pBlock ?_|refine pSkip ?_|refine pExit ?_|refine pRet ?_|refine pCond ?_|refine gNone ?_|refine gOn rfl ?_|refine gOff rfl rfl ?_|refine gTup rfl ?_))
            intro q hq
            by_cases h92 : c.toNat = 92
            · obtain rfl : q = true := by rw [hq]; simp <;> omega
              rw [if_pos ⟨rfl, h92⟩] at h0
              (repeat(first|refine pSeq ?_|refine pReg ?_|refine sRaw ?_|refine sCons ?_|refine sNil ?_|refine pBlock ?_|refine pSkip ?_|refine pExit ?_|refine pRet ?_|refine pCond ?_|refine gNone ?_|refine gOn rfl ?_|refine gOff rfl rfl ?_|refine gTup rfl ?_))
              exact ⟨⟨p + 1, _, base, out, true⟩, ⟨h0, hlt, by show out.length ≤ p + 1; omega, h1.go _, h2.chg (Chg.turn h1.2.2.1) off, h3⟩, by show r.length - (p + 1) < r.length - p; omega, Wk.same ⟨rfl, rfl, rfl, trivial⟩⟩
            · obtain rfl : q = false := by rw [hq]; simp <;> omega
              rw [if_neg (fun q => h92 q.2)] at h0
              (repeat(first|refine pSeq ?_|refine pReg ?_|refine sRaw ?_|refine sCons ?_|refine sNil ?_|refine pBlock ?_|refine pSkip ?_|refine pExit ?_|refine pRet ?_|refine pCond ?_|refine gNone ?_|refine gOn rfl ?_|refine gOff rfl rfl ?_|refine gTup rfl ?_))
              intro z hz
              rw [byte_id] at hz
              (repeat(first|refine pSeq ?_|refine pReg ?_|refine sRaw ?_|refine sCons ?_|refine sNil ?_|refine pBlock ?_|refine pSkip ?_|refine pExit ?_|refine pRet ?_|refine pCond ?_|refine gNone ?_|refine gOn rfl ?_|refine gOff rfl rfl ?_|refine gTup rfl ?_))
              refine app_lit (d := c) (h2.chg (Chg.turn h1.2.2.1) off).buf rfl rfl rfl hz (by omega) fun s2 o2 c2 n2 => ?_
              (repeat(first|refine pSeq ?_|refine pReg ?_|refine sRaw ?_|refine sCons ?_|refine sNil ?_|refine pBlock ?_|refine pSkip ?_|refine pExit ?_|refine pRet ?_|refine pCond ?_|refine gNone ?_|refine gOn rfl ?_|refine gOff rfl rfl ?_|refine gTup rfl ?_))
              have a2 : At s s.next r ⟨p + 1, s2⟩ := (h1.go (p + 1)).chg c2 h3
              refine ⟨⟨p + 1, s2, _, out ++ [c], false⟩, ⟨h0, hlt, by simp; omega, a2, o2, fun i hi => ?_⟩, by show r.length - (p + 1) < r.length - p; omega, Wk.same ⟨?_, rfl, rfl, trivial⟩⟩
              · simp only [blkOf, List.mem_singleton] at hi
                have := h1.1.next
                have := h1.2.2.1
                dsimp only at *
                omega
              · show look _ 5 = _
                rw [List.length_append]
                rfl
        | true =>
          obtain rfl : q = false := by rw [hq]; simp <;> omega
          rw [if_neg (fun q => by cases q.1), if_neg (fun q => by cases q.1)] at h0
          (repeat(first|refine pSeq ?_|refine pReg ?_|refine sRaw ?_|refine sCons ?_|refine sNil ?_|refine pBlock ?_|refine pSkip ?_|refine pExit ?_|refine pRet ?_|refine pCond ?_|refine gNone ?_|refine gOn rfl ?_|refine gOff rfl rfl ?_|refine gTup rfl ?_))
          intro q hq
          obtain rfl : q = false := by rw [hq]; simp <;> omega
          (repeat(first|refine pSeq ?_|refine pReg ?_|refine sRaw ?_|refine sCons ?_|refine sNil ?_|refine pBlock ?_|refine pSkip ?_|refine pExit ?_|refine pRet ?_|refine pCond ?_|refine gNone ?_|refine gOn rfl ?_|refine gOff rfl rfl ?_|refine gTup rfl ?_))
          intro z hz
          rw [byte_id] at hz
          (repeat(first|refine pSeq ?_|refine pReg ?_|refine sRaw ?_|refine sCons ?_|refine sNil ?_|refine pBlock ?_|refine pSkip ?_|refine pExit ?_|refine pRet ?_|refine pCond ?_|refine gNone ?_|refine gOn rfl ?_|refine gOff rfl rfl ?_|refine gTup rfl ?_))
          refine app_lit (d := c) (h2.chg (Chg.turn h1.2.2.1) off).buf rfl rfl rfl hz (by omega) fun s2 o2 c2 n2 => ?_
          (repeat(first|refine pSeq ?_|refine pReg ?_|refine sRaw ?_|refine sCons ?_|refine sNil ?_|refine pBlock ?_|refine pSkip ?_|refine pExit ?_|refine pRet ?_|refine pCond ?_|refine gNone ?_|refine gOn rfl ?_|refine gOff rfl rfl ?_|refine gTup rfl ?_))
          have a2 : At s s.next r ⟨p + 1, s2⟩ := (h1.go (p + 1)).chg c2 h3
          refine ⟨⟨p + 1, s2, _, out ++ [c], false⟩, ⟨h0, hlt, by simp; omega, a2, o2, fun i hi => ?_⟩, by show r.length - (p + 1) < r.length - p; omega, Wk.same ⟨?_, rfl, rfl, trivial⟩⟩
          · simp only [blkOf, List.mem_singleton] at hi
            have := h1.1.next
            have := h1.2.2.1
            dsimp only at *
            omega
          · show look _ 5 = _
            rw [List.length_append]
            rfl
      · obtain rfl : q = true := by rw [hq, plain_no hpl]; rfl
        rw [if_neg hpl] at h0
        (repeat(first|refine pSeq ?_|refine pReg ?_|refine sRaw ?_|refine sCons ?_|refine sNil ?_|refine pBlock ?_|refine pSkip ?_|refine pExit ?_|refine pRet ?_|refine pCond ?_|refine gNone ?_|refine gOn rfl ?_|refine gOff rfl rfl ?_|refine gTup rfl ?_))
        rw [← h0]
        exact ⟨rfl, (h1.go _).1⟩
    · rw [drop_next hc, qd, if_neg (by rw [plain_hi h7]; simp)] at h0
      (repeat(first|refine pSeq ?_|refine pReg ?_|refine sRaw ?_|refine sCons ?_|refine sNil ?_|refine pBlock ?_|refine pSkip ?_|refine pExit ?_|refine pRet ?_|refine pCond ?_|refine gNone ?_|refine gOn rfl ?_|refine gOff rfl rfl ?_|refine gTup rfl ?_))
      refine (plain_w (by omega)).mono fun v s2 q => ?_
      obtain ⟨rfl, rfl⟩ := q
      (repeat(first|refine pSeq ?_|refine pReg ?_|refine sRaw ?_|refine sCons ?_|refine sNil ?_|refine pBlock ?_|refine pSkip ?_|refine pExit ?_|refine pRet ?_|refine pCond ?_|refine gNone ?_|refine gOn rfl ?_|refine gOff rfl rfl ?_|refine gTup rfl ?_))
      intro q hq
      obtain rfl : q = true := by rw [hq]; simp <;> omega
      (repeat(first|refine pSeq ?_|refine pReg ?_|refine sRaw ?_|refine sCons ?_|refine sNil ?_|refine pBlock ?_|refine pSkip ?_|refine pExit ?_|refine pRet ?_|refine pCond ?_|refine gNone ?_|refine gOn rfl ?_|refine gOff rfl rfl ?_|refine gTup rfl ?_))
      rw [← h0]
      exact ⟨rfl, (h1.go _).1⟩
  · have eF : quotedF l = ([], 0, 5) := by unfold quotedF; rw [if_neg hfr]
    obtain rfl : q = true := by rw [hq]; simp [hfr]
    (repeat(first|refine pSeq ?_|refine pReg ?_|refine sRaw ?_|refine sCons ?_|refine sNil ?_|refine pBlock ?_|refine pSkip ?_|refine pExit ?_|refine pRet ?_|refine pCond ?_|refine gNone ?_|refine gOn rfl ?_|refine gOff rfl rfl ?_|refine gTup rfl ?_))
    rw [eF]
    exact ⟨rfl, .refl _ _⟩

end Go.Vf.S
