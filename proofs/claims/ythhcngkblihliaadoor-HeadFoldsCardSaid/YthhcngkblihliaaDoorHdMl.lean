import Derived.Test.YthhcngkblihliaaDoorHdMk
import Derived.Test.YthhcngkblihliaaDoorLbF
/- What the law HeadFolds says, from any state. -/
namespace Go.Vf.S
open Go Go.Vf Go.Proofs Go.RowKit
attribute [local irreducible] wSeq wRow wp wG
set_option linter.unusedVariables false
set_option linter.unusedSimpArgs false
set_option maxRecDepth 10000

/-- Texts that are handed in. -/
def WsRd (s : SS) (W : Option Addr) (ws : List (List UInt8)) : Prop := match W with
  | none => ws = []
  | some ⟨b, off, sp⟩ => off = 0 ∧ sp = none ∧ b < s.next ∧ ∃ t g r, lookH s.heap b = some (.cells (strV ws) t g r)
theorem WsRd.chg {s s' : SS} {W : Option Addr} {ws : List (List UInt8)} (h : WsRd s W ws) (c : Chg s s' []) : WsRd s' W ws := by
  cases W with
  | none => exact h
  | some a =>
    obtain ⟨b, off, sp⟩ := a
    obtain ⟨h1, h2, h3, t, g, r, h4⟩ := h
    exact ⟨h1, h2, Nat.lt_of_lt_of_le h3 c.next, t, g, r, c.blk _ _ h3 (by simp) h4⟩
theorem WsRd.at {s : SS} {W : Option Addr} {ws : List (List UInt8)} (h : WsRd s W ws) (hn : ws ≠ []) : ∃ b t g r, W = some ⟨b, 0, none⟩ ∧ lookH s.heap b = some (.cells (strV ws) t g r) := by
  cases W with
  | none => exact absurd h hn
  | some a =>
    obtain ⟨b, off, sp⟩ := a
    obtain ⟨rfl, rfl, h3, t, g, r, h4⟩ := h
    exact ⟨b, t, g, r, rfl, h4⟩
def ltC (c : UInt8) : UInt8 := UInt8.ofNat (97 + c.toNat % 26)
theorem ltC_nat (c : UInt8) : (ltC c).toNat = 97 + c.toNat % 26 := by
  unfold ltC
  have := Nat.mod_lt c.toNat (show 0 < 26 by omega)
  rw [UInt8.toNat_ofNat']
  omega
theorem ltC_ok (c : UInt8) : okB (ltC c) = true ∧ ltC c ≠ 9 := by
  have h := ltC_nat c
  have := Nat.mod_lt c.toNat (show 0 < 26 by omega)
  refine ⟨?_, fun e => ?_⟩
  · unfold okB
    exact decide_eq_true (by omega)
  · rw [e] at h
    have : (9 : UInt8).toNat = 9 := rfl
    omega
theorem lt_all (l : List UInt8) : (l.map ltC).all okB = true ∧ (9 : UInt8) ∉ l.map ltC := by
  refine ⟨?_, fun h => ?_⟩
  · rw [List.all_eq_true]
    intro c hc
    obtain ⟨d, -, rfl⟩ := List.mem_map.1 hc
    exact (ltC_ok d).1
  · obtain ⟨d, -, e⟩ := List.mem_map.1 h
    exact (ltC_ok d).2 e

structure FoI where
  i : Nat
  v : List UInt8
  s : SS
structure FyI where
  i : Nat
  s : SS

set_option maxHeartbeats 8000000 in
theorem hfolds_w {s : SS} {ws : List (List UInt8)} {Wl : Option Addr} {cwl : Nat} {tt : Int} (hE : ∀ nm v, layF nm v = layR nm v) (hM : Gx s) (hf : Fine s) (h : WsRd s Wl ws) (hn : ws.length ≤ 9223372036854775807) (ht : 0 ≤ tt ∧ tt ≤ 18446744073709551615) :
    CallW pr n_law07_HeadFolds [.slice Wl ws.length cwl, .int .u64 tt] s fun u s' => u = .bool true := by
  refine CallW.pieces (nt := 146) (res := [.tmp 4]) (c := .seq code_HX_R0 (.seq code_HX_R1 (.seq code_HX_LA code_HX_TL))) (by kernel_rfl) (by kernel_rfl) (by kernel_rfl) (by kernel_rfl) (by simp) ?_
  refine W.seq (comp_ok good ok_HX_R0 (Box.out (p := wp pr 146 s.next _ _ _ _) ?_))
  (repeat(first|refine pSeq ?_|refine pReg ?_|refine sCons ?_|refine sNil ?_|refine pBlock ?_|refine pSkip ?_|refine pExit ?_|refine pCond ?_|refine gNone ?_))
  refine W.seq (comp_ok good ok_HX_R1 (Box.out (p := wp pr 146 s.next _ _ _ _) ?_))
  (repeat(first|refine pSeq ?_|refine pReg ?_|refine sCons ?_|refine sNil ?_|refine pBlock ?_|refine pSkip ?_|refine pExit ?_|refine pCond ?_|refine gNone ?_))
  refine W.seq (comp_ok good ok_HX_LA (Box.out (p := wp pr 146 s.next _ _ _ _) ?_))
  (repeat(first|refine pSeq ?_|refine pReg ?_|refine sCons ?_|refine sNil ?_|refine pBlock ?_|refine pSkip ?_|refine pExit ?_|refine pCond ?_|refine gNone ?_))
  refine pLoop (MW.head good (fun x : FoI => ws.length - x.i) (fun x => x.i ≤ ws.length ∧ x.i ≤ 60 ∧ x.v.all okB = true ∧ (9 : UInt8) ∉ x.v ∧ x.v.length ≤ 42 * x.i ∧ Chg s x.s [])
    (fun x => [(1, .int .u64 tt), (5, str x.v), (16, .slice Wl ws.length cwl), (17, .int .i64 ws.length), (18, .int .i64 x.i)]) (fun x => x.s) ⟨0, [], s⟩ ⟨Nat.zero_le _, by simp, rfl, by simp, by simp, .refl _ _⟩ (Wk.same ⟨rfl, rfl, rfl, rfl, rfl, trivial⟩) ?_)
  rintro ⟨i, v, s2⟩ ⟨i1, i2, i3, i4, i5, c2⟩
  dsimp only at i1 i2 i3 i4 i5 c2 ⊢
  have fin : W pr 146 s.next code_HX_TL [(5, str v)] s2 (runQ pr [.tmp 4] fun u s' => u = .bool true) := hf_tail hE (hM.chg c2) (c2.fine hf) i3 i4 (by omega)
  (repeat(first|refine pSeq ?_|refine pReg ?_|refine sCons ?_|refine sNil ?_|refine pBlock ?_|refine pSkip ?_|refine pExit ?_|refine pCond ?_|refine gNone ?_))
  intro q hq
  by_cases hlt : i < ws.length
  · obtain rfl : q = true := by rw [hq]; exact decide_eq_true (by omega)
    obtain ⟨x, hx⟩ : ∃ x, ws[i]? = some x := ⟨_, List.getElem?_eq_getElem hlt⟩
    obtain ⟨bl, t, g, r, hW, hbl⟩ := (h.chg c2).at (fun e => by rw [e] at hlt; simp at hlt)
    subst hW
    (repeat(first|refine pSeq ?_|refine pReg ?_|refine sCons ?_|refine sNil ?_|refine pBlock ?_|refine pSkip ?_|refine pExit ?_|refine pCond ?_|refine gNone ?_))
    refine ⟨by omega, ?_⟩
    intro m hm o ho
    obtain rfl : m = i := by omega
    (repeat(first|refine pSeq ?_|refine pReg ?_|refine sCons ?_|refine sNil ?_|refine pBlock ?_|refine pSkip ?_|refine pExit ?_|refine pCond ?_|refine gNone ?_))
    refine ldS_is (l := x) rfl hbl (by
      rw [ho, Nat.zero_add, Nat.mul_one]
      unfold strV
      rw [List.getElem?_map, hx]
      rfl) ?_
    (repeat(first|refine pSeq ?_|refine pReg ?_|refine sCons ?_|refine sNil ?_|refine pBlock ?_|refine pSkip ?_|refine pExit ?_|refine pCond ?_|refine gNone ?_))
    intro q hq
    by_cases h60 : m = 60
    · obtain rfl : q = true := by rw [hq]; exact decide_eq_true (by omega)
      (repeat(first|refine pSeq ?_|refine pReg ?_|refine sCons ?_|refine sNil ?_|refine pBlock ?_|refine pSkip ?_|refine pExit ?_|refine pCond ?_|refine gNone ?_))
      exact W.weak (k := s.next) (T' := [(5, str v)]) (s' := s2) (Wk.same ⟨rfl, trivial⟩) fin
    · obtain rfl : q = false := by rw [hq]; exact decide_eq_false (by omega)
      clear fin
      (repeat(first|refine pSeq ?_|refine pReg ?_|refine sCons ?_|refine sNil ?_|refine pBlock ?_|refine pSkip ?_|refine pExit ?_|refine pCond ?_|refine gNone ?_))
      intro z hz
      (repeat(first|refine pSeq ?_|refine pReg ?_|refine sCons ?_|refine sNil ?_|refine pBlock ?_|refine pSkip ?_|refine pExit ?_|refine pCond ?_|refine gNone ?_))
      intro z2 hz2
      (repeat(first|refine pSeq ?_|refine pReg ?_|refine sCons ?_|refine sNil ?_|refine pBlock ?_|refine pSkip ?_|refine pExit ?_|refine pCond ?_|refine gNone ?_))
      refine ⟨by omega, ?_⟩
      intro k' hk' g' hg
      have eg : g' = x.take 40 := take_min hg hz hz2 hk'
      clear hg hk' hz hz2
      subst eg
      have hyl : (x.take 40).length ≤ 40 := by rw [List.length_take]; omega
      generalize x.take 40 = y at *
      (repeat(first|refine pSeq ?_|refine pReg ?_|refine sCons ?_|refine sNil ?_|refine pBlock ?_|refine pSkip ?_|refine pExit ?_|refine pCond ?_|refine gNone ?_))
      refine ⟨by omega, ?_⟩
      obtain ⟨s4, hs4⟩ : ∃ s4 : SS, s4 = { s2 with heap := (s2.next, some (.cells (bytesV y) tB true false)) :: s2.heap, next := s2.next + 1 } := ⟨_, rfl⟩
      have c34 : Chg s2 s4 [] := by rw [hs4]; exact .new _
      have k4 : lookH s4.heap s2.next = some (.cells (bytesV y) tB true false) := by rw [hs4]; exact lkH
      have n4 : s4.next = s2.next + 1 := by rw [hs4]
      (repeat(first|refine pSeq ?_|refine pReg ?_|refine sCons ?_|refine sNil ?_|refine pBlock ?_|refine pSkip ?_|refine pExit ?_|refine pCond ?_|refine gNone ?_))
      refine pLoop (MW.head good (fun x : FyI => y.length - x.i) (fun x => x.i ≤ y.length ∧ Chg s4 x.s [s2.next] ∧ lookH x.s.heap s2.next = some (.cells (bytesV (mixI (fun _ => ltC) y x.i)) tB true false))
        (fun x => [(1, .int .u64 tt), (5, str v), (6, .int .i64 m), (8, .slice (some ⟨s2.next, 0, none⟩) y.length 0), (16, .slice (some ⟨bl, 0, none⟩) ws.length cwl), (17, .int .i64 ws.length), (18, .int .i64 m), (32, .int .i64 y.length), (33, .int .i64 x.i)]) (fun x => x.s) ⟨0, s4⟩ ⟨Nat.zero_le _, .refl _ _, by rw [mixI_0]; exact k4⟩ (by subst hs4; exact Wk.same ⟨rfl, rfl, rfl, rfl, rfl, rfl, rfl, rfl, rfl, trivial⟩) ?_)
      clear hs4
      rintro ⟨j, s5⟩ ⟨j1, c5, k5⟩
      dsimp only at j1 c5 k5 ⊢
      have n5 := c5.next
      (repeat(first|refine pSeq ?_|refine pReg ?_|refine sCons ?_|refine sNil ?_|refine pBlock ?_|refine pSkip ?_|refine pExit ?_|refine pCond ?_|refine gNone ?_))
      intro q hq
      by_cases hlj : j < y.length
      · obtain rfl : q = true := by rw [hq]; exact decide_eq_true (by omega)
        obtain ⟨c, hc⟩ : ∃ c, y[j]? = some c := ⟨_, List.getElem?_eq_getElem hlj⟩
        have c26 := Nat.mod_lt c.toNat (show 0 < 26 by omega)
        (repeat(first|refine pSeq ?_|refine pReg ?_|refine sCons ?_|refine sNil ?_|refine pBlock ?_|refine pSkip ?_|refine pExit ?_|refine pCond ?_|refine gNone ?_))
        refine ⟨by omega, ?_⟩
        intro m1 hm1 o1 ho1
        obtain rfl : m1 = j := by omega
        (repeat(first|refine pSeq ?_|refine pReg ?_|refine sCons ?_|refine sNil ?_|refine pBlock ?_|refine pSkip ?_|refine pExit ?_|refine pCond ?_|refine gNone ?_))
        refine ldI_is rfl k5 (by rw [ho1, Nat.zero_add, Nat.mul_one]; exact bytes_get (mixI_at hc)) ?_
        (repeat(first|refine pSeq ?_|refine pReg ?_|refine sCons ?_|refine sNil ?_|refine pBlock ?_|refine pSkip ?_|refine pExit ?_|refine pCond ?_|refine gNone ?_))
        refine ⟨by omega, ?_⟩
        intro z hz
        have hz : z = ((c.toNat % 26 : Nat) : Int) := hz
        (repeat(first|refine pSeq ?_|refine pReg ?_|refine sCons ?_|refine sNil ?_|refine pBlock ?_|refine pSkip ?_|refine pExit ?_|refine pCond ?_|refine gNone ?_))
        intro z2 hz2
        rw [u8_id (by omega)] at hz2
        obtain rfl : z2 = ((ltC c).toNat : Int) := by rw [ltC_nat]; omega
        (repeat(first|refine pSeq ?_|refine pReg ?_|refine sCons ?_|refine sNil ?_|refine pBlock ?_|refine pSkip ?_|refine pExit ?_|refine pCond ?_|refine gNone ?_))
        refine ⟨by omega, ?_⟩
        intro m2 hm2 o2 ho2
        obtain rfl : m2 = m1 := by omega
        (repeat(first|refine pSeq ?_|refine pReg ?_|refine sCons ?_|refine sNil ?_|refine pBlock ?_|refine pSkip ?_|refine pExit ?_|refine pCond ?_|refine gNone ?_))
        refine st_abs (cs' := bytesV (mixI (fun _ => ltC) y (m2 + 1))) rfl rfl k5 (by omega) rfl (by
          rw [ho2, Nat.zero_add, Nat.mul_one, mixI_next hc]
          exact bytes_set (by rw [mixI_len]; exact hlj) _) fun s6 e6 c6 n6 => ?_
        (repeat(first|refine pSeq ?_|refine pReg ?_|refine sCons ?_|refine sNil ?_|refine pBlock ?_|refine pSkip ?_|refine pExit ?_|refine pCond ?_|refine gNone ?_))
        intro z3 hz3
        rw [i64_id (by omega)] at hz3
        obtain rfl : z3 = ((m2 + 1 : Nat) : Int) := by omega
        (repeat(first|refine pSeq ?_|refine pReg ?_|refine sCons ?_|refine sNil ?_|refine pBlock ?_|refine pSkip ?_|refine pExit ?_|refine pCond ?_|refine gNone ?_))
        exact ⟨⟨m2 + 1, s6⟩, ⟨hlj, c5.trans' c6 (fun id q _ => q) (fun id q _ => q), e6⟩, by show y.length - (m2 + 1) < y.length - m2; omega, Wk.same ⟨rfl, rfl, rfl, rfl, rfl, rfl, rfl, rfl, rfl, trivial⟩⟩
      · obtain rfl : q = false := by rw [hq]; exact decide_eq_false (by omega)
        rw [mixI_end (by omega), mapIdx_const] at k5
        have c25 : Chg s2 s5 [] := c34.fresh c5 (by simp)
        obtain ⟨hy1, hy2⟩ := lt_all y
        have hyl2 : (y.map ltC).length = y.length := List.length_map ..
        have r5 : Rdb s5 (some ⟨s2.next, 0, none⟩) y.length (y.map ltC) := by have := rdb_lit k5 (show s2.next < s5.next by omega); rwa [hyl2] at this
        rw [← hyl2] at hyl
        generalize y.map ltC = w at *
        (repeat(first|refine pSeq ?_|refine pReg ?_|refine sCons ?_|refine sNil ?_|refine pBlock ?_|refine pSkip ?_|refine pExit ?_|refine pCond ?_|refine gNone ?_))
        refine toStr_Rdb rfl r5 ?_
        (repeat(first|refine pSeq ?_|refine pReg ?_|refine sCons ?_|refine sNil ?_|refine pBlock ?_|refine pSkip ?_|refine pExit ?_|refine pCond ?_|refine gNone ?_))
        refine ⟨by first | omega | (simp; omega), ?_⟩
        intro y1 hy1'
        subst hy1'
        (repeat(first|refine pSeq ?_|refine pReg ?_|refine sCons ?_|refine sNil ?_|refine pBlock ?_|refine pSkip ?_|refine pExit ?_|refine pCond ?_|refine gNone ?_))
        refine ⟨by first | omega | (simp; omega), ?_⟩
        intro y2 hy2'
        have v1 : y2.all okB = true ∧ (9 : UInt8) ∉ y2 ∧ y2.length ≤ 42 * m + 41 := by
          rw [hy2']
          refine ⟨?_, ?_, ?_⟩
          · rw [List.all_append, List.all_append, i3, hy1]; rfl
          · simp only [List.mem_append, not_or]
            exact ⟨i4, hy2, by decide⟩
          · simp only [List.length_append, List.length_cons, List.length_nil]; omega
        clear hy2'
        (repeat(first|refine pSeq ?_|refine pReg ?_|refine sCons ?_|refine sNil ?_|refine pBlock ?_|refine pSkip ?_|refine pExit ?_|refine pCond ?_|refine gNone ?_))
        refine ⟨by omega, ?_⟩
        intro z hz
        (repeat(first|refine pSeq ?_|refine pReg ?_|refine sCons ?_|refine sNil ?_|refine pBlock ?_|refine pSkip ?_|refine pExit ?_|refine pCond ?_|refine gNone ?_))
        intro z2 hz2
        (repeat(first|refine pSeq ?_|refine pReg ?_|refine sCons ?_|refine sNil ?_|refine pBlock ?_|refine pSkip ?_|refine pExit ?_|refine pCond ?_|refine gNone ?_))
        intro q hq
        clear hq hz2 hz
        cases q with
        | true =>
          (repeat(first|refine pSeq ?_|refine pReg ?_|refine sCons ?_|refine sNil ?_|refine pBlock ?_|refine pSkip ?_|refine pExit ?_|refine pCond ?_|refine gNone ?_))
          refine ⟨by first | omega | (simp; omega), ?_⟩
          intro y3 hy3
          have v2 : y3.all okB = true ∧ (9 : UInt8) ∉ y3 ∧ y3.length ≤ 42 * m + 42 := by
            rw [hy3]
            refine ⟨?_, ?_, ?_⟩
            · rw [List.all_append, v1.1]; rfl
            · simp only [List.mem_append, not_or]
              exact ⟨v1.2.1, by decide⟩
            · have := v1.2.2
              simp only [List.length_append, List.length_cons, List.length_nil]; omega
          clear hy3
          (repeat(first|refine pSeq ?_|refine pReg ?_|refine sCons ?_|refine sNil ?_|refine pBlock ?_|refine pSkip ?_|refine pExit ?_|refine pCond ?_|refine gNone ?_))
          intro z3 hz3
          rw [i64_id (by omega)] at hz3
          obtain rfl : z3 = ((m + 1 : Nat) : Int) := by omega
          (repeat(first|refine pSeq ?_|refine pReg ?_|refine sCons ?_|refine sNil ?_|refine pBlock ?_|refine pSkip ?_|refine pExit ?_|refine pCond ?_|refine gNone ?_))
          exact ⟨⟨m + 1, y3, s5⟩, ⟨hlt, by show m + 1 ≤ 60; omega, v2.1, v2.2.1, by have := v2.2.2; show y3.length ≤ 42 * (m + 1); omega, c2.nil c25⟩, by show ws.length - (m + 1) < ws.length - m; omega, Wk.same ⟨rfl, rfl, rfl, rfl, rfl, trivial⟩⟩
        | false =>
          (repeat(first|refine pSeq ?_|refine pReg ?_|refine sCons ?_|refine sNil ?_|refine pBlock ?_|refine pSkip ?_|refine pExit ?_|refine pCond ?_|refine gNone ?_))
          intro z3 hz3
          rw [i64_id (by omega)] at hz3
          obtain rfl : z3 = ((m + 1 : Nat) : Int) := by omega
          (repeat(first|refine pSeq ?_|refine pReg ?_|refine sCons ?_|refine sNil ?_|refine pBlock ?_|refine pSkip ?_|refine pExit ?_|refine pCond ?_|refine gNone ?_))
          exact ⟨⟨m + 1, y2, s5⟩, ⟨hlt, by show m + 1 ≤ 60; omega, v1.1, v1.2.1, by have := v1.2.2; show y2.length ≤ 42 * (m + 1); omega, c2.nil c25⟩, by show ws.length - (m + 1) < ws.length - m; omega, Wk.same ⟨rfl, rfl, rfl, rfl, rfl, trivial⟩⟩
  · obtain rfl : q = false := by rw [hq]; exact decide_eq_false (by omega)
    (repeat(first|refine pSeq ?_|refine pReg ?_|refine sCons ?_|refine sNil ?_|refine pBlock ?_|refine pSkip ?_|refine pExit ?_|refine pCond ?_|refine gNone ?_))
    exact W.weak (k := s.next) (T' := [(5, str v)]) (s' := s2) (Wk.same ⟨rfl, trivial⟩) fin
end Go.Vf.S
