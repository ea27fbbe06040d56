import Derived.Test.YtafdbfpclolpkaaHaJ
/- A key filled up; HMAC: the program. -/
namespace Go.Vf.S
open Go Go.Vf
attribute [local irreducible] wSeq wRow wp wG schd rnds blks blk5 sha fillF
set_option linter.unusedVariables false
set_option linter.unusedSimpArgs false
set_option maxRecDepth 10000

/-- Bytes laid over the front of others, perhaps none. -/
theorem cpy_any10 {T : TL} {s : SS} {x y : Operand} {d : Option Tmp} {ml : List MOper} {R : TL → SS → Prop} {b dl c1 n c : Nat} {tt : TypeId} {a l : List UInt8} {sb : Option Addr} (hx : opd T s.gl x = some (.slice (some ⟨b, 0, none⟩) dl c1)) (hb : lookH s.heap b = some (.cells (bytesV a) tt false false)) (hlt : b < s.next) (hy : opd T s.gl y = some (.slice sb n c)) (hr : Rdb s sb n l) (hdl : n ≤ dl) (hlen : n ≤ a.length)
    (h : ∀ s' : SS, lookH s'.heap b = some (.cells (bytesV (l ++ a.drop n)) tt false false) → Chg s s' [b] → Box (wSeq pr ml (putL T d (.int .i64 n)) s' R)) : wN pr (.cpy 1 x y) T s (stepK pr d ml T s R) := by
  rcases Nat.eq_zero_or_pos n with h0 | h0
  · subst h0
    have hl : l = [] := List.eq_nil_of_length_eq_zero hr.1.symm
    subst hl
    have key := h s (by simpa using hb) (.refl _ _)
    simp only [wN, hx, hy]
    cases sb with
    | none =>
      have e : min 0 dl = 0 := Nat.zero_min dl
      refine ⟨fun _ => ?_, fun q => by omega⟩
      rw [e]
      exact key
    | some q =>
      obtain ⟨b2, o2, sp2⟩ := q
      obtain ⟨-, rfl, -, cc, t, g2, r, h2, h3, -⟩ := hr
      simp only [wSrcN, h2]
      have e : min 0 dl = 0 := Nat.zero_min dl
      refine ⟨[], ?_, fun _ => ?_, fun q => by omega⟩
      · rw [e, Nat.zero_mul]; exact h3
      · rw [e]; exact key
  · refine cpy_own hx hb hy hr h0 hdl (by omega) ?_
    have e : a.take 0 ++ l ++ a.drop (0 + n) = l ++ a.drop n := by simp
    rw [e]
    exact h _ lkH (.turn hlt)

theorem slA_is10 {P : Program} {T : TL} {s : SS} {K : RR → Prop} {n z b off : Nat} {x : Operand} {lo hi : Option Operand} {cs : List Value} {t : TypeId} {r : Bool} {vl vh : Option Value} (i k : Nat) (hx : opd T s.gl x = some (.pointer (some ⟨b, off, none⟩))) (hb : lookH s.heap b = some (.cells cs t false r))
    (hl : opdO T s.gl lo = some vl) (hh : opdO T s.gl hi = some vh) (h1 : isBnd vh n k) (h2 : isBnd vl 0 i) (hik : i ≤ k) (hkn : k ≤ n) (h : K (.val (.slice (some ⟨b, if n = i then off else off + i * z, none⟩) (k - i) (n - i)))) : wN P (.slA n z x lo hi) T s K := by
  simp only [wN, hx, hb, hl, hh]
  refine wBnd_is h1 hkn (wBnd_is h2 hik ?_)
  intro o m d ho hm hd
  rw [ho, hm, hd]
  exact h

theorem fill10_w {s : SS} {base : Option Addr} {n cap : Nat} {k : List UInt8} (f : Fine s) (hr : Slc pr s base n cap k) (hM : n < 2 ^ 30) : CallW pr n_hash_fill [.slice base n cap] s fun v s' => v = agB (fillF k) ∧ Chg s s' [] := by
  have hk := hr.1.1
  refine CallW.run good ok_hash_fill (by simp) rfl ?_
  obtain ⟨h0, c0, f0⟩ := new1_at f (.cells (bytesV zs64) tA64 false false)
  have hr0 := hr.chg c0 (by simp)
  (repeat(first|refine pSeq ?_|refine pReg ?_|refine sCons ?_|refine sNil ?_|refine pSkip ?_|refine pRet ?_|refine pCond ?_|refine gNone ?_))
  intro q hq
  by_cases h6 : 64 < n
  · obtain rfl : q = true := by rw [hq]; simp <;> omega
    (repeat(first|refine pSeq ?_|refine pReg ?_|refine sCons ?_|refine sNil ?_|refine pSkip ?_|refine pRet ?_|refine pCond ?_|refine gNone ?_))
    refine (sha1_w f0 hr0 hM).mono fun v s1 q => ?_
    obtain ⟨rfl, k1⟩ := q
    have f1 := k1.fine f0
    have n1 := k1.next
    replace n1 : s.next + 1 ≤ s1.next := n1
    have g0 := k1.blk _ _ (show s.next < s.next + 1 by omega) (by simp) h0
    (repeat(first|refine pSeq ?_|refine pReg ?_|refine sCons ?_|refine sNil ?_|refine pSkip ?_|refine pRet ?_|refine pCond ?_|refine gNone ?_))
    obtain ⟨m0, m1, m2⟩ := new1_at f1 (.cells (bytesV zs20) tA20 false false)
    refine st_abs (cs' := bytesV (sha k)) rfl rfl m0 (Nat.lt_succ_self _) (agB_fl (sha_len k)) (agB_lay (a := zs20) (sha_len k).symm) fun s2 e2 c2 n2 => ?_
    replace n2 : s2.next = s1.next + 1 := n2
    have g2 := c2.blk _ _ (show s.next < s1.next + 1 by omega) (by simp; omega) (m1.blk _ _ (show s.next < s1.next by omega) (by simp) g0)
    replace c2 := (c0.nil k1).nil (m1.fresh c2 (by simp))
    (repeat(first|refine pSeq ?_|refine pReg ?_|refine sCons ?_|refine sNil ?_|refine pSkip ?_|refine pRet ?_|refine pCond ?_|refine gNone ?_))
    refine slA_is10 0 20 rfl e2 rfl rfl rfl rfl (by omega) (by omega) ?_
    have hsl := cell_slc e2 (show s1.next < s2.next by omega) (sha_len k)
    have hF : sha k ++ zs64.drop 20 = fillF k := by rw [fill_eq1 (by omega)]; rfl
    (repeat(first|refine pSeq ?_|refine pReg ?_|refine sCons ?_|refine sNil ?_|refine pSkip ?_|refine pRet ?_|refine pCond ?_|refine gNone ?_))
    refine slA_is10 0 64 rfl g2 rfl rfl rfl rfl (by omega) (by omega) ?_
    (repeat(first|refine pSeq ?_|refine pReg ?_|refine sCons ?_|refine sNil ?_|refine pSkip ?_|refine pRet ?_|refine pCond ?_|refine gNone ?_))
    refine cpy_any10 (l := sha k) (n := 20) rfl g2 (show s.next < s2.next by omega) rfl hsl.1 (by omega) (by rw [show zs64.length = 64 from rfl]; exact (by omega)) fun s8 e8 c8 => ?_
    replace e8 : lookH s8.heap s.next = some (.cells (bytesV (fillF k)) tA64 false false) := by
      rw [← hF]; exact e8
    (repeat(first|refine pSeq ?_|refine pReg ?_|refine sCons ?_|refine sNil ?_|refine pSkip ?_|refine pRet ?_|refine pCond ?_|refine gNone ?_))
    refine ldN_is rfl e8 (bytes_take (fillF_len k)) ?_
    (repeat(first|refine pSeq ?_|refine pReg ?_|refine sCons ?_|refine sNil ?_|refine pSkip ?_|refine pRet ?_|refine pCond ?_|refine gNone ?_))
    refine st_abs (cs' := bytesV (fillF k)) rfl rfl e8 (Nat.lt_of_lt_of_le (show s.next < s2.next by omega) c8.next) (agB_fl (fillF_len k)) (agB_lay rfl) fun s9 e9 c9 n9 => ?_
    (repeat(first|refine pSeq ?_|refine pReg ?_|refine sCons ?_|refine sNil ?_|refine pSkip ?_|refine pRet ?_|refine pCond ?_|refine gNone ?_))
    (repeat (first | with_reducible refine sqRet ?_ | with_reducible refine bkRet ?_ | with_reducible refine hdRet ?_))
    exact ret_cell1 agg_A64 sz_A64 rfl e9 (bytes_take (fillF_len k)) ⟨rfl, (c2.fresh c8 (by simp)).fresh c9 (by simp)⟩
  · obtain rfl : q = false := by rw [hq]; simp <;> omega
    have g2 := h0
    have hF : k ++ zs64.drop n = fillF k := by rw [fill_eq2 (by omega), hk]; unfold zs64; rw [List.drop_replicate]
    have hlt0 : s.next < s.next + 1 := Nat.lt_succ_self _
    (repeat(first|refine pSeq ?_|refine pReg ?_|refine sCons ?_|refine sNil ?_|refine pSkip ?_|refine pRet ?_|refine pCond ?_|refine gNone ?_))
    refine slA_is10 0 64 rfl g2 rfl rfl rfl rfl (by omega) (by omega) ?_
    (repeat(first|refine pSeq ?_|refine pReg ?_|refine sCons ?_|refine sNil ?_|refine pSkip ?_|refine pRet ?_|refine pCond ?_|refine gNone ?_))
    refine cpy_any10 (l := k) (n := n) rfl g2 (hlt0) rfl hr0.1 (by omega) (by rw [show zs64.length = 64 from rfl]; exact (by omega)) fun s8 e8 c8 => ?_
    replace e8 : lookH s8.heap s.next = some (.cells (bytesV (fillF k)) tA64 false false) := by
      rw [← hF]; exact e8
    (repeat(first|refine pSeq ?_|refine pReg ?_|refine sCons ?_|refine sNil ?_|refine pSkip ?_|refine pRet ?_|refine pCond ?_|refine gNone ?_))
    refine ldN_is rfl e8 (bytes_take (fillF_len k)) ?_
    (repeat(first|refine pSeq ?_|refine pReg ?_|refine sCons ?_|refine sNil ?_|refine pSkip ?_|refine pRet ?_|refine pCond ?_|refine gNone ?_))
    refine st_abs (cs' := bytesV (fillF k)) rfl rfl e8 (Nat.lt_of_lt_of_le (hlt0) c8.next) (agB_fl (fillF_len k)) (agB_lay rfl) fun s9 e9 c9 n9 => ?_
    (repeat(first|refine pSeq ?_|refine pReg ?_|refine sCons ?_|refine sNil ?_|refine pSkip ?_|refine pRet ?_|refine pCond ?_|refine gNone ?_))
    (repeat (first | with_reducible refine sqRet ?_ | with_reducible refine bkRet ?_ | with_reducible refine hdRet ?_))
    exact ret_cell1 agg_A64 sz_A64 rfl e9 (bytes_take (fillF_len k)) ⟨rfl, (c0.fresh c8 (by simp)).fresh c9 (by simp)⟩
end Go.Vf.S
