import Derived.Test.YtphcpdopfolopaaDoorCoL
/- What may be asked: letters of the three kinds, and bytes of them; the examples. -/
namespace Go.Vf.S
open Go Go.Vf Go.Proofs Go.RowKit
attribute [local irreducible] wSeq wRow wp wG
set_option linter.unusedVariables false
set_option linter.unusedSimpArgs false
set_option maxRecDepth 10000

def tellN (z : Nat) : Nat := if z = 5 then n_coding_Base32 else if z = 6 then n_coding_Base64 else n_coding_Hex
def readN (z : Nat) : Nat := if z = 5 then n_coding_FromBase32 else if z = 6 then n_coding_FromBase64 else n_coding_FromHex

theorem base32_w {s : SS} {base : Option Addr} {n cap : Nat} {b : List UInt8} (hG : Gk s) (f : Fine s) (hr : Rdb s base n b) (hl : n ≤ 1000000) : CallW pr n_coding_Base32 [.slice base n cap] s fun v s' => v = str (tellF 5 b) ∧ Chg s s' [] := by
  refine CallW.run good ok_coding_Base32 (by simp) rfl ?_
  (repeat(first|refine pSeq ?_|refine pReg ?_|refine sCons ?_|refine sNil ?_|refine pRet ?_|refine gNone ?_))
  refine ixaG hG.g rfl ?_
  refine ⟨by decide, ?_⟩
  intro k hk o ho
  obtain rfl : k = 0 := by omega
  obtain rfl : o = 0 := by omega
  (repeat(first|refine pSeq ?_|refine pReg ?_|refine sCons ?_|refine sNil ?_|refine pRet ?_|refine gNone ?_))
  refine ldN_is rfl hG.b (show _ = some (kV 5) from rfl) ?_
  (repeat(first|refine pSeq ?_|refine pReg ?_|refine sCons ?_|refine sNil ?_|refine pRet ?_|refine gNone ?_))
  refine (lay_w f (by omega) hr hl).mono fun v s1 q => ?_
  obtain ⟨rfl, c1⟩ := q
  (repeat(first|refine pSeq ?_|refine pReg ?_|refine sCons ?_|refine sNil ?_|refine pRet ?_|refine gNone ?_))
  exact ⟨rfl, c1⟩
theorem base64_w {s : SS} {base : Option Addr} {n cap : Nat} {b : List UInt8} (hG : Gk s) (f : Fine s) (hr : Rdb s base n b) (hl : n ≤ 1000000) : CallW pr n_coding_Base64 [.slice base n cap] s fun v s' => v = str (tellF 6 b) ∧ Chg s s' [] := by
  refine CallW.run good ok_coding_Base64 (by simp) rfl ?_
  (repeat(first|refine pSeq ?_|refine pReg ?_|refine sCons ?_|refine sNil ?_|refine pRet ?_|refine gNone ?_))
  refine ixaG hG.g rfl ?_
  refine ⟨by decide, ?_⟩
  intro k hk o ho
  obtain rfl : k = 1 := by omega
  obtain rfl : o = 4 := by omega
  (repeat(first|refine pSeq ?_|refine pReg ?_|refine sCons ?_|refine sNil ?_|refine pRet ?_|refine gNone ?_))
  refine ldN_is rfl hG.b (show _ = some (kV 6) from rfl) ?_
  (repeat(first|refine pSeq ?_|refine pReg ?_|refine sCons ?_|refine sNil ?_|refine pRet ?_|refine gNone ?_))
  refine (lay_w f (by omega) hr hl).mono fun v s1 q => ?_
  obtain ⟨rfl, c1⟩ := q
  (repeat(first|refine pSeq ?_|refine pReg ?_|refine sCons ?_|refine sNil ?_|refine pRet ?_|refine gNone ?_))
  exact ⟨rfl, c1⟩
theorem hex_w11 {s : SS} {base : Option Addr} {n cap : Nat} {b : List UInt8} (hG : Gk s) (f : Fine s) (hr : Rdb s base n b) (hl : n ≤ 1000000) : CallW pr n_coding_Hex [.slice base n cap] s fun v s' => v = str (tellF 4 b) ∧ Chg s s' [] := by
  refine CallW.run good ok_coding_Hex (by simp) rfl ?_
  (repeat(first|refine pSeq ?_|refine pReg ?_|refine sCons ?_|refine sNil ?_|refine pRet ?_|refine gNone ?_))
  refine ixaG hG.g rfl ?_
  refine ⟨by decide, ?_⟩
  intro k hk o ho
  obtain rfl : k = 2 := by omega
  obtain rfl : o = 8 := by omega
  (repeat(first|refine pSeq ?_|refine pReg ?_|refine sCons ?_|refine sNil ?_|refine pRet ?_|refine gNone ?_))
  refine ldN_is rfl hG.b (show _ = some (kV 4) from rfl) ?_
  (repeat(first|refine pSeq ?_|refine pReg ?_|refine sCons ?_|refine sNil ?_|refine pRet ?_|refine gNone ?_))
  refine (lay_w f (by omega) hr hl).mono fun v s1 q => ?_
  obtain ⟨rfl, c1⟩ := q
  (repeat(first|refine pSeq ?_|refine pReg ?_|refine sCons ?_|refine sNil ?_|refine pRet ?_|refine gNone ?_))
  exact ⟨rfl, c1⟩
theorem reads_tuple {r : Option (List UInt8)} {s s' : SS} {v : Value} (h : ReadsAs r s s' v) : ∃ x y, v = .tuple #[x, y] := by
  cases r with
  | none => exact ⟨_, _, h⟩
  | some b => obtain ⟨_, _, _, h, _⟩ := h; exact ⟨_, _, h⟩
theorem unBase32_w {s : SS} {l : List UInt8} (hG : Gk s) (f : Fine s) (hl : l.length ≤ 1000000) : CallW pr n_coding_FromBase32 [str l] s fun v s' => ReadsAs (readF 5 l) s s' v ∧ Chg s s' [] := by
  refine CallW.run good ok_coding_FromBase32 (by simp) rfl ?_
  (repeat(first|refine pSeq ?_|refine pReg ?_|refine sCons ?_|refine sNil ?_|refine pRet ?_|refine gNone ?_))
  refine ixaG hG.g rfl ?_
  refine ⟨by decide, ?_⟩
  intro k hk o ho
  obtain rfl : k = 0 := by omega
  obtain rfl : o = 0 := by omega
  (repeat(first|refine pSeq ?_|refine pReg ?_|refine sCons ?_|refine sNil ?_|refine pRet ?_|refine gNone ?_))
  refine ldN_is rfl hG.b (show _ = some (kV 5) from rfl) ?_
  (repeat(first|refine pSeq ?_|refine pReg ?_|refine sCons ?_|refine sNil ?_|refine pRet ?_|refine gNone ?_))
  refine (read_w f (by omega) hl).mono fun v s1 q => ?_
  obtain ⟨q, c1⟩ := q
  obtain ⟨x, y, rfl⟩ := reads_tuple q
  (repeat(first|refine pSeq ?_|refine pReg ?_|refine sCons ?_|refine sNil ?_|refine pRet ?_|refine gNone ?_))
  exact ⟨q, c1⟩
theorem unBase64_w {s : SS} {l : List UInt8} (hG : Gk s) (f : Fine s) (hl : l.length ≤ 1000000) : CallW pr n_coding_FromBase64 [str l] s fun v s' => ReadsAs (readF 6 l) s s' v ∧ Chg s s' [] := by
  refine CallW.run good ok_coding_FromBase64 (by simp) rfl ?_
  (repeat(first|refine pSeq ?_|refine pReg ?_|refine sCons ?_|refine sNil ?_|refine pRet ?_|refine gNone ?_))
  refine ixaG hG.g rfl ?_
  refine ⟨by decide, ?_⟩
  intro k hk o ho
  obtain rfl : k = 1 := by omega
  obtain rfl : o = 4 := by omega
  (repeat(first|refine pSeq ?_|refine pReg ?_|refine sCons ?_|refine sNil ?_|refine pRet ?_|refine gNone ?_))
  refine ldN_is rfl hG.b (show _ = some (kV 6) from rfl) ?_
  (repeat(first|refine pSeq ?_|refine pReg ?_|refine sCons ?_|refine sNil ?_|refine pRet ?_|refine gNone ?_))
  refine (read_w f (by omega) hl).mono fun v s1 q => ?_
  obtain ⟨q, c1⟩ := q
  obtain ⟨x, y, rfl⟩ := reads_tuple q
  (repeat(first|refine pSeq ?_|refine pReg ?_|refine sCons ?_|refine sNil ?_|refine pRet ?_|refine gNone ?_))
  exact ⟨q, c1⟩
theorem unHex_w {s : SS} {l : List UInt8} (hG : Gk s) (f : Fine s) (hl : l.length ≤ 1000000) : CallW pr n_coding_FromHex [str l] s fun v s' => ReadsAs (readF 4 l) s s' v ∧ Chg s s' [] := by
  refine CallW.run good ok_coding_FromHex (by simp) rfl ?_
  (repeat(first|refine pSeq ?_|refine pReg ?_|refine sCons ?_|refine sNil ?_|refine pRet ?_|refine gNone ?_))
  refine ixaG hG.g rfl ?_
  refine ⟨by decide, ?_⟩
  intro k hk o ho
  obtain rfl : k = 2 := by omega
  obtain rfl : o = 8 := by omega
  (repeat(first|refine pSeq ?_|refine pReg ?_|refine sCons ?_|refine sNil ?_|refine pRet ?_|refine gNone ?_))
  refine ldN_is rfl hG.b (show _ = some (kV 4) from rfl) ?_
  (repeat(first|refine pSeq ?_|refine pReg ?_|refine sCons ?_|refine sNil ?_|refine pRet ?_|refine gNone ?_))
  refine (read_w f (by omega) hl).mono fun v s1 q => ?_
  obtain ⟨q, c1⟩ := q
  obtain ⟨x, y, rfl⟩ := reads_tuple q
  (repeat(first|refine pSeq ?_|refine pReg ?_|refine sCons ?_|refine sNil ?_|refine pRet ?_|refine gNone ?_))
  exact ⟨q, c1⟩
/-- Any of the three. -/
theorem tell_w {s : SS} {z : Nat} {base : Option Addr} {n cap : Nat} {b : List UInt8} (hG : Gk s) (f : Fine s) (hz : 4 ≤ z ∧ z ≤ 6) (hr : Rdb s base n b) (hl : n ≤ 1000000) : CallW pr (tellN z) [.slice base n cap] s fun v s' => v = str (tellF z b) ∧ Chg s s' [] := by
  rcases (show z = 4 ∨ z = 5 ∨ z = 6 by omega) with rfl | rfl | rfl
  · exact hex_w11 hG f hr hl
  · exact base32_w hG f hr hl
  · exact base64_w hG f hr hl
theorem unTell_w {s : SS} {z : Nat} {l : List UInt8} (hG : Gk s) (f : Fine s) (hz : 4 ≤ z ∧ z ≤ 6) (hl : l.length ≤ 1000000) : CallW pr (readN z) [str l] s fun v s' => ReadsAs (readF z l) s s' v ∧ Chg s s' [] := by
  rcases (show z = 4 ∨ z = 5 ∨ z = 6 by omega) with rfl | rfl | rfl
  · exact unHex_w hG f hl
  · exact unBase32_w hG f hl
  · exact unBase64_w hG f hl

theorem equal11_w {s : SS} {b1 b2 : Option Addr} {n1 n2 c1 c2 : Nat} {l m : List UInt8} (h1 : Rdb s b1 n1 l) (h2 : Rdb s b2 n2 m) : CallW pr n_bytes_Equal [.slice b1 n1 c1, .slice b2 n2 c2] s fun v s' => v = .bool (decide (l = m)) ∧ s' = s := by
  refine CallW.run good ok_bytes_Equal (by simp) rfl ?_
  (repeat(first|refine pSeq ?_|refine pReg ?_|refine sCons ?_|refine sNil ?_|refine pRet ?_|refine gNone ?_))
  refine toStr_Rdb rfl h1 ?_
  (repeat(first|refine pSeq ?_|refine pReg ?_|refine sCons ?_|refine sNil ?_|refine pRet ?_|refine gNone ?_))
  refine toStr_Rdb rfl h2 ?_
  (repeat(first|refine pSeq ?_|refine pReg ?_|refine sCons ?_|refine sNil ?_|refine pRet ?_|refine gNone ?_))
  intro q hq
  subst hq
  (repeat(first|refine pSeq ?_|refine pReg ?_|refine sCons ?_|refine sNil ?_|refine pRet ?_|refine gNone ?_))
  exact ⟨rfl, rfl⟩

/-- Two rows of bytes, laid one after another. -/
theorem two_slc {s : SS} (f : Fine s) (l m : List UInt8) : Slc pr { s with heap := (s.next + 1, some (.cells (bytesV m) tB false false)) :: (s.next, some (.cells (bytesV l) tB false false)) :: s.heap, next := s.next + 1 + 1 } (some ⟨s.next, 0, none⟩) l.length l.length l
    ∧ Slc pr { s with heap := (s.next + 1, some (.cells (bytesV m) tB false false)) :: (s.next, some (.cells (bytesV l) tB false false)) :: s.heap, next := s.next + 1 + 1 } (some ⟨s.next + 1, 0, none⟩) m.length m.length m := by
  obtain ⟨h1, h2, _, _⟩ := new2_at f (.cells (bytesV l) tB false false) (.cells (bytesV m) tB false false)
  exact ⟨cell_slc h1 (Nat.lt_succ_of_lt (Nat.lt_succ_self _)) rfl, cell_slc h2 (Nat.lt_succ_self _) rfl⟩
/-! ### The examples -/
def fL : List UInt8 := [102]
def allL : List UInt8 := [102, 111, 111, 98, 97, 114]
theorem ex5 : tellF 5 fL = [77, 89] ∧ tellF 6 fL = [90, 103, 61, 61] ∧ tellF 4 fL = [54, 54] := by decide +kernel
theorem ex6 : tellF 5 allL = [77, 90, 88, 87, 54, 89, 84, 66, 79, 73] ∧ tellF 6 allL = [90, 109, 57, 118, 89, 109, 70, 121] ∧ tellF 4 allL = [54, 54, 54, 102, 54, 102, 54, 50, 54, 49, 55, 50] := by decide +kernel
theorem wakes11_w {s : SS} (hG : Gk s) (f : Fine s) : CallW pr n_law11_wakes [] s fun v s' => v = .bool true ∧ Chg s s' [] := by
  refine CallW.run good ok_law11_wakes (by simp) rfl ?_
  obtain ⟨h0, c0, f0⟩ := new1_at f (.cells (bytesV fL) tB false false)
  (repeat(first|refine pSeq ?_|refine pReg ?_|refine sCons ?_|refine sNil ?_|refine pRet ?_|refine gNone ?_|refine gOn rfl ?_|refine gOff rfl rfl ?_|refine gTup rfl ?_))
  refine mark_is10 rfl h0 ?_
  (repeat(first|refine pSeq ?_|refine pReg ?_|refine sCons ?_|refine sNil ?_|refine pRet ?_|refine gNone ?_|refine gOn rfl ?_|refine gOff rfl rfl ?_|refine gTup rfl ?_))
  obtain ⟨h1, h2, c1, f1⟩ := new2_at f (.cells (bytesV fL) tB false false) (.cells (bytesV allL) tB false false)
  refine mark_is10 rfl h2 ?_
  (repeat(first|refine pSeq ?_|refine pReg ?_|refine sCons ?_|refine sNil ?_|refine pRet ?_|refine gNone ?_|refine gOn rfl ?_|refine gOff rfl rfl ?_|refine gTup rfl ?_))
  have hk1 := (hG.nil c1)
  clear h1 h2
  obtain ⟨h1, h2⟩ := two_slc f fL allL
  refine (base32_w hk1 f1 h1.1 (by decide)).mono fun v s2 q => ?_
  obtain ⟨rfl, d2⟩ := q
  replace c1 := c1.nil d2
  have f2 := d2.fine f1
  have hk2 := hk1.nil d2
  replace h1 := h1.chg d2 (by simp)
  replace h2 := h2.chg d2 (by simp)
  (repeat(first|refine pSeq ?_|refine pReg ?_|refine sCons ?_|refine sNil ?_|refine pRet ?_|refine gNone ?_|refine gOn rfl ?_|refine gOff rfl rfl ?_|refine gTup rfl ?_))
  intro q hq
  obtain rfl : q = true := by rw [hq, ex5.1]; rfl
  (repeat(first|refine pSeq ?_|refine pReg ?_|refine sCons ?_|refine sNil ?_|refine pRet ?_|refine gNone ?_|refine gOn rfl ?_|refine gOff rfl rfl ?_|refine gTup rfl ?_))
  refine (base64_w hk2 f2 h1.1 (by decide)).mono fun v s3 q => ?_
  obtain ⟨rfl, d3⟩ := q
  replace c1 := c1.nil d3
  have f3 := d3.fine f2
  have hk3 := hk2.nil d3
  replace h1 := h1.chg d3 (by simp)
  replace h2 := h2.chg d3 (by simp)
  (repeat(first|refine pSeq ?_|refine pReg ?_|refine sCons ?_|refine sNil ?_|refine pRet ?_|refine gNone ?_|refine gOn rfl ?_|refine gOff rfl rfl ?_|refine gTup rfl ?_))
  intro q hq
  obtain rfl : q = true := by rw [hq, ex5.2.1]; rfl
  (repeat(first|refine pSeq ?_|refine pReg ?_|refine sCons ?_|refine sNil ?_|refine pRet ?_|refine gNone ?_|refine gOn rfl ?_|refine gOff rfl rfl ?_|refine gTup rfl ?_))
  refine (hex_w11 hk3 f3 h1.1 (by decide)).mono fun v s4 q => ?_
  obtain ⟨rfl, d4⟩ := q
  replace c1 := c1.nil d4
  have f4 := d4.fine f3
  have hk4 := hk3.nil d4
  replace h1 := h1.chg d4 (by simp)
  replace h2 := h2.chg d4 (by simp)
  (repeat(first|refine pSeq ?_|refine pReg ?_|refine sCons ?_|refine sNil ?_|refine pRet ?_|refine gNone ?_|refine gOn rfl ?_|refine gOff rfl rfl ?_|refine gTup rfl ?_))
  intro q hq
  obtain rfl : q = true := by rw [hq, ex5.2.2]; rfl
  (repeat(first|refine pSeq ?_|refine pReg ?_|refine sCons ?_|refine sNil ?_|refine pRet ?_|refine gNone ?_|refine gOn rfl ?_|refine gOff rfl rfl ?_|refine gTup rfl ?_))
  refine (base32_w hk4 f4 h2.1 (by decide)).mono fun v s5 q => ?_
  obtain ⟨rfl, d5⟩ := q
  replace c1 := c1.nil d5
  have f5 := d5.fine f4
  have hk5 := hk4.nil d5
  replace h1 := h1.chg d5 (by simp)
  replace h2 := h2.chg d5 (by simp)
  (repeat(first|refine pSeq ?_|refine pReg ?_|refine sCons ?_|refine sNil ?_|refine pRet ?_|refine gNone ?_|refine gOn rfl ?_|refine gOff rfl rfl ?_|refine gTup rfl ?_))
  intro q hq
  obtain rfl : q = true := by rw [hq, ex6.1]; rfl
  (repeat(first|refine pSeq ?_|refine pReg ?_|refine sCons ?_|refine sNil ?_|refine pRet ?_|refine gNone ?_|refine gOn rfl ?_|refine gOff rfl rfl ?_|refine gTup rfl ?_))
  refine (base64_w hk5 f5 h2.1 (by decide)).mono fun v s6 q => ?_
  obtain ⟨rfl, d6⟩ := q
  replace c1 := c1.nil d6
  have f6 := d6.fine f5
  have hk6 := hk5.nil d6
  replace h1 := h1.chg d6 (by simp)
  replace h2 := h2.chg d6 (by simp)
  (repeat(first|refine pSeq ?_|refine pReg ?_|refine sCons ?_|refine sNil ?_|refine pRet ?_|refine gNone ?_|refine gOn rfl ?_|refine gOff rfl rfl ?_|refine gTup rfl ?_))
  intro q hq
  obtain rfl : q = true := by rw [hq, ex6.2.1]; rfl
  (repeat(first|refine pSeq ?_|refine pReg ?_|refine sCons ?_|refine sNil ?_|refine pRet ?_|refine gNone ?_|refine gOn rfl ?_|refine gOff rfl rfl ?_|refine gTup rfl ?_))
  refine (hex_w11 hk6 f6 h2.1 (by decide)).mono fun v s7 q => ?_
  obtain ⟨rfl, d7⟩ := q
  replace c1 := c1.nil d7
  have f7 := d7.fine f6
  have hk7 := hk6.nil d7
  replace h1 := h1.chg d7 (by simp)
  replace h2 := h2.chg d7 (by simp)
  (repeat(first|refine pSeq ?_|refine pReg ?_|refine sCons ?_|refine sNil ?_|refine pRet ?_|refine gNone ?_|refine gOn rfl ?_|refine gOff rfl rfl ?_|refine gTup rfl ?_))
  intro q hq
  obtain rfl : q = true := by rw [hq, ex6.2.2]; rfl
  (repeat(first|refine pSeq ?_|refine pReg ?_|refine sCons ?_|refine sNil ?_|refine pRet ?_|refine gNone ?_|refine gOn rfl ?_|refine gOff rfl rfl ?_|refine gTup rfl ?_))
  exact ⟨rfl, c1⟩
end Go.Vf.S
