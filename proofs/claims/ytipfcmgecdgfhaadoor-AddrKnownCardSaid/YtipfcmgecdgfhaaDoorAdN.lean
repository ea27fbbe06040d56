import Derived.Test.YtipfcmgecdgfhaaDoorAdM
import Derived.Test.YtipfcmgecdgfhaaDoorAdS
import Derived.Test.YtipfcmgecdgfhaaDoorFn2
import Derived.Test.YtipfcmgecdgfhaaDoorEngBe
/- The library's case, folds and replacements; an address that is made. -/
namespace Go.Vf.S
open Go Go.Vf Go.Proofs Go.RowKit
attribute [local irreducible] wSeq wRow wp wG
set_option linter.unusedVariables false
set_option linter.unusedSimpArgs false
set_option maxRecDepth 10000

abbrev gMx : Nat := 4
/-- The library's own number lies there. -/
def Gx (s : SS) : Prop := gMx < s.gl ∧ gMx < s.next ∧ ∃ m, lookH s.heap gMx = some (.cells [.int .i64 m] 3 false true)
theorem Gx.chg {s s' : SS} (h : Gx s) (c : Chg s s' []) : Gx s' := by
  obtain ⟨h1, h2, m, h3⟩ := h
  exact ⟨by rw [c.gl]; exact h1, Nat.lt_of_lt_of_le h2 c.next, m, c.blk _ _ h2 (by simp) h3⟩

theorem lrel_1 {ρ : Ren} {a : Value} {args' : List Value} (h : LRel ρ [a] args') : ∃ v1, args' = [v1] ∧ VRel ρ a v1 := by
  obtain ⟨h1, h2⟩ := h
  match args', h1 with
  | [v1], _ => exact ⟨v1, rfl, h2 0 _ _ rfl rfl⟩
theorem lrel_2 {ρ : Ren} {a b : Value} {args' : List Value} (h : LRel ρ [a, b] args') : ∃ v1 v2, args' = [v1, v2] ∧ VRel ρ a v1 ∧ VRel ρ b v2 := by
  obtain ⟨h1, h2⟩ := h
  match args', h1 with
  | [v1, v2], _ => exact ⟨v1, v2, rfl, h2 0 _ _ rfl rfl, h2 1 _ _ rfl rfl⟩
theorem lrel_3 {ρ : Ren} {a b c : Value} {args' : List Value} (h : LRel ρ [a, b, c] args') : ∃ v1 v2 v3, args' = [v1, v2, v3] ∧ VRel ρ a v1 ∧ VRel ρ b v2 ∧ VRel ρ c v3 := by
  obtain ⟨h1, h2⟩ := h
  match args', h1 with
  | [v1, v2, v3], _ => exact ⟨v1, v2, v3, rfl, h2 0 _ _ rfl rfl, h2 1 _ _ rfl rfl, h2 2 _ _ rfl rfl⟩

def asc (l : List UInt8) : Prop := ∀ c ∈ l, c.toNat < 128
theorem asc_at {l : List UInt8} (h : asc l) : ∀ (j : Nat) (b : UInt8), (⟨⟨l⟩⟩ : ByteArray).data.toList[j]? = some b → b.toNat < 128 := fun j b hb => h b (List.mem_of_getElem? hb)

theorem toUpper_w {s : SS} {l : List UInt8} (hl : l.length ≤ 1000000) (ha : asc l) : CallW pr 21 [str l] s fun v s' => v = str (l.map Lib.upperB) ∧ s' = s := by
  refine CallW.kit rfl fun B w0 ρ args' w H hr => ?_
  obtain ⟨v1, rfl, q1⟩ := lrel_1 hr
  obtain rfl := str_inv q1
  exact Any.strings_ToUpper_ascii Tryd.lays158 Tryd.Builder_Extra_158 ⟨⟨l⟩⟩ w (by show l.length ≤ _; omega) (asc_at ha)
theorem toLower_w {s : SS} {l : List UInt8} (hl : l.length ≤ 1000000) (ha : asc l) : CallW pr 29 [str l] s fun v s' => v = str (l.map Lib.lowerB) ∧ s' = s := by
  refine CallW.kit rfl fun B w0 ρ args' w H hr => ?_
  obtain ⟨v1, rfl, q1⟩ := lrel_1 hr
  obtain rfl := str_inv q1
  exact Any.strings_ToLower_ascii Tryd.lays159 Tryd.Builder_Extra_159 ⟨⟨l⟩⟩ w (by show l.length ≤ _; omega) (asc_at ha)
theorem equalFold_w {s : SS} {l m : List UInt8} (hl : l.length ≤ 1000000) (ha : asc l) (hm : asc m) : CallW pr 23 [str l, str m] s fun v s' => v = .bool (Lib.equalFold l m) ∧ s' = s := by
  refine CallW.kit rfl fun B w0 ρ args' w H hr => ?_
  obtain ⟨v1, v2, rfl, q1, q2⟩ := lrel_2 hr
  obtain rfl := str_inv q1
  obtain rfl := str_inv q2
  exact (Any.strings_EqualFold Tryd.lays164 ⟨⟨l⟩⟩ ⟨⟨m⟩⟩ w (by show l.length < _; omega) (asc_at ha) (asc_at hm)).mono fun e w' ⟨q, r⟩ => ⟨q, by rw [r]; exact Below.refl _ _⟩
theorem count_le (sub : List UInt8) : ∀ (n : Nat) (l : List UInt8), Lib.countFrom sub n l ≤ n
  | 0, _ => by unfold Lib.countFrom; exact Nat.le_refl _
  | n + 1, l => by
    unfold Lib.countFrom
    split
    · omega
    · have := count_le sub n (l.drop ((Lib.index l sub).toNat + sub.length))
      omega
theorem replace_w {s : SS} {l new : List UInt8} {a b : UInt8} (hM : Gx s) (hl : l.length ≤ 1000) (hn : new.length ≤ 3) (hne : [a, b] ≠ new) : CallW pr 37 [str l, str [a, b], str new] s fun v s' => v = str (rep a b new l) ∧ s' = s := by
  refine CallW.kit rfl fun B w0 ρ args' w H hr => ?_
  obtain ⟨v1, v2, v3, rfl, q1, q2, q3⟩ := lrel_3 hr
  obtain rfl := str_inv q1
  obtain rfl := str_inv q2
  obtain rfl := str_inv q3
  obtain ⟨g1, g2, m, g4⟩ := hM
  obtain ⟨e, he, hb, ho⟩ := H.glob gMx g1
  obtain ⟨v', p1, p2⟩ := H.cellAt g4 he (off := 0) rfl
  rw [hb, ho, int_inv p2] at p1
  have hc : Lib.countB ⟨⟨l⟩⟩ ⟨⟨[a, b]⟩⟩ ≤ 1001 := Nat.le_trans (count_le [a, b] (l.length + 1) l) (by omega)
  have := Any.strings_ReplaceAll Tryd.lays155 Tryd.Builder_Extra_155 ⟨⟨l⟩⟩ ⟨⟨[a, b]⟩⟩ ⟨⟨new⟩⟩ m w (by show l.length < _; omega) p1 (by show 1 ≤ 2; omega) (by
    show l.length + Lib.countB ⟨⟨l⟩⟩ ⟨⟨[a, b]⟩⟩ * new.length ≤ _
    have : Lib.countB ⟨⟨l⟩⟩ ⟨⟨[a, b]⟩⟩ * new.length ≤ 1001 * 3 := Nat.mul_le_mul hc hn
    omega)
  rw [← replace_rep hne]
  exact this
theorem trimSuffix_w {s : SS} {l b : List UInt8} (hl : l.length ≤ 1000000) : CallW pr n_strings_TrimSuffix [str l, str b] s fun v s' => v = str (if b <:+ l then l.take (l.length - b.length) else l) ∧ s' = s := by
  refine CallW.run good ok_strings_TrimSuffix (by simp) rfl ?_
  (repeat(first|refine pSeq ?_|refine pReg ?_|refine sCons ?_|refine sNil ?_|refine pSkip ?_|refine pRet ?_|refine pCond ?_|refine gNone ?_))
  refine (show CallW pr n_internal_stringslite_TrimSuffix [str l, str b] s fun v s' => v = str (if b <:+ l then l.take (l.length - b.length) else l) ∧ s' = s from ?_).mono fun v s q => ?_
  · refine CallW.run good ok_internal_stringslite_TrimSuffix (by simp) rfl ?_
    (repeat(first|refine pSeq ?_|refine pReg ?_|refine sCons ?_|refine sNil ?_|refine pSkip ?_|refine pRet ?_|refine pCond ?_|refine gNone ?_))
    refine (ssuffix_w hl).mono fun v s q => ?_
    obtain ⟨rfl, rfl⟩ := q
    by_cases h : b <:+ l
    · have := h.length_le
      rw [decide_eq_true h, if_pos h]
      (repeat(first|refine pSeq ?_|refine pReg ?_|refine sCons ?_|refine sNil ?_|refine pSkip ?_|refine pRet ?_|refine pCond ?_|refine gNone ?_))
      intro n hn
      (repeat(first|refine pSeq ?_|refine pReg ?_|refine sCons ?_|refine sNil ?_|refine pSkip ?_|refine pRet ?_|refine pCond ?_|refine gNone ?_))
      intro n2 hn2
      (repeat(first|refine pSeq ?_|refine pReg ?_|refine sCons ?_|refine sNil ?_|refine pSkip ?_|refine pRet ?_|refine pCond ?_|refine gNone ?_))
      intro z hz
      rw [i64_id (by omega)] at hz
      (repeat(first|refine pSeq ?_|refine pReg ?_|refine sCons ?_|refine sNil ?_|refine pSkip ?_|refine pRet ?_|refine pCond ?_|refine gNone ?_))
      refine ⟨by omega, ?_⟩
      intro m hm r hr
      obtain rfl : m = l.length - b.length := by omega
      rw [List.drop_zero, Nat.sub_zero] at hr
      subst hr
      (repeat(first|refine pSeq ?_|refine pReg ?_|refine sCons ?_|refine sNil ?_|refine pSkip ?_|refine pRet ?_|refine pCond ?_|refine gNone ?_))
      exact ⟨rfl, rfl⟩
    · rw [decide_eq_false h, if_neg h]
      (repeat(first|refine pSeq ?_|refine pReg ?_|refine sCons ?_|refine sNil ?_|refine pSkip ?_|refine pRet ?_|refine pCond ?_|refine gNone ?_))
      exact ⟨rfl, rfl⟩
  obtain ⟨rfl, rfl⟩ := q
  (repeat(first|refine pSeq ?_|refine pReg ?_|refine sCons ?_|refine sNil ?_|refine pSkip ?_|refine pRet ?_|refine pCond ?_|refine gNone ?_))
  exact ⟨rfl, rfl⟩

/-- Byte by byte so far. -/
def mixI (f : Nat → UInt8 → UInt8) (l : List UInt8) (p : Nat) : List UInt8 := (l.mapIdx f).take p ++ l.drop p
theorem mixI_len (f : Nat → UInt8 → UInt8) (l : List UInt8) (p : Nat) : (mixI f l p).length = l.length := by simp [mixI]; omega
theorem mixI_0 (f : Nat → UInt8 → UInt8) (l : List UInt8) : mixI f l 0 = l := by simp [mixI]
theorem mixI_end {f : Nat → UInt8 → UInt8} {l : List UInt8} {p : Nat} (h : l.length ≤ p) : mixI f l p = l.mapIdx f := by
  unfold mixI
  rw [List.drop_of_length_le h, List.append_nil, List.take_of_length_le (by simpa using h)]
theorem mixI_next {f : Nat → UInt8 → UInt8} {l : List UInt8} {p : Nat} {c : UInt8} (h : l[p]? = some c) : mixI f l (p + 1) = (mixI f l p).set p (f p c) := by
  have hp := lt_of_get h
  unfold mixI
  rw [drop_next h, take_next (c := f p c) (by rw [List.getElem?_mapIdx, h]; rfl), List.set_append_right _ _ (by simp; omega)]
  have e : ((l.mapIdx f).take p).length = p := by simp; omega
  rw [e, Nat.sub_self, List.append_assoc]
  rfl
theorem mixI_at {f : Nat → UInt8 → UInt8} {l : List UInt8} {p : Nat} {c : UInt8} (h : l[p]? = some c) : (mixI f l p)[p]? = some c := by
  have hp := lt_of_get h
  unfold mixI
  have e : ((l.mapIdx f).take p).length = p := by simp; omega
  rw [List.getElem?_append_right (by omega), e, Nat.sub_self, drop_next h]
  rfl
theorem bytes_get {l : List UInt8} {p : Nat} {c : UInt8} (h : l[p]? = some c) : (bytesV l)[p]? = some (.int .u8 c.toNat) := by
  rw [bytesV, List.getElem?_map, h]; rfl
theorem bytes_set {l : List UInt8} {p : Nat} (h : p < l.length) (c : UInt8) : setRow (bytesV l) p [.int .u8 c.toNat] = some (bytesV (l.set p c)) := by
  rw [setRow_one (by rw [bytesV_len]; exact h)]
  simp [bytesV, List.map_set]
theorem alpha_lit (c : UInt8) : ([97, 98, 99, 100, 101, 65, 66, 67, 68, 69, 48, 49, 57, 45] : List UInt8)[c.toNat % 14]? = some (alpha c) := alpha_get c
theorem plainC_nat (c : UInt8) : (plainC c).toNat = 32 + c.toNat % 95 := by
  unfold plainC
  have := Nat.mod_lt c.toNat (show 0 < 95 by omega)
  rw [UInt8.toNat_ofNat']
  omega
theorem mark_is {P : Program} {T : TL} {s : SS} {K : RR → Prop} {x : Operand} {b off l c : Nat} {cs : List Value} {e : TypeId} (hx : opd T s.gl x = some (.slice (some ⟨b, off, none⟩) l c)) (hb : lookH s.heap b = some (.cells cs e false false)) (h : K (.eff (.slice (some ⟨b, off, none⟩) l c) s)) : wN P (.mark x) T s K := by
  simp only [wN, hx, hb]
  exact h
theorem mapIdx_const (f : UInt8 → UInt8) (l : List UInt8) : l.mapIdx (fun _ => f) = l.map f := by
  refine List.ext_getElem? fun i => ?_
  rw [List.getElem?_mapIdx, List.getElem?_map]

set_option maxHeartbeats 2000000 in
theorem made_w {s : SS} {a d : List UInt8} (hM : Gx s) (hF : Fine s) : CallW pr n_law05_Made [adV a d] s fun v s' => v = adV (madeL a) (madeD d) ∧ Chg s s' [] := by
  refine CallW.run good ok_law05_Made (by simp) rfl ?_
  (repeat(first|refine pSeq ?_|refine pReg ?_|refine sCons ?_|refine sNil ?_|refine rCons ?_|refine rNil ?_|refine kNo ?_|refine pRow ?_|refine pBlock ?_|refine pSkip ?_|refine pExit ?_|refine pRet ?_|refine pCond ?_|refine gNone ?_))
  have c0 : Chg s ⟨(s.next + 1, some (.cells [str [], str []] tAd false false)) :: (s.next, some (.cells [str a, str d] tAd false false)) :: s.heap, s.next + 1 + 1, s.gl⟩ [] := (Chg.new []).nil (.new _)
  have k0 : lookH ((s.next + 1, some (.cells [str [], str []] tAd false false)) :: (s.next, some (.cells [str a, str d] tAd false false)) :: s.heap) s.next = some (.cells [str a, str d] tAd false false) := lkT (show s.next + 1 ≠ s.next by omega) lkH
  refine ldS_is rfl k0 rfl ?_
  (repeat(first|refine pSeq ?_|refine pReg ?_|refine sCons ?_|refine sNil ?_|refine rCons ?_|refine rNil ?_|refine kNo ?_|refine pRow ?_|refine pBlock ?_|refine pSkip ?_|refine pExit ?_|refine pRet ?_|refine pCond ?_|refine gNone ?_))
  refine ldS_is rfl k0 rfl ?_
  (repeat(first|refine pSeq ?_|refine pReg ?_|refine sCons ?_|refine sNil ?_|refine rCons ?_|refine rNil ?_|refine kNo ?_|refine pRow ?_|refine pBlock ?_|refine pSkip ?_|refine pExit ?_|refine pRet ?_|refine pCond ?_|refine gNone ?_))
  intro n hn
  (repeat(first|refine pSeq ?_|refine pReg ?_|refine sCons ?_|refine sNil ?_|refine rCons ?_|refine rNil ?_|refine kNo ?_|refine pRow ?_|refine pBlock ?_|refine pSkip ?_|refine pExit ?_|refine pRet ?_|refine pCond ?_|refine gNone ?_))
  intro z hz
  (repeat(first|refine pSeq ?_|refine pReg ?_|refine sCons ?_|refine sNil ?_|refine rCons ?_|refine rNil ?_|refine kNo ?_|refine pRow ?_|refine pBlock ?_|refine pSkip ?_|refine pExit ?_|refine pRet ?_|refine pCond ?_|refine gNone ?_))
  refine ⟨by omega, ?_⟩
  intro m hm x hx
  have ex : x = a.take 64 := by
    rw [hx, List.drop_zero, Nat.sub_zero]
    rcases Nat.lt_or_ge a.length 64 with q | q
    · rw [List.take_of_length_le (by omega), List.take_of_length_le (by omega)]
    · rw [show m = 64 by omega]
  clear hx
  subst ex
  have hL : madeL a = if a.take 64 = [] then [97] else (a.take 64).mapIdx (fun _ => plainC) := by unfold madeL; rw [mapIdx_const]
  have hlen : (a.take 64).length ≤ 64 := by rw [List.length_take]; omega
  generalize a.take 64 = l at *
  (repeat(first|refine pSeq ?_|refine pReg ?_|refine sCons ?_|refine sNil ?_|refine rCons ?_|refine rNil ?_|refine kNo ?_|refine pRow ?_|refine pBlock ?_|refine pSkip ?_|refine pExit ?_|refine pRet ?_|refine pCond ?_|refine gNone ?_))
  refine ⟨by omega, ?_⟩
  (repeat(first|refine pSeq ?_|refine pReg ?_|refine sCons ?_|refine sNil ?_|refine rCons ?_|refine rNil ?_|refine kNo ?_|refine pRow ?_|refine pBlock ?_|refine pSkip ?_|refine pExit ?_|refine pRet ?_|refine pCond ?_|refine gNone ?_))
  generalize hs0 : (⟨(s.next + 1 + 1, some (.cells (bytesV l) tB true false)) :: (s.next + 1, some (.cells [str [], str []] tAd false false)) :: (s.next, some (.cells [str a, str d] tAd false false)) :: s.heap, s.next + 1 + 1 + 1, s.gl⟩ : SS) = s0
  have n0 : s0.next = s.next + 1 + 1 + 1 := by rw [← hs0]
  have d0 : Chg s s0 [] := by rw [← hs0]; exact c0.nil (.new _)
  have ka : lookH s0.heap s.next = some (.cells [str a, str d] tAd false false) := by rw [← hs0]; exact lkT (show s.next + 1 + 1 ≠ s.next by omega) k0
  have kr : lookH s0.heap (s.next + 1) = some (.cells [str [], str []] tAd false false) := by rw [← hs0]; exact lkT (show s.next + 1 + 1 ≠ s.next + 1 by omega) lkH
  have kb : lookH s0.heap (s.next + 1 + 1) = some (.cells (bytesV l) tB true false) := by rw [← hs0]; exact lkH
  refine pLoop (MW.head good (fun x : SIt => l.length - x.i) (fun x => x.i ≤ l.length ∧ Chg s0 x.s [s.next + 1 + 1] ∧ lookH x.s.heap (s.next + 1 + 1) = some (.cells (bytesV (mixI (fun _ => plainC) l x.i)) tB true false))
    (fun x => [(1, .pointer (some ⟨s.next, 0, none⟩)), (2, .pointer (some ⟨s.next + 1, 0, none⟩)), (3, .slice (some ⟨s.next + 1 + 1, 0, none⟩) l.length 0), (17, .int .i64 l.length), (18, .int .i64 x.i)]) (fun x => x.s) ⟨0, s0⟩ ⟨Nat.zero_le _, .refl _ _, by rw [mixI_0]; exact kb⟩ (by rw [← hs0]; exact Wk.same ⟨rfl, rfl, rfl, rfl, rfl, trivial⟩) ?_)
  intro ⟨i, s1⟩ ⟨hi, c1, hb1⟩
  dsimp only at hi c1 hb1 ⊢
  have n1 := c1.next
  (repeat(first|refine pSeq ?_|refine pReg ?_|refine sCons ?_|refine sNil ?_|refine rCons ?_|refine rNil ?_|refine kNo ?_|refine pRow ?_|refine pBlock ?_|refine pSkip ?_|refine pExit ?_|refine pRet ?_|refine pCond ?_|refine gNone ?_))
  intro q hq
  by_cases hlt : i < l.length
  · obtain rfl : q = true := by rw [hq]; simp <;> omega
    obtain ⟨c, hc⟩ : ∃ c, l[i]? = some c := ⟨_, List.getElem?_eq_getElem hlt⟩
    have c95 := Nat.mod_lt c.toNat (show 0 < 95 by omega)
    (repeat(first|refine pSeq ?_|refine pReg ?_|refine sCons ?_|refine sNil ?_|refine rCons ?_|refine rNil ?_|refine kNo ?_|refine pRow ?_|refine pBlock ?_|refine pSkip ?_|refine pExit ?_|refine pRet ?_|refine pCond ?_|refine gNone ?_))
    refine ⟨by omega, ?_⟩
    intro m hm o ho
    obtain rfl : m = i := by omega
    (repeat(first|refine pSeq ?_|refine pReg ?_|refine sCons ?_|refine sNil ?_|refine rCons ?_|refine rNil ?_|refine kNo ?_|refine pRow ?_|refine pBlock ?_|refine pSkip ?_|refine pExit ?_|refine pRet ?_|refine pCond ?_|refine gNone ?_))
    refine ldI_is rfl hb1 (by rw [ho, Nat.zero_add, Nat.mul_one]; exact bytes_get (mixI_at hc)) ?_
    (repeat(first|refine pSeq ?_|refine pReg ?_|refine sCons ?_|refine sNil ?_|refine rCons ?_|refine rNil ?_|refine kNo ?_|refine pRow ?_|refine pBlock ?_|refine pSkip ?_|refine pExit ?_|refine pRet ?_|refine pCond ?_|refine gNone ?_))
    refine ⟨by omega, ?_⟩
    intro z hz
    have hz : z = ((c.toNat % 95 : Nat) : Int) := hz
    (repeat(first|refine pSeq ?_|refine pReg ?_|refine sCons ?_|refine sNil ?_|refine rCons ?_|refine rNil ?_|refine kNo ?_|refine pRow ?_|refine pBlock ?_|refine pSkip ?_|refine pExit ?_|refine pRet ?_|refine pCond ?_|refine gNone ?_))
    intro z2 hz2
    rw [u8_id (by omega)] at hz2
    obtain rfl : z2 = ((plainC c).toNat : Int) := by rw [plainC_nat]; omega
    (repeat(first|refine pSeq ?_|refine pReg ?_|refine sCons ?_|refine sNil ?_|refine rCons ?_|refine rNil ?_|refine kNo ?_|refine pRow ?_|refine pBlock ?_|refine pSkip ?_|refine pExit ?_|refine pRet ?_|refine pCond ?_|refine gNone ?_))
    refine ⟨by omega, ?_⟩
    intro m2 hm2 o2 ho2
    obtain rfl : m2 = m := by omega
    (repeat(first|refine pSeq ?_|refine pReg ?_|refine sCons ?_|refine sNil ?_|refine rCons ?_|refine rNil ?_|refine kNo ?_|refine pRow ?_|refine pBlock ?_|refine pSkip ?_|refine pExit ?_|refine pRet ?_|refine pCond ?_|refine gNone ?_))
    refine st_abs (cs' := bytesV (mixI (fun _ => plainC) l (m2 + 1))) rfl rfl hb1 (by omega) rfl (by
      rw [ho2, Nat.zero_add, Nat.mul_one, mixI_next hc]
      exact bytes_set (by rw [mixI_len]; exact hlt) _) fun s2 e2 c2 n2 => ?_
    (repeat(first|refine pSeq ?_|refine pReg ?_|refine sCons ?_|refine sNil ?_|refine rCons ?_|refine rNil ?_|refine kNo ?_|refine pRow ?_|refine pBlock ?_|refine pSkip ?_|refine pExit ?_|refine pRet ?_|refine pCond ?_|refine gNone ?_))
    intro z3 hz3
    rw [i64_id (by omega)] at hz3
    obtain rfl : z3 = ((m2 + 1 : Nat) : Int) := by omega
    (repeat(first|refine pSeq ?_|refine pReg ?_|refine sCons ?_|refine sNil ?_|refine rCons ?_|refine rNil ?_|refine kNo ?_|refine pRow ?_|refine pBlock ?_|refine pSkip ?_|refine pExit ?_|refine pRet ?_|refine pCond ?_|refine gNone ?_))
    exact ⟨⟨m2 + 1, s2⟩, ⟨hlt, c1.same c2, e2⟩, by show l.length - (m2 + 1) < l.length - m2; omega, Wk.same ⟨rfl, rfl, rfl, rfl, rfl, trivial⟩⟩
  · obtain rfl : q = false := by rw [hq]; simp <;> omega
    rw [mixI_end (by omega)] at hb1
    have ka1 := c1.blk s.next _ (by omega) (by simp; omega) ka
    have kr1 := c1.blk (s.next + 1) _ (by omega) (by simp) kr
    have d1 : Chg s s1 [] := d0.fresh c1 (by simp; omega)
    (repeat(first|refine pSeq ?_|refine pReg ?_|refine sCons ?_|refine sNil ?_|refine rCons ?_|refine rNil ?_|refine kNo ?_|refine pRow ?_|refine pBlock ?_|refine pSkip ?_|refine pExit ?_|refine pRet ?_|refine pCond ?_|refine gNone ?_))
    intro q hq
    by_cases he : l = []
    · have hl0 : l.length = 0 := by rw [he]; rfl
      obtain rfl : q = true := by rw [hq, hl0]; rfl
      have eM : madeL a = [97] := by rw [hL, if_pos he]
      (repeat(first|refine pSeq ?_|refine pReg ?_|refine sCons ?_|refine sNil ?_|refine rCons ?_|refine rNil ?_|refine kNo ?_|refine pRow ?_|refine pBlock ?_|refine pSkip ?_|refine pExit ?_|refine pRet ?_|refine pCond ?_|refine gNone ?_))
      refine mark_is rfl lkH ?_
      generalize hs3 : (⟨(s1.next, some (.cells [.int .u8 97] tB false false)) :: s1.heap, s1.next + 1, s1.gl⟩ : SS) = s3
      have n3 : s3.next = s1.next + 1 := by rw [← hs3]
      have d13 : Chg s1 s3 [] := by rw [← hs3]; exact .new _
      have d3 := d1.nil d13
      have ka3 := d13.blk s.next _ (by omega) (by simp) ka1
      have kr3 := d13.blk (s.next + 1) _ (by omega) (by simp) kr1
      have k3 : lookH s3.heap s1.next = some (.cells (bytesV [97]) tB false false) := by rw [← hs3]; exact lkH
      have r3 : Rdb s3 (some ⟨s1.next, 0, none⟩) (madeL a).length (madeL a) := by rw [eM]; exact rdb_lit k3 (by omega)
      (repeat(first|refine pSeq ?_|refine pReg ?_|refine sCons ?_|refine sNil ?_|refine rCons ?_|refine rNil ?_|refine kNo ?_|refine pRow ?_|refine pBlock ?_|refine pSkip ?_|refine pExit ?_|refine pRet ?_|refine pCond ?_|refine gNone ?_))
      refine ldS_is rfl ka3 rfl ?_
      (repeat(first|refine pSeq ?_|refine pReg ?_|refine sCons ?_|refine sNil ?_|refine rCons ?_|refine rNil ?_|refine kNo ?_|refine pRow ?_|refine pBlock ?_|refine pSkip ?_|refine pExit ?_|refine pRet ?_|refine pCond ?_|refine gNone ?_))
      refine ldS_is rfl ka3 rfl ?_
      (repeat(first|refine pSeq ?_|refine pReg ?_|refine sCons ?_|refine sNil ?_|refine rCons ?_|refine rNil ?_|refine kNo ?_|refine pRow ?_|refine pBlock ?_|refine pSkip ?_|refine pExit ?_|refine pRet ?_|refine pCond ?_|refine gNone ?_))
      intro n hn
      (repeat(first|refine pSeq ?_|refine pReg ?_|refine sCons ?_|refine sNil ?_|refine rCons ?_|refine rNil ?_|refine kNo ?_|refine pRow ?_|refine pBlock ?_|refine pSkip ?_|refine pExit ?_|refine pRet ?_|refine pCond ?_|refine gNone ?_))
      intro z hz
      (repeat(first|refine pSeq ?_|refine pReg ?_|refine sCons ?_|refine sNil ?_|refine rCons ?_|refine rNil ?_|refine kNo ?_|refine pRow ?_|refine pBlock ?_|refine pSkip ?_|refine pExit ?_|refine pRet ?_|refine pCond ?_|refine gNone ?_))
      refine ⟨by omega, ?_⟩
      intro m hm y hy
      have ey : y = d.take 60 := by
        rw [hy, List.drop_zero, Nat.sub_zero]
        rcases Nat.lt_or_ge d.length 60 with q | q
        · rw [List.take_of_length_le (by omega), List.take_of_length_le (by omega)]
        · rw [show m = 60 by omega]
      clear hy
      subst ey
      have hN : nameL d = (d.take 60).mapIdx nameC := rfl
      have hRn : replL d = repC (repB (repA (nameL d ++ [46]))) := rfl
      have hNl := name_len d
      have hlen2 : (d.take 60).length ≤ 60 := by rw [List.length_take]; omega
      generalize d.take 60 = l2 at *
      (repeat(first|refine pSeq ?_|refine pReg ?_|refine sCons ?_|refine sNil ?_|refine rCons ?_|refine rNil ?_|refine kNo ?_|refine pRow ?_|refine pBlock ?_|refine pSkip ?_|refine pExit ?_|refine pRet ?_|refine pCond ?_|refine gNone ?_))
      refine ⟨by omega, ?_⟩
      (repeat(first|refine pSeq ?_|refine pReg ?_|refine sCons ?_|refine sNil ?_|refine rCons ?_|refine rNil ?_|refine kNo ?_|refine pRow ?_|refine pBlock ?_|refine pSkip ?_|refine pExit ?_|refine pRet ?_|refine pCond ?_|refine gNone ?_))
      generalize hs4 : (⟨(s3.next, some (.cells (bytesV l2) tB true false)) :: s3.heap, s3.next + 1, s3.gl⟩ : SS) = s4
      have n4 : s4.next = s3.next + 1 := by rw [← hs4]
      have d4 : Chg s3 s4 [] := by rw [← hs4]; exact .new _
      have kr4 := d4.blk (s.next + 1) _ (by omega) (by simp) kr3
      have kb4 : lookH s4.heap s3.next = some (.cells (bytesV l2) tB true false) := by rw [← hs4]; exact lkH
      have r4 := r3.chg d4 (by simp)
      refine pLoop (MW.head good (fun x : SIt => l2.length - x.i) (fun x => x.i ≤ l2.length ∧ Chg s4 x.s [s3.next] ∧ lookH x.s.heap s3.next = some (.cells (bytesV (mixI nameC l2 x.i)) tB true false))
        (fun x => [(2, .pointer (some ⟨s.next + 1, 0, none⟩)), (3, .slice (some ⟨s1.next, 0, none⟩) (madeL a).length 1), (5, .slice (some ⟨s3.next, 0, none⟩) l2.length 0), (45, .int .i64 l2.length), (46, .int .i64 x.i)]) (fun x => x.s) ⟨0, s4⟩ ⟨Nat.zero_le _, .refl _ _, by rw [mixI_0]; exact kb4⟩ (by rw [← hs4]; exact Wk.same ⟨rfl, by show some _ = some _; rw [eM]; rfl, rfl, rfl, rfl, trivial⟩) ?_)
      intro ⟨i, s5⟩ ⟨hi, c5, hb5⟩
      dsimp only at hi c5 hb5 ⊢
      have n5 := c5.next
      (repeat(first|refine pSeq ?_|refine pReg ?_|refine sCons ?_|refine sNil ?_|refine rCons ?_|refine rNil ?_|refine kNo ?_|refine pRow ?_|refine pBlock ?_|refine pSkip ?_|refine pExit ?_|refine pRet ?_|refine pCond ?_|refine gNone ?_))
      intro q hq
      by_cases hlt : i < l2.length
      · obtain rfl : q = true := by rw [hq]; simp <;> omega
        obtain ⟨c, hc⟩ : ∃ c, l2[i]? = some c := ⟨_, List.getElem?_eq_getElem hlt⟩
        have c14 := Nat.mod_lt c.toNat (show 0 < 14 by omega)
        (repeat(first|refine pSeq ?_|refine pReg ?_|refine sCons ?_|refine sNil ?_|refine rCons ?_|refine rNil ?_|refine kNo ?_|refine pRow ?_|refine pBlock ?_|refine pSkip ?_|refine pExit ?_|refine pRet ?_|refine pCond ?_|refine gNone ?_))
        refine ⟨by omega, ?_⟩
        intro m hm o ho
        obtain rfl : m = i := by omega
        (repeat(first|refine pSeq ?_|refine pReg ?_|refine sCons ?_|refine sNil ?_|refine rCons ?_|refine rNil ?_|refine kNo ?_|refine pRow ?_|refine pBlock ?_|refine pSkip ?_|refine pExit ?_|refine pRet ?_|refine pCond ?_|refine gNone ?_))
        refine ldI_is rfl hb5 (by rw [ho, Nat.zero_add, Nat.mul_one]; exact bytes_get (mixI_at hc)) ?_
        (repeat(first|refine pSeq ?_|refine pReg ?_|refine sCons ?_|refine sNil ?_|refine rCons ?_|refine rNil ?_|refine kNo ?_|refine pRow ?_|refine pBlock ?_|refine pSkip ?_|refine pExit ?_|refine pRet ?_|refine pCond ?_|refine gNone ?_))
        refine ⟨by omega, ?_⟩
        intro z hz
        have hz : z = ((c.toNat % 14 : Nat) : Int) := hz
        (repeat(first|refine pSeq ?_|refine pReg ?_|refine sCons ?_|refine sNil ?_|refine rCons ?_|refine rNil ?_|refine kNo ?_|refine pRow ?_|refine pBlock ?_|refine pSkip ?_|refine pExit ?_|refine pRet ?_|refine pCond ?_|refine gNone ?_))
        refine ⟨⟨by omega, by show z < ((14 : Nat) : Int); omega⟩, ?_⟩
        intro k hk
        obtain rfl : k = c.toNat % 14 := by omega
        refine ⟨alpha c, alpha_lit c, ?_⟩
        (repeat(first|refine pSeq ?_|refine pReg ?_|refine sCons ?_|refine sNil ?_|refine rCons ?_|refine rNil ?_|refine kNo ?_|refine pRow ?_|refine pBlock ?_|refine pSkip ?_|refine pExit ?_|refine pRet ?_|refine pCond ?_|refine gNone ?_))
        refine ⟨by omega, ?_⟩
        intro m2 hm2 o2 ho2
        obtain rfl : m2 = m := by omega
        (repeat(first|refine pSeq ?_|refine pReg ?_|refine sCons ?_|refine sNil ?_|refine rCons ?_|refine rNil ?_|refine kNo ?_|refine pRow ?_|refine pBlock ?_|refine pSkip ?_|refine pExit ?_|refine pRet ?_|refine pCond ?_|refine gNone ?_))
        refine st_abs (cs' := bytesV ((mixI nameC l2 m2).set m2 (alpha c))) rfl rfl hb5 (by omega) rfl (by
          rw [ho2, Nat.zero_add, Nat.mul_one]
          exact bytes_set (by rw [mixI_len]; exact hlt) _) fun s6 e6 c6 n6 => ?_
        (repeat(first|refine pSeq ?_|refine pReg ?_|refine sCons ?_|refine sNil ?_|refine rCons ?_|refine rNil ?_|refine kNo ?_|refine pRow ?_|refine pBlock ?_|refine pSkip ?_|refine pExit ?_|refine pRet ?_|refine pCond ?_|refine gNone ?_))
        refine ⟨by omega, ?_⟩
        intro z3 hz3
        have hz3 : z3 = ((m2 % 9 : Nat) : Int) := hz3
        (repeat(first|refine pSeq ?_|refine pReg ?_|refine sCons ?_|refine sNil ?_|refine rCons ?_|refine rNil ?_|refine kNo ?_|refine pRow ?_|refine pBlock ?_|refine pSkip ?_|refine pExit ?_|refine pRet ?_|refine pCond ?_|refine gNone ?_))
        intro q hq
        by_cases h8 : m2 % 9 = 8
        · obtain rfl : q = true := by rw [hq]; simp; omega
          (repeat(first|refine pSeq ?_|refine pReg ?_|refine sCons ?_|refine sNil ?_|refine rCons ?_|refine rNil ?_|refine kNo ?_|refine pRow ?_|refine pBlock ?_|refine pSkip ?_|refine pExit ?_|refine pRet ?_|refine pCond ?_|refine gNone ?_))
          refine ⟨by omega, ?_⟩
          intro m3 hm3 o3 ho3
          obtain rfl : m3 = m2 := by omega
          (repeat(first|refine pSeq ?_|refine pReg ?_|refine sCons ?_|refine sNil ?_|refine rCons ?_|refine rNil ?_|refine kNo ?_|refine pRow ?_|refine pBlock ?_|refine pSkip ?_|refine pExit ?_|refine pRet ?_|refine pCond ?_|refine gNone ?_))
          refine st_abs (cs' := bytesV (mixI nameC l2 (m3 + 1))) rfl rfl e6 (by omega) rfl (by
            rw [ho3, Nat.zero_add, Nat.mul_one, mixI_next hc, show nameC m3 c = 46 by unfold nameC; rw [if_pos h8]]
            have := bytes_set (l := (mixI nameC l2 m3).set m3 (alpha c)) (p := m3) (by rw [List.length_set, mixI_len]; exact hlt) 46
            rw [List.set_set] at this
            exact this) fun s7 e7 c7 n7 => ?_
          (repeat(first|refine pSeq ?_|refine pReg ?_|refine sCons ?_|refine sNil ?_|refine rCons ?_|refine rNil ?_|refine kNo ?_|refine pRow ?_|refine pBlock ?_|refine pSkip ?_|refine pExit ?_|refine pRet ?_|refine pCond ?_|refine gNone ?_))
          intro z4 hz4
          rw [i64_id (by omega)] at hz4
          obtain rfl : z4 = ((m3 + 1 : Nat) : Int) := by omega
          (repeat(first|refine pSeq ?_|refine pReg ?_|refine sCons ?_|refine sNil ?_|refine rCons ?_|refine rNil ?_|refine kNo ?_|refine pRow ?_|refine pBlock ?_|refine pSkip ?_|refine pExit ?_|refine pRet ?_|refine pCond ?_|refine gNone ?_))
          exact ⟨⟨m3 + 1, s7⟩, ⟨hlt, (c5.same c6).same c7, e7⟩, by show l2.length - (m3 + 1) < l2.length - m3; omega, Wk.same ⟨rfl, rfl, rfl, rfl, rfl, trivial⟩⟩
        · obtain rfl : q = false := by rw [hq]; simp; omega
          (repeat(first|refine pSeq ?_|refine pReg ?_|refine sCons ?_|refine sNil ?_|refine rCons ?_|refine rNil ?_|refine kNo ?_|refine pRow ?_|refine pBlock ?_|refine pSkip ?_|refine pExit ?_|refine pRet ?_|refine pCond ?_|refine gNone ?_))
          intro z4 hz4
          rw [i64_id (by omega)] at hz4
          obtain rfl : z4 = ((m2 + 1 : Nat) : Int) := by omega
          (repeat(first|refine pSeq ?_|refine pReg ?_|refine sCons ?_|refine sNil ?_|refine rCons ?_|refine rNil ?_|refine kNo ?_|refine pRow ?_|refine pBlock ?_|refine pSkip ?_|refine pExit ?_|refine pRet ?_|refine pCond ?_|refine gNone ?_))
          exact ⟨⟨m2 + 1, s6⟩, ⟨hlt, c5.same c6, by rw [e6, mixI_next hc, show nameC m2 c = alpha c by unfold nameC; rw [if_neg h8]]⟩, by show l2.length - (m2 + 1) < l2.length - m2; omega, Wk.same ⟨rfl, rfl, rfl, rfl, rfl, trivial⟩⟩
      · obtain rfl : q = false := by rw [hq]; simp <;> omega
        rw [mixI_end (by omega), ← hN] at hb5
        have kr5 := c5.blk (s.next + 1) _ (by omega) (by simp; omega) kr4
        have d5 : Chg s s5 [] := (d3.nil d4).fresh c5 (by simp; omega)
        have r5 := r4.chg c5 (by intro id hid; have := r3.lt id hid; simp; omega)
        have f5 := d5.fine hF
        have hle : l2.length = (nameL d).length := by rw [hN]; simp
        have g5 := hM.chg d5
        (repeat(first|refine pSeq ?_|refine pReg ?_|refine sCons ?_|refine sNil ?_|refine rCons ?_|refine rNil ?_|refine kNo ?_|refine pRow ?_|refine pBlock ?_|refine pSkip ?_|refine pExit ?_|refine pRet ?_|refine pCond ?_|refine gNone ?_))
        refine toStr_Rdb rfl (by have := rdb_lit hb5 (by omega); rw [← hle] at this; exact this) ?_
        (repeat(first|refine pSeq ?_|refine pReg ?_|refine sCons ?_|refine sNil ?_|refine rCons ?_|refine rNil ?_|refine kNo ?_|refine pRow ?_|refine pBlock ?_|refine pSkip ?_|refine pExit ?_|refine pRet ?_|refine pCond ?_|refine gNone ?_))
        refine ⟨by simp; omega, ?_⟩
        intro u hu
        (repeat(first|refine pSeq ?_|refine pReg ?_|refine sCons ?_|refine sNil ?_|refine rCons ?_|refine rNil ?_|refine kNo ?_|refine pRow ?_|refine pBlock ?_|refine pSkip ?_|refine pExit ?_|refine pRet ?_|refine pCond ?_|refine gNone ?_))
        have ru : u.length ≤ 61 := by rw [hu]; simp; omega
        have lA : (repA u).length = u.length := by have := congrArg List.length (dotsA _ u (Nat.le_refl _)); simpa using this
        have lB : (repB (repA u)).length = u.length := by have := congrArg List.length (dotsB _ (repA u) (Nat.le_refl _)); simp at this; omega
        refine (replace_w (new := [120, 46]) g5 (by omega) (by decide) (by decide)).mono fun v s6 q => ?_
        obtain ⟨rfl, rfl⟩ := q
        (repeat(first|refine pSeq ?_|refine pReg ?_|refine sCons ?_|refine sNil ?_|refine rCons ?_|refine rNil ?_|refine kNo ?_|refine pRow ?_|refine pBlock ?_|refine pSkip ?_|refine pExit ?_|refine pRet ?_|refine pCond ?_|refine gNone ?_))
        refine (replace_w (l := repA u) (new := [46, 121]) g5 (by omega) (by decide) (by decide)).mono fun v s6 q => ?_
        obtain ⟨rfl, rfl⟩ := q
        (repeat(first|refine pSeq ?_|refine pReg ?_|refine sCons ?_|refine sNil ?_|refine rCons ?_|refine rNil ?_|refine kNo ?_|refine pRow ?_|refine pBlock ?_|refine pSkip ?_|refine pExit ?_|refine pRet ?_|refine pCond ?_|refine gNone ?_))
        refine (replace_w (l := repB (repA u)) (new := [46, 122, 46]) g5 (by omega) (by decide) (by decide)).mono fun v s6 q => ?_
        obtain ⟨rfl, rfl⟩ := q
        have eR : rep 46 46 [46, 122, 46] (repB (repA u)) = replL d := by rw [hRn, hu]; rfl
        rw [eR]
        obtain ⟨-, -, -, q4, -, m, hm⟩ := repl_fine d
        have hsuf : [(46 : UInt8)] <:+ replL d := by rw [hm]; exact ⟨m, rfl⟩
        have hdl : (replL d).take ((replL d).length - [(46 : UInt8)].length) = (replL d).dropLast := by rw [List.dropLast_eq_take]; rfl
        (repeat(first|refine pSeq ?_|refine pReg ?_|refine sCons ?_|refine sNil ?_|refine rCons ?_|refine rNil ?_|refine kNo ?_|refine pRow ?_|refine pBlock ?_|refine pSkip ?_|refine pExit ?_|refine pRet ?_|refine pCond ?_|refine gNone ?_))
        refine toStr_Rdb rfl r5 ?_
        (repeat(first|refine pSeq ?_|refine pReg ?_|refine sCons ?_|refine sNil ?_|refine rCons ?_|refine rNil ?_|refine kNo ?_|refine pRow ?_|refine pBlock ?_|refine pSkip ?_|refine pExit ?_|refine pRet ?_|refine pCond ?_|refine gNone ?_))
        refine (trimSuffix_w (l := replL d) (b := [46]) (by omega)).mono fun v s6 q => ?_
        obtain ⟨rfl, rfl⟩ := q
        rw [if_pos hsuf, hdl]
        refine kAll .refl ?_
        (repeat(first|refine pSeq ?_|refine pReg ?_|refine sCons ?_|refine sNil ?_|refine rCons ?_|refine rNil ?_|refine kNo ?_|refine pRow ?_|refine pBlock ?_|refine pSkip ?_|refine pExit ?_|refine pRet ?_|refine pCond ?_|refine gNone ?_))
        refine ⟨by simp; omega, ?_⟩
        intro w hw
        (repeat(first|refine pSeq ?_|refine pReg ?_|refine sCons ?_|refine sNil ?_|refine rCons ?_|refine rNil ?_|refine kNo ?_|refine pRow ?_|refine pBlock ?_|refine pSkip ?_|refine pExit ?_|refine pRet ?_|refine pCond ?_|refine gNone ?_))
        have ew : w = madeD d := hw
        subst ew
        refine st_abs (cs' := [str (madeL a), str (madeD d)]) rfl rfl kr5 (by omega) rfl rfl fun s6 e6 c6 n6 => ?_
        (repeat(first|refine pSeq ?_|refine pReg ?_|refine sCons ?_|refine sNil ?_|refine rCons ?_|refine rNil ?_|refine kNo ?_|refine pRow ?_|refine pBlock ?_|refine pSkip ?_|refine pExit ?_|refine pRet ?_|refine pCond ?_|refine gNone ?_))
        (repeat (first | with_reducible refine sqRet ?_ | with_reducible refine bkRet ?_ | with_reducible refine hdRet ?_))
        exact ret_cell1 agg_Ad sz_Ad rfl e6 agg2 ⟨rfl, d5.fresh c6 (by simp)⟩
    · have hl0 : l.length ≠ 0 := fun e => he (List.length_eq_zero_iff.1 e)
      obtain rfl : q = false := by rw [hq]; simp; omega
      have eM : madeL a = l.mapIdx (fun _ => plainC) := by rw [hL, if_neg he]
      have eN : l.length = (madeL a).length := by rw [eM]; simp
      have d3 := d1
      have ka3 := ka1
      have kr3 := kr1
      rw [← eM] at hb1
      have r3 : Rdb s1 (some ⟨s.next + 1 + 1, 0, none⟩) (madeL a).length (madeL a) := rdb_lit hb1 (by omega)
      have n3 : s.next + 1 + 1 < s1.next := by omega
      clear hlt hi c1 hb1 n1
      generalize s1 = s3 at *
      (repeat(first|refine pSeq ?_|refine pReg ?_|refine sCons ?_|refine sNil ?_|refine rCons ?_|refine rNil ?_|refine kNo ?_|refine pRow ?_|refine pBlock ?_|refine pSkip ?_|refine pExit ?_|refine pRet ?_|refine pCond ?_|refine gNone ?_))
      refine ldS_is rfl ka3 rfl ?_
      (repeat(first|refine pSeq ?_|refine pReg ?_|refine sCons ?_|refine sNil ?_|refine rCons ?_|refine rNil ?_|refine kNo ?_|refine pRow ?_|refine pBlock ?_|refine pSkip ?_|refine pExit ?_|refine pRet ?_|refine pCond ?_|refine gNone ?_))
      refine ldS_is rfl ka3 rfl ?_
      (repeat(first|refine pSeq ?_|refine pReg ?_|refine sCons ?_|refine sNil ?_|refine rCons ?_|refine rNil ?_|refine kNo ?_|refine pRow ?_|refine pBlock ?_|refine pSkip ?_|refine pExit ?_|refine pRet ?_|refine pCond ?_|refine gNone ?_))
      intro n hn
      (repeat(first|refine pSeq ?_|refine pReg ?_|refine sCons ?_|refine sNil ?_|refine rCons ?_|refine rNil ?_|refine kNo ?_|refine pRow ?_|refine pBlock ?_|refine pSkip ?_|refine pExit ?_|refine pRet ?_|refine pCond ?_|refine gNone ?_))
      intro z hz
      (repeat(first|refine pSeq ?_|refine pReg ?_|refine sCons ?_|refine sNil ?_|refine rCons ?_|refine rNil ?_|refine kNo ?_|refine pRow ?_|refine pBlock ?_|refine pSkip ?_|refine pExit ?_|refine pRet ?_|refine pCond ?_|refine gNone ?_))
      refine ⟨by omega, ?_⟩
      intro m hm y hy
      have ey : y = d.take 60 := by
        rw [hy, List.drop_zero, Nat.sub_zero]
        rcases Nat.lt_or_ge d.length 60 with q | q
        · rw [List.take_of_length_le (by omega), List.take_of_length_le (by omega)]
        · rw [show m = 60 by omega]
      clear hy
      subst ey
      have hN : nameL d = (d.take 60).mapIdx nameC := rfl
      have hRn : replL d = repC (repB (repA (nameL d ++ [46]))) := rfl
      have hNl := name_len d
      have hlen2 : (d.take 60).length ≤ 60 := by rw [List.length_take]; omega
      generalize d.take 60 = l2 at *
      (repeat(first|refine pSeq ?_|refine pReg ?_|refine sCons ?_|refine sNil ?_|refine rCons ?_|refine rNil ?_|refine kNo ?_|refine pRow ?_|refine pBlock ?_|refine pSkip ?_|refine pExit ?_|refine pRet ?_|refine pCond ?_|refine gNone ?_))
      refine ⟨by omega, ?_⟩
      (repeat(first|refine pSeq ?_|refine pReg ?_|refine sCons ?_|refine sNil ?_|refine rCons ?_|refine rNil ?_|refine kNo ?_|refine pRow ?_|refine pBlock ?_|refine pSkip ?_|refine pExit ?_|refine pRet ?_|refine pCond ?_|refine gNone ?_))
      generalize hs4 : (⟨(s3.next, some (.cells (bytesV l2) tB true false)) :: s3.heap, s3.next + 1, s3.gl⟩ : SS) = s4
      have n4 : s4.next = s3.next + 1 := by rw [← hs4]
      have d4 : Chg s3 s4 [] := by rw [← hs4]; exact .new _
      have kr4 := d4.blk (s.next + 1) _ (by omega) (by simp) kr3
      have kb4 : lookH s4.heap s3.next = some (.cells (bytesV l2) tB true false) := by rw [← hs4]; exact lkH
      have r4 := r3.chg d4 (by simp)
      refine pLoop (MW.head good (fun x : SIt => l2.length - x.i) (fun x => x.i ≤ l2.length ∧ Chg s4 x.s [s3.next] ∧ lookH x.s.heap s3.next = some (.cells (bytesV (mixI nameC l2 x.i)) tB true false))
        (fun x => [(2, .pointer (some ⟨s.next + 1, 0, none⟩)), (3, .slice (some ⟨s.next + 1 + 1, 0, none⟩) (madeL a).length 0), (5, .slice (some ⟨s3.next, 0, none⟩) l2.length 0), (45, .int .i64 l2.length), (46, .int .i64 x.i)]) (fun x => x.s) ⟨0, s4⟩ ⟨Nat.zero_le _, .refl _ _, by rw [mixI_0]; exact kb4⟩ (by rw [← hs4]; exact Wk.same ⟨rfl, by show some _ = some _; rw [eN], rfl, rfl, rfl, trivial⟩) ?_)
      intro ⟨i, s5⟩ ⟨hi, c5, hb5⟩
      dsimp only at hi c5 hb5 ⊢
      have n5 := c5.next
      (repeat(first|refine pSeq ?_|refine pReg ?_|refine sCons ?_|refine sNil ?_|refine rCons ?_|refine rNil ?_|refine kNo ?_|refine pRow ?_|refine pBlock ?_|refine pSkip ?_|refine pExit ?_|refine pRet ?_|refine pCond ?_|refine gNone ?_))
      intro q hq
      by_cases hlt : i < l2.length
      · obtain rfl : q = true := by rw [hq]; simp <;> omega
        obtain ⟨c, hc⟩ : ∃ c, l2[i]? = some c := ⟨_, List.getElem?_eq_getElem hlt⟩
        have c14 := Nat.mod_lt c.toNat (show 0 < 14 by omega)
        (repeat(first|refine pSeq ?_|refine pReg ?_|refine sCons ?_|refine sNil ?_|refine rCons ?_|refine rNil ?_|refine kNo ?_|refine pRow ?_|refine pBlock ?_|refine pSkip ?_|refine pExit ?_|refine pRet ?_|refine pCond ?_|refine gNone ?_))
        refine ⟨by omega, ?_⟩
        intro m hm o ho
        obtain rfl : m = i := by omega
        (repeat(first|refine pSeq ?_|refine pReg ?_|refine sCons ?_|refine sNil ?_|refine rCons ?_|refine rNil ?_|refine kNo ?_|refine pRow ?_|refine pBlock ?_|refine pSkip ?_|refine pExit ?_|refine pRet ?_|refine pCond ?_|refine gNone ?_))
        refine ldI_is rfl hb5 (by rw [ho, Nat.zero_add, Nat.mul_one]; exact bytes_get (mixI_at hc)) ?_
        (repeat(first|refine pSeq ?_|refine pReg ?_|refine sCons ?_|refine sNil ?_|refine rCons ?_|refine rNil ?_|refine kNo ?_|refine pRow ?_|refine pBlock ?_|refine pSkip ?_|refine pExit ?_|refine pRet ?_|refine pCond ?_|refine gNone ?_))
        refine ⟨by omega, ?_⟩
        intro z hz
        have hz : z = ((c.toNat % 14 : Nat) : Int) := hz
        (repeat(first|refine pSeq ?_|refine pReg ?_|refine sCons ?_|refine sNil ?_|refine rCons ?_|refine rNil ?_|refine kNo ?_|refine pRow ?_|refine pBlock ?_|refine pSkip ?_|refine pExit ?_|refine pRet ?_|refine pCond ?_|refine gNone ?_))
        refine ⟨⟨by omega, by show z < ((14 : Nat) : Int); omega⟩, ?_⟩
        intro k hk
        obtain rfl : k = c.toNat % 14 := by omega
        refine ⟨alpha c, alpha_lit c, ?_⟩
        (repeat(first|refine pSeq ?_|refine pReg ?_|refine sCons ?_|refine sNil ?_|refine rCons ?_|refine rNil ?_|refine kNo ?_|refine pRow ?_|refine pBlock ?_|refine pSkip ?_|refine pExit ?_|refine pRet ?_|refine pCond ?_|refine gNone ?_))
        refine ⟨by omega, ?_⟩
        intro m2 hm2 o2 ho2
        obtain rfl : m2 = m := by omega
        (repeat(first|refine pSeq ?_|refine pReg ?_|refine sCons ?_|refine sNil ?_|refine rCons ?_|refine rNil ?_|refine kNo ?_|refine pRow ?_|refine pBlock ?_|refine pSkip ?_|refine pExit ?_|refine pRet ?_|refine pCond ?_|refine gNone ?_))
        refine st_abs (cs' := bytesV ((mixI nameC l2 m2).set m2 (alpha c))) rfl rfl hb5 (by omega) rfl (by
          rw [ho2, Nat.zero_add, Nat.mul_one]
          exact bytes_set (by rw [mixI_len]; exact hlt) _) fun s6 e6 c6 n6 => ?_
        (repeat(first|refine pSeq ?_|refine pReg ?_|refine sCons ?_|refine sNil ?_|refine rCons ?_|refine rNil ?_|refine kNo ?_|refine pRow ?_|refine pBlock ?_|refine pSkip ?_|refine pExit ?_|refine pRet ?_|refine pCond ?_|refine gNone ?_))
        refine ⟨by omega, ?_⟩
        intro z3 hz3
        have hz3 : z3 = ((m2 % 9 : Nat) : Int) := hz3
        (repeat(first|refine pSeq ?_|refine pReg ?_|refine sCons ?_|refine sNil ?_|refine rCons ?_|refine rNil ?_|refine kNo ?_|refine pRow ?_|refine pBlock ?_|refine pSkip ?_|refine pExit ?_|refine pRet ?_|refine pCond ?_|refine gNone ?_))
        intro q hq
        by_cases h8 : m2 % 9 = 8
        · obtain rfl : q = true := by rw [hq]; simp; omega
          (repeat(first|refine pSeq ?_|refine pReg ?_|refine sCons ?_|refine sNil ?_|refine rCons ?_|refine rNil ?_|refine kNo ?_|refine pRow ?_|refine pBlock ?_|refine pSkip ?_|refine pExit ?_|refine pRet ?_|refine pCond ?_|refine gNone ?_))
          refine ⟨by omega, ?_⟩
          intro m3 hm3 o3 ho3
          obtain rfl : m3 = m2 := by omega
          (repeat(first|refine pSeq ?_|refine pReg ?_|refine sCons ?_|refine sNil ?_|refine rCons ?_|refine rNil ?_|refine kNo ?_|refine pRow ?_|refine pBlock ?_|refine pSkip ?_|refine pExit ?_|refine pRet ?_|refine pCond ?_|refine gNone ?_))
          refine st_abs (cs' := bytesV (mixI nameC l2 (m3 + 1))) rfl rfl e6 (by omega) rfl (by
            rw [ho3, Nat.zero_add, Nat.mul_one, mixI_next hc, show nameC m3 c = 46 by unfold nameC; rw [if_pos h8]]
            have := bytes_set (l := (mixI nameC l2 m3).set m3 (alpha c)) (p := m3) (by rw [List.length_set, mixI_len]; exact hlt) 46
            rw [List.set_set] at this
            exact this) fun s7 e7 c7 n7 => ?_
          (repeat(first|refine pSeq ?_|refine pReg ?_|refine sCons ?_|refine sNil ?_|refine rCons ?_|refine rNil ?_|refine kNo ?_|refine pRow ?_|refine pBlock ?_|refine pSkip ?_|refine pExit ?_|refine pRet ?_|refine pCond ?_|refine gNone ?_))
          intro z4 hz4
          rw [i64_id (by omega)] at hz4
          obtain rfl : z4 = ((m3 + 1 : Nat) : Int) := by omega
          (repeat(first|refine pSeq ?_|refine pReg ?_|refine sCons ?_|refine sNil ?_|refine rCons ?_|refine rNil ?_|refine kNo ?_|refine pRow ?_|refine pBlock ?_|refine pSkip ?_|refine pExit ?_|refine pRet ?_|refine pCond ?_|refine gNone ?_))
          exact ⟨⟨m3 + 1, s7⟩, ⟨hlt, (c5.same c6).same c7, e7⟩, by show l2.length - (m3 + 1) < l2.length - m3; omega, Wk.same ⟨rfl, rfl, rfl, rfl, rfl, trivial⟩⟩
        · obtain rfl : q = false := by rw [hq]; simp; omega
          (repeat(first|refine pSeq ?_|refine pReg ?_|refine sCons ?_|refine sNil ?_|refine rCons ?_|refine rNil ?_|refine kNo ?_|refine pRow ?_|refine pBlock ?_|refine pSkip ?_|refine pExit ?_|refine pRet ?_|refine pCond ?_|refine gNone ?_))
          intro z4 hz4
          rw [i64_id (by omega)] at hz4
          obtain rfl : z4 = ((m2 + 1 : Nat) : Int) := by omega
          (repeat(first|refine pSeq ?_|refine pReg ?_|refine sCons ?_|refine sNil ?_|refine rCons ?_|refine rNil ?_|refine kNo ?_|refine pRow ?_|refine pBlock ?_|refine pSkip ?_|refine pExit ?_|refine pRet ?_|refine pCond ?_|refine gNone ?_))
          exact ⟨⟨m2 + 1, s6⟩, ⟨hlt, c5.same c6, by rw [e6, mixI_next hc, show nameC m2 c = alpha c by unfold nameC; rw [if_neg h8]]⟩, by show l2.length - (m2 + 1) < l2.length - m2; omega, Wk.same ⟨rfl, rfl, rfl, rfl, rfl, trivial⟩⟩
      · obtain rfl : q = false := by rw [hq]; simp <;> omega
        rw [mixI_end (by omega), ← hN] at hb5
        have kr5 := c5.blk (s.next + 1) _ (by omega) (by simp; omega) kr4
        have d5 : Chg s s5 [] := (d3.nil d4).fresh c5 (by simp; omega)
        have r5 := r4.chg c5 (by intro id hid; have := r3.lt id hid; simp; omega)
        have f5 := d5.fine hF
        have hle : l2.length = (nameL d).length := by rw [hN]; simp
        have g5 := hM.chg d5
        (repeat(first|refine pSeq ?_|refine pReg ?_|refine sCons ?_|refine sNil ?_|refine rCons ?_|refine rNil ?_|refine kNo ?_|refine pRow ?_|refine pBlock ?_|refine pSkip ?_|refine pExit ?_|refine pRet ?_|refine pCond ?_|refine gNone ?_))
        refine toStr_Rdb rfl (by have := rdb_lit hb5 (by omega); rw [← hle] at this; exact this) ?_
        (repeat(first|refine pSeq ?_|refine pReg ?_|refine sCons ?_|refine sNil ?_|refine rCons ?_|refine rNil ?_|refine kNo ?_|refine pRow ?_|refine pBlock ?_|refine pSkip ?_|refine pExit ?_|refine pRet ?_|refine pCond ?_|refine gNone ?_))
        refine ⟨by simp; omega, ?_⟩
        intro u hu
        (repeat(first|refine pSeq ?_|refine pReg ?_|refine sCons ?_|refine sNil ?_|refine rCons ?_|refine rNil ?_|refine kNo ?_|refine pRow ?_|refine pBlock ?_|refine pSkip ?_|refine pExit ?_|refine pRet ?_|refine pCond ?_|refine gNone ?_))
        have ru : u.length ≤ 61 := by rw [hu]; simp; omega
        have lA : (repA u).length = u.length := by have := congrArg List.length (dotsA _ u (Nat.le_refl _)); simpa using this
        have lB : (repB (repA u)).length = u.length := by have := congrArg List.length (dotsB _ (repA u) (Nat.le_refl _)); simp at this; omega
        refine (replace_w (new := [120, 46]) g5 (by omega) (by decide) (by decide)).mono fun v s6 q => ?_
        obtain ⟨rfl, rfl⟩ := q
        (repeat(first|refine pSeq ?_|refine pReg ?_|refine sCons ?_|refine sNil ?_|refine rCons ?_|refine rNil ?_|refine kNo ?_|refine pRow ?_|refine pBlock ?_|refine pSkip ?_|refine pExit ?_|refine pRet ?_|refine pCond ?_|refine gNone ?_))
        refine (replace_w (l := repA u) (new := [46, 121]) g5 (by omega) (by decide) (by decide)).mono fun v s6 q => ?_
        obtain ⟨rfl, rfl⟩ := q
        (repeat(first|refine pSeq ?_|refine pReg ?_|refine sCons ?_|refine sNil ?_|refine rCons ?_|refine rNil ?_|refine kNo ?_|refine pRow ?_|refine pBlock ?_|refine pSkip ?_|refine pExit ?_|refine pRet ?_|refine pCond ?_|refine gNone ?_))
        refine (replace_w (l := repB (repA u)) (new := [46, 122, 46]) g5 (by omega) (by decide) (by decide)).mono fun v s6 q => ?_
        obtain ⟨rfl, rfl⟩ := q
        have eR : rep 46 46 [46, 122, 46] (repB (repA u)) = replL d := by rw [hRn, hu]; rfl
        rw [eR]
        obtain ⟨-, -, -, q4, -, m, hm⟩ := repl_fine d
        have hsuf : [(46 : UInt8)] <:+ replL d := by rw [hm]; exact ⟨m, rfl⟩
        have hdl : (replL d).take ((replL d).length - [(46 : UInt8)].length) = (replL d).dropLast := by rw [List.dropLast_eq_take]; rfl
        (repeat(first|refine pSeq ?_|refine pReg ?_|refine sCons ?_|refine sNil ?_|refine rCons ?_|refine rNil ?_|refine kNo ?_|refine pRow ?_|refine pBlock ?_|refine pSkip ?_|refine pExit ?_|refine pRet ?_|refine pCond ?_|refine gNone ?_))
        refine toStr_Rdb rfl r5 ?_
        (repeat(first|refine pSeq ?_|refine pReg ?_|refine sCons ?_|refine sNil ?_|refine rCons ?_|refine rNil ?_|refine kNo ?_|refine pRow ?_|refine pBlock ?_|refine pSkip ?_|refine pExit ?_|refine pRet ?_|refine pCond ?_|refine gNone ?_))
        refine (trimSuffix_w (l := replL d) (b := [46]) (by omega)).mono fun v s6 q => ?_
        obtain ⟨rfl, rfl⟩ := q
        rw [if_pos hsuf, hdl]
        refine kAll .refl ?_
        (repeat(first|refine pSeq ?_|refine pReg ?_|refine sCons ?_|refine sNil ?_|refine rCons ?_|refine rNil ?_|refine kNo ?_|refine pRow ?_|refine pBlock ?_|refine pSkip ?_|refine pExit ?_|refine pRet ?_|refine pCond ?_|refine gNone ?_))
        refine ⟨by simp; omega, ?_⟩
        intro w hw
        (repeat(first|refine pSeq ?_|refine pReg ?_|refine sCons ?_|refine sNil ?_|refine rCons ?_|refine rNil ?_|refine kNo ?_|refine pRow ?_|refine pBlock ?_|refine pSkip ?_|refine pExit ?_|refine pRet ?_|refine pCond ?_|refine gNone ?_))
        have ew : w = madeD d := hw
        subst ew
        refine st_abs (cs' := [str (madeL a), str (madeD d)]) rfl rfl kr5 (by omega) rfl rfl fun s6 e6 c6 n6 => ?_
        (repeat(first|refine pSeq ?_|refine pReg ?_|refine sCons ?_|refine sNil ?_|refine rCons ?_|refine rNil ?_|refine kNo ?_|refine pRow ?_|refine pBlock ?_|refine pSkip ?_|refine pExit ?_|refine pRet ?_|refine pCond ?_|refine gNone ?_))
        (repeat (first | with_reducible refine sqRet ?_ | with_reducible refine bkRet ?_ | with_reducible refine hdRet ?_))
        exact ret_cell1 agg_Ad sz_Ad rfl e6 agg2 ⟨rfl, d5.fresh c6 (by simp)⟩
end Go.Vf.S
