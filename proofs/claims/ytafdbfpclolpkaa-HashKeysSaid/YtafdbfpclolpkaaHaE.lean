import Derived.Test.YtafdbfpclolpkaaHaD
/- Words as bytes; a block's words. -/
namespace Go.Vf.S
open Go Go.Vf
attribute [local irreducible] wSeq wRow wp wG
set_option linter.unusedVariables false
set_option linter.unusedSimpArgs false
set_option maxRecDepth 10000

/-- So far of a row that is filled from its front. -/
def soF {α : Type} (z : α) (l : List α) (p : Nat) : List α := l.take p ++ List.replicate (l.length - p) z
theorem soF_len {α : Type} (z : α) (l : List α) (p : Nat) (h : p ≤ l.length) : (soF z l p).length = l.length := by
  unfold soF
  rw [List.length_append, List.length_take, List.length_replicate]; omega
theorem soF_0 {α : Type} (z : α) (l : List α) : soF z l 0 = List.replicate l.length z := rfl
theorem soF_all {α : Type} (z : α) (l : List α) : soF z l l.length = l := by
  unfold soF
  rw [List.take_length, Nat.sub_self]; simp
theorem soF_next {α : Type} (z : α) {l : List α} {p : Nat} {c : α} (h : l[p]? = some c) : soF z l (p + 1) = (soF z l p).set p c := by
  obtain ⟨hp, e⟩ := List.getElem?_eq_some_iff.1 h
  unfold soF
  have e1 : (l.take p).length = p := by rw [List.length_take]; omega
  rw [List.set_append_right _ _ (by omega), e1, Nat.sub_self, show l.length - p = (l.length - (p + 1)) + 1 from by omega, List.replicate_succ, take_next h, List.append_assoc]
  rfl

theorem be_get (s : W5) : ∀ {i : Nat}, i < 20 → s.bytes[i]? = some (byteOf ((s.l.getD (i / 4) 0) >>> (24 - i % 4 * 8))) := fun {i} h => by
  match i, h with
  | 0, _ => rfl | 1, _ => rfl | 2, _ => rfl | 3, _ => rfl | 4, _ => rfl | 5, _ => rfl | 6, _ => rfl | 7, _ => rfl | 8, _ => rfl | 9, _ => rfl
  | 10, _ => rfl | 11, _ => rfl | 12, _ => rfl | 13, _ => rfl | 14, _ => rfl | 15, _ => rfl | 16, _ => rfl | 17, _ => rfl | 18, _ => rfl | 19, _ => rfl
  | n + 20, h => omega
theorem bytes5_len (s : W5) : s.bytes.length = 20 := rfl
def zs20 : List UInt8 := List.replicate 20 0
abbrev agB (l : List UInt8) : Value := .agg ⟨bytesV l⟩
theorem bytes_take {l : List UInt8} {n : Nat} (h : l.length = n) : takeN n ((bytesV l).drop 0) = some (bytesV l) := by
  rw [List.drop_zero, takeN_take _ _ (by rw [bytesV_len]; omega), List.take_of_length_le (by rw [bytesV_len]; omega)]

theorem bytes5_w {s : SS} {x : W5} (f : Fine s) : CallW pr n_hash_words_bytes [x.V] s fun v s' => v = agB x.bytes ∧ Chg s s' [] := by
  refine CallW.run good ok_hash_words_bytes (by simp) rfl ?_
  (repeat(first|refine pSeq ?_|refine pReg ?_|refine sCons ?_|refine sNil ?_|refine pBlock ?_|refine pSkip ?_|refine pExit ?_|refine pRet ?_|refine pCond ?_|refine gNone ?_))
  refine pLoop (MW.head good (fun p : Nat × SS => 20 - p.1) (fun p => p.1 ≤ 20 ∧ lookH p.2.heap s.next = some (.cells (wdsV x.l) tW5 false false) ∧ lookH p.2.heap (s.next + 1) = some (.cells (bytesV (soF 0 x.bytes p.1)) tA20 false false) ∧ Chg s p.2 [] ∧ p.2.next = s.next + 1 + 1 ∧ Fine p.2)
    (fun p => [(1, ptrV s.next), (2, ptrV (s.next + 1)), (4, .int .i64 p.1)]) (fun p => p.2) (0, _) ?_ (Wk.same ⟨rfl, rfl, rfl, trivial⟩) ?_)
  · obtain ⟨h1, h2, h3, h4⟩ := new2_at f (.cells (wdsV x.l) tW5 false false) (.cells (bytesV zs20) tA20 false false)
    exact ⟨Nat.zero_le _, h1, h2, h3, rfl, h4⟩
  intro ⟨p, s1⟩ ⟨hp, h1, h2, c1, n1, f1⟩
  dsimp only at hp h1 h2 c1 n1 f1 ⊢
  (repeat(first|refine pSeq ?_|refine pReg ?_|refine sCons ?_|refine sNil ?_|refine pBlock ?_|refine pSkip ?_|refine pExit ?_|refine pRet ?_|refine pCond ?_|refine gNone ?_))
  intro q hq
  by_cases h5 : p = 20
  · subst h5
    obtain rfl : q = false := by rw [hq]; simp <;> omega
    (repeat(first|refine pSeq ?_|refine pReg ?_|refine sCons ?_|refine sNil ?_|refine pBlock ?_|refine pSkip ?_|refine pExit ?_|refine pRet ?_|refine pCond ?_|refine gNone ?_))
    rw [show soF 0 x.bytes 20 = x.bytes from soF_all 0 x.bytes] at h2
    refine ldN_is rfl h2 (bytes_take (bytes5_len x)) ?_
    (repeat(first|refine pSeq ?_|refine pReg ?_|refine sCons ?_|refine sNil ?_|refine pBlock ?_|refine pSkip ?_|refine pExit ?_|refine pRet ?_|refine pCond ?_|refine gNone ?_))
    refine st_abs (cs' := bytesV x.bytes) rfl rfl h2 (by omega) rfl rfl fun s2 e2 c2 n2 => ?_
    (repeat(first|refine pSeq ?_|refine pReg ?_|refine sCons ?_|refine sNil ?_|refine pBlock ?_|refine pSkip ?_|refine pExit ?_|refine pRet ?_|refine pCond ?_|refine gNone ?_))
    (repeat (first | with_reducible refine sqRet ?_ | with_reducible refine bkRet ?_ | with_reducible refine hdRet ?_))
    exact ret_cell1 agg_A20 sz_A20 rfl e2 (bytes_take (bytes5_len x)) ⟨rfl, c1.fresh c2 (by simp)⟩
  · obtain rfl : q = true := by rw [hq]; simp <;> omega
    (repeat(first|refine pSeq ?_|refine pReg ?_|refine sCons ?_|refine sNil ?_|refine pBlock ?_|refine pSkip ?_|refine pExit ?_|refine pRet ?_|refine pCond ?_|refine gNone ?_))
    refine ⟨by decide, ?_⟩
    intro z hz
    obtain rfl : z = ((p / 4 : Nat) : Int) := by
      rw [hz, show (p : Int).tdiv 4 = ((p / 4 : Nat) : Int) from (Int.ofNat_tdiv p 4).symm, i64_id (by omega)]
    (repeat(first|refine pSeq ?_|refine pReg ?_|refine sCons ?_|refine sNil ?_|refine pBlock ?_|refine pSkip ?_|refine pExit ?_|refine pRet ?_|refine pCond ?_|refine gNone ?_))
    refine ⟨by omega, ?_⟩
    intro m hm o ho
    obtain rfl : m = p / 4 := by omega
    obtain rfl : o = p / 4 := by omega
    (repeat(first|refine pSeq ?_|refine pReg ?_|refine sCons ?_|refine sNil ?_|refine pBlock ?_|refine pSkip ?_|refine pExit ?_|refine pRet ?_|refine pCond ?_|refine gNone ?_))
    refine ldI_is rfl h1 (wds_get (show p / 4 < 5 by omega)) ?_
    (repeat(first|refine pSeq ?_|refine pReg ?_|refine sCons ?_|refine sNil ?_|refine pBlock ?_|refine pSkip ?_|refine pExit ?_|refine pRet ?_|refine pCond ?_|refine gNone ?_))
    refine ⟨by decide, ?_⟩
    intro z hz
    obtain rfl : z = ((p % 4 : Nat) : Int) := by rw [hz]; exact (Int.ofNat_tmod p 4).symm
    (repeat(first|refine pSeq ?_|refine pReg ?_|refine sCons ?_|refine sNil ?_|refine pBlock ?_|refine pSkip ?_|refine pExit ?_|refine pRet ?_|refine pCond ?_|refine gNone ?_))
    intro z hz
    obtain rfl : z = ((p % 4 * 8 : Nat) : Int) := by rw [hz, i64_id (by omega)]; omega
    (repeat(first|refine pSeq ?_|refine pReg ?_|refine sCons ?_|refine sNil ?_|refine pBlock ?_|refine pSkip ?_|refine pExit ?_|refine pRet ?_|refine pCond ?_|refine gNone ?_))
    intro z hz
    obtain rfl : z = ((24 - p % 4 * 8 : Nat) : Int) := by rw [hz, i64_id (by omega)]; omega
    (repeat(first|refine pSeq ?_|refine pReg ?_|refine sCons ?_|refine sNil ?_|refine pBlock ?_|refine pSkip ?_|refine pExit ?_|refine pRet ?_|refine pCond ?_|refine gNone ?_))
    refine ⟨by omega, ?_⟩
    intro z hz
    rw [show min ((24 - p % 4 * 8 : Nat) : Int).toNat IntKind.u32.bits = 24 - p % 4 * 8 from by
      show min ((24 - p % 4 * 8 : Nat) : Int).toNat 32 = _
      omega, shr_u32] at hz
    subst hz
    (repeat(first|refine pSeq ?_|refine pReg ?_|refine sCons ?_|refine sNil ?_|refine pBlock ?_|refine pSkip ?_|refine pExit ?_|refine pRet ?_|refine pCond ?_|refine gNone ?_))
    intro z hz
    rw [u32_u8] at hz
    subst hz
    (repeat(first|refine pSeq ?_|refine pReg ?_|refine sCons ?_|refine sNil ?_|refine pBlock ?_|refine pSkip ?_|refine pExit ?_|refine pRet ?_|refine pCond ?_|refine gNone ?_))
    refine ⟨by omega, ?_⟩
    intro m hm o ho
    obtain rfl : m = p := by omega
    obtain rfl : o = m := by omega
    (repeat(first|refine pSeq ?_|refine pReg ?_|refine sCons ?_|refine sNil ?_|refine pBlock ?_|refine pSkip ?_|refine pExit ?_|refine pRet ?_|refine pCond ?_|refine gNone ?_))
    have hg := be_get x (show o < 20 by omega)
    refine st_abs (cs' := bytesV (soF 0 x.bytes (o + 1))) rfl rfl h2 (by omega) rfl (by rw [soF_next 0 hg]; exact bytes_set (by rw [soF_len _ _ _ (by rw [bytes5_len]; omega), bytes5_len]; omega) _) fun s2 e2 c2 n2 => ?_
    (repeat(first|refine pSeq ?_|refine pReg ?_|refine sCons ?_|refine sNil ?_|refine pBlock ?_|refine pSkip ?_|refine pExit ?_|refine pRet ?_|refine pCond ?_|refine gNone ?_))
    intro z hz
    rw [i64_id (by omega)] at hz
    subst hz
    (repeat(first|refine pSeq ?_|refine pReg ?_|refine sCons ?_|refine sNil ?_|refine pBlock ?_|refine pSkip ?_|refine pExit ?_|refine pRet ?_|refine pCond ?_|refine gNone ?_))
    exact ⟨(o + 1, s2), ⟨by omega, c2.blk _ _ (by omega) (by simp) h1, e2, c1.fresh c2 (by simp), n2.trans n1, c2.fine f1⟩, by show 20 - (o + 1) < 20 - o; omega, Wk.same ⟨rfl, rfl, rfl, trivial⟩⟩

theorem wds_fl {l : List Wd} {n : Nat} (h : l.length = n) : (Nat.beq (flat (.agg ⟨wdsV l⟩)).length n && all1 (flat (.agg ⟨wdsV l⟩))) = true := by
  show (Nat.beq (wdsV l).length n && all1 (wdsV l)) = true
  rw [wds_all, wds_len, h, Nat.beq_refl]; rfl
theorem wds_lay {a l : List Wd} (h : a.length = l.length) : setRow (wdsV a) 0 (wdsV l) = some (wdsV l) := setRow_all (by rw [wds_len, wds_len, h])
theorem agB_fl {l : List UInt8} {n : Nat} (h : l.length = n) : (Nat.beq (flat (agB l)).length n && all1 (flat (agB l))) = true := by
  show (Nat.beq (bytesV l).length n && all1 (bytesV l)) = true
  rw [all1_bytesV, bytesV_len, h, Nat.beq_refl]; rfl
theorem agB_lay {a l : List UInt8} (h : a.length = l.length) : setRow (bytesV a) 0 (bytesV l) = some (bytesV l) := setRow_all (by rw [bytesV_len, bytesV_len, h])

/-! ### A block's words -/
abbrev tW80 : TypeId := 40
theorem agg_W80 : aggB pr tW80 = some true := by kernel_rfl
theorem sz_W80 : sizeB pr tW80 = some 80 := by kernel_rfl
/-- Of four bytes so far. -/
def wPart (l : List UInt8) (t j : Nat) : Wd := (((l.drop (4 * t)).take 4).take j).foldl (fun w c => w <<< 8 ||| c.toBitVec.setWidth 32) 0
theorem wPart_0 (l : List UInt8) (t : Nat) : wPart l t 0 = 0 := rfl
theorem wPart_4 (l : List UInt8) (t : Nat) : wPart l t 4 = wOf l t := by
  unfold wPart wOf
  rw [List.take_of_length_le (by rw [List.length_take]; omega)]
theorem wPart_next {l : List UInt8} {t j : Nat} {c : UInt8} (h : ((l.drop (4 * t)).take 4)[j]? = some c) : wPart l t (j + 1) = wPart l t j <<< 8 ||| c.toBitVec.setWidth 32 := by
  unfold wPart
  rw [take_next h, List.foldl_append]
  rfl
theorem schd_get (l : List UInt8) {t n : Nat} (h : t < n) : (schd l n)[t]? = some (if t < 16 then wOf l t else nxt (schd l t) t) := by
  induction n with
  | zero => omega
  | succ n ih =>
    rw [schd]
    by_cases e : t = n
    · subst e
      rw [List.getElem?_append_right (by rw [schd_len]; exact Nat.le_refl _), schd_len, Nat.sub_self]; rfl
    · rw [List.getElem?_append_left (by rw [schd_len]; omega)]
      exact ih (by omega)
theorem schd_take (l : List UInt8) {t n : Nat} (h : t ≤ n) : (schd l n).take t = schd l t := by
  induction n with
  | zero => obtain rfl : t = 0 := by omega
            rfl
  | succ n ih =>
    by_cases e : t = n + 1
    · subst e; rw [List.take_of_length_le (by rw [schd_len]; exact Nat.le_refl _)]
    · rw [schd, List.take_append_of_le_length (by rw [schd_len]; omega)]
      exact ih (by omega)
/-- The words so far, in their room. -/
def rowW (l : List UInt8) (t : Nat) : List Wd := soF 0 (schd l 80) t
theorem rowW_len (l : List UInt8) {t : Nat} (h : t ≤ 80) : (rowW l t).length = 80 := by
  unfold rowW; rw [soF_len _ _ _ (by rw [schd_len]; exact h), schd_len]
theorem rowW_0 (l : List UInt8) : rowW l 0 = List.replicate 80 0 := by unfold rowW; rw [soF_0, schd_len]
theorem rowW_80 (l : List UInt8) : rowW l 80 = schd l 80 := by
  have := soF_all (0 : Wd) (schd l 80)
  rw [schd_len] at this
  exact this
theorem rowW_next (l : List UInt8) {t : Nat} (h : t < 80) : rowW l (t + 1) = (rowW l t).set t (if t < 16 then wOf l t else nxt (schd l t) t) := soF_next 0 (schd_get l h)
theorem rowW_at (l : List UInt8) {i t : Nat} (hi : i < t) (ht : t ≤ 80) : (rowW l t).getD i 0 = (schd l t).getD i 0 := by
  unfold rowW soF
  rw [schd_take l ht, List.getD_eq_getElem?_getD, List.getD_eq_getElem?_getD, List.getElem?_append_left (by rw [schd_len]; exact hi)]
theorem rowW_new (l : List UInt8) {t : Nat} (ht : t < 80) : (rowW l t).getD t 0 = 0 := by
  unfold rowW soF
  rw [schd_take l (by omega), List.getD_eq_getElem?_getD, List.getElem?_append_right (by rw [schd_len]; exact Nat.le_refl _), schd_len, schd_len, Nat.sub_self, List.getElem?_replicate, if_pos (by omega)]
  rfl
theorem schd_64 (l : List UInt8) : schd (l.take 64) 80 = schd l 80 := by
  have hs : schd (l.take 64) = schd l := by
    funext t
    induction t with
    | zero => rfl
    | succ t ih =>
      rw [schd, schd, ih]
      by_cases ht : t < 16
      · rw [if_pos ht, if_pos ht]
        congr 2
        unfold wOf
        rw [List.drop_take, List.take_take, Nat.min_eq_left (by omega)]
      · rw [if_neg ht, if_neg ht]
  rw [hs]
theorem W5_lay (y z : W5) : setRow (wdsV y.l) 0 (flat z.V) = some (wdsV z.l) := wds_lay (a := y.l) (l := z.l) (show 5 = 5 from rfl)
theorem blk5_eq (s : W5) (l : List UInt8) : blk5 s l = s.add (rnds (schd l 80) 80 s) := rfl
theorem rnds_0 (ws : List Wd) (x : W5) : rnds ws 0 x = x := rfl
theorem rnds_next (ws : List Wd) (x : W5) (t : Nat) : rnds ws (t + 1) x = rnd t (ws.getD t 0) (rnds ws t x) := rfl
end Go.Vf.S
