import Derived.Test.YtgddphciejoljaaGreatDoorMg2
import Derived.Test.YtgddphciejoljaaGreatDoorMg1
section
/- Words as bytes; a block's words. -/
namespace Go.Vf.S
open Go Go.Vf
attribute [local irreducible] wSeq wRow wp wG
set_option linter.unusedVariables false
set_option linter.unusedSimpArgs false
set_option maxRecDepth 10000

/-- So far of a row that is filled from its front. -/
def soF {α : Type} (z : α) (l : List α) (p : Nat) : List α := l.take p ++ List.replicate (l.length - p) z
theorem soF_len {α : Type} (z : α) (l : List α) (p : Nat) (h : p ≤ l.length) : (soF z l p).length = l.length := by
  unfold soF
  rw [List.length_append, List.length_take, List.length_replicate]; omega
theorem soF_0 {α : Type} (z : α) (l : List α) : soF z l 0 = List.replicate l.length z := rfl
theorem soF_all {α : Type} (z : α) (l : List α) : soF z l l.length = l := by
  unfold soF
  rw [List.take_length, Nat.sub_self]; simp
theorem soF_next {α : Type} (z : α) {l : List α} {p : Nat} {c : α} (h : l[p]? = some c) : soF z l (p + 1) = (soF z l p).set p c := by
  obtain ⟨hp, e⟩ := List.getElem?_eq_some_iff.1 h
  unfold soF
  have e1 : (l.take p).length = p := by rw [List.length_take]; omega
  rw [List.set_append_right _ _ (by omega), e1, Nat.sub_self, show l.length - p = (l.length - (p + 1)) + 1 from by omega, List.replicate_succ, take_next h, List.append_assoc]
  rfl

theorem be_get (s : W5) : ∀ {i : Nat}, i < 20 → s.bytes[i]? = some (byteOf ((s.l.getD (i / 4) 0) >>> (24 - i % 4 * 8))) := fun {i} h => by
  match i, h with
  | 0, _ => rfl | 1, _ => rfl | 2, _ => rfl | 3, _ => rfl | 4, _ => rfl | 5, _ => rfl | 6, _ => rfl | 7, _ => rfl | 8, _ => rfl | 9, _ => rfl
  | 10, _ => rfl | 11, _ => rfl | 12, _ => rfl | 13, _ => rfl | 14, _ => rfl | 15, _ => rfl | 16, _ => rfl | 17, _ => rfl | 18, _ => rfl | 19, _ => rfl
  | n + 20, h => omega
theorem bytes5_len (s : W5) : s.bytes.length = 20 := rfl
def zs20 : List UInt8 := List.replicate 20 0
abbrev agB (l : List UInt8) : Value := .agg ⟨bytesV l⟩
theorem bytes5_w {s : SS} {x : W5} (f : Fine s) : CallW pr n_hash_words_bytes [x.V] s fun v s' => v = agB x.bytes ∧ Chg s s' [] := by
  refine CallW.run good ok_hash_words_bytes (by simp) rfl ?_
  (try refine pSeq ?_); (repeat refine sb ?_)
  refine pLoop (MW.head good (fun p : Nat × SS => 20 - p.1) (fun p => p.1 ≤ 20 ∧ lookH p.2.heap s.next = some (.cells (wdsV x.l) tW5 false false) ∧ lookH p.2.heap (s.next + 1) = some (.cells (bytesV (soF 0 x.bytes p.1)) tA20 false false) ∧ Chg s p.2 [] ∧ p.2.next = s.next + 1 + 1 ∧ Fine p.2)
    (fun p => [(1, ptrV s.next), (2, ptrV (s.next + 1)), (4, .int .i64 p.1)]) (fun p => p.2) (0, _) ?_ (Wk.same ⟨rfl, rfl, rfl, trivial⟩) ?_)
  · obtain ⟨h1, h2, h3, h4⟩ := new2_at f (.cells (wdsV x.l) tW5 false false) (.cells (bytesV zs20) tA20 false false)
    exact ⟨Nat.zero_le _, h1, h2, h3, rfl, h4⟩
  intro ⟨p, s1⟩ ⟨hp, h1, h2, c1, n1, f1⟩
  dsimp only at hp h1 h2 c1 n1 f1 ⊢
  (repeat refine sb ?_)
  intro q hq
  by_cases h5 : p = 20
  · subst h5
    obtain rfl : q = false := by rw [hq]; simp <;> omega
    (repeat refine sb ?_)
    rw [show soF 0 x.bytes 20 = x.bytes from soF_all 0 x.bytes] at h2
    refine ldN_is rfl h2 (bytes_take (bytes5_len x)) ?_
    (repeat refine sb ?_)
    refine st_abs (cs' := bytesV x.bytes) rfl rfl h2 (by omega) rfl rfl fun s2 e2 c2 n2 => ?_
    (repeat refine sb ?_)
    (repeat (first | with_reducible refine sqRet ?_ | with_reducible refine bkRet ?_ | with_reducible refine hdRet ?_))
    exact ret_cell1 agg_A20 sz_A20 rfl e2 (bytes_take (bytes5_len x)) ⟨rfl, c1.fresh c2 (by simp)⟩
  · obtain rfl : q = true := by rw [hq]; simp <;> omega
    (repeat refine sb ?_)
    refine ⟨by decide, ?_⟩
    intro z hz
    obtain rfl : z = ((p / 4 : Nat) : Int) := by
      rw [hz, show (p : Int).tdiv 4 = ((p / 4 : Nat) : Int) from (Int.ofNat_tdiv p 4).symm, i64_id (by omega)]
    (repeat refine sb ?_)
    refine ⟨by omega, ?_⟩
    intro m hm o ho
    obtain rfl : m = p / 4 := by omega
    obtain rfl : o = p / 4 := by omega
    (repeat refine sb ?_)
    refine ldI_is rfl h1 (wds_get (show p / 4 < 5 by omega)) ?_
    (repeat refine sb ?_)
    refine ⟨by decide, ?_⟩
    intro z hz
    obtain rfl : z = ((p % 4 : Nat) : Int) := by rw [hz]; exact (Int.ofNat_tmod p 4).symm
    (repeat refine sb ?_)
    intro z hz
    obtain rfl : z = ((p % 4 * 8 : Nat) : Int) := by rw [hz, i64_id (by omega)]; omega
    (repeat refine sb ?_)
    intro z hz
    obtain rfl : z = ((24 - p % 4 * 8 : Nat) : Int) := by rw [hz, i64_id (by omega)]; omega
    (repeat refine sb ?_)
    refine ⟨by omega, ?_⟩
    intro z hz
    rw [show min ((24 - p % 4 * 8 : Nat) : Int).toNat IntKind.u32.bits = 24 - p % 4 * 8 from by
      show min ((24 - p % 4 * 8 : Nat) : Int).toNat 32 = _
      omega, shr_u32] at hz
    subst hz
    (repeat refine sb ?_)
    intro z hz
    rw [u32_u8] at hz
    subst hz
    (repeat refine sb ?_)
    refine ⟨by omega, ?_⟩
    intro m hm o ho
    obtain rfl : m = p := by omega
    obtain rfl : o = m := by omega
    (repeat refine sb ?_)
    have hg := be_get x (show o < 20 by omega)
    refine st_abs (cs' := bytesV (soF 0 x.bytes (o + 1))) rfl rfl h2 (by omega) rfl (by rw [soF_next 0 hg]; exact bytes_set (by rw [soF_len _ _ _ (by rw [bytes5_len]; omega), bytes5_len]; omega) _) fun s2 e2 c2 n2 => ?_
    (repeat refine sb ?_)
    intro z hz
    rw [i64_id (by omega)] at hz
    subst hz
    (repeat refine sb ?_)
    exact ⟨(o + 1, s2), ⟨by omega, c2.blk _ _ (by omega) (by simp) h1, e2, c1.fresh c2 (by simp), n2.trans n1, c2.fine f1⟩, by show 20 - (o + 1) < 20 - o; omega, Wk.same ⟨rfl, rfl, rfl, trivial⟩⟩

theorem wds_fl {l : List Wd} {n : Nat} (h : l.length = n) : (Nat.beq (flat (.agg ⟨wdsV l⟩)).length n && all1 (flat (.agg ⟨wdsV l⟩))) = true := by
  show (Nat.beq (wdsV l).length n && all1 (wdsV l)) = true
  rw [wds_all, wds_len, h, Nat.beq_refl]; rfl
theorem wds_lay {a l : List Wd} (h : a.length = l.length) : setRow (wdsV a) 0 (wdsV l) = some (wdsV l) := setRow_all (by rw [wds_len, wds_len, h])
theorem agB_fl {l : List UInt8} {n : Nat} (h : l.length = n) : (Nat.beq (flat (agB l)).length n && all1 (flat (agB l))) = true := by
  show (Nat.beq (bytesV l).length n && all1 (bytesV l)) = true
  rw [all1_bytesV, bytesV_len, h, Nat.beq_refl]; rfl
theorem agB_lay {a l : List UInt8} (h : a.length = l.length) : setRow (bytesV a) 0 (bytesV l) = some (bytesV l) := setRow_all (by rw [bytesV_len, bytesV_len, h])

/-! ### A block's words -/
abbrev tW80 : TypeId := 139
theorem agg_W80 : aggB pr tW80 = some true := by kernel_rfl
theorem sz_W80 : sizeB pr tW80 = some 80 := by kernel_rfl
/-- Of four bytes so far. -/
def wPart (l : List UInt8) (t j : Nat) : Wd := (((l.drop (4 * t)).take 4).take j).foldl (fun w c => w <<< 8 ||| c.toBitVec.setWidth 32) 0
theorem wPart_0 (l : List UInt8) (t : Nat) : wPart l t 0 = 0 := rfl
theorem wPart_4 (l : List UInt8) (t : Nat) : wPart l t 4 = wOf l t := by
  unfold wPart wOf
  rw [List.take_of_length_le (by rw [List.length_take]; omega)]
theorem wPart_next {l : List UInt8} {t j : Nat} {c : UInt8} (h : ((l.drop (4 * t)).take 4)[j]? = some c) : wPart l t (j + 1) = wPart l t j <<< 8 ||| c.toBitVec.setWidth 32 := by
  unfold wPart
  rw [take_next h, List.foldl_append]
  rfl
theorem schd_get (l : List UInt8) {t n : Nat} (h : t < n) : (schd l n)[t]? = some (if t < 16 then wOf l t else nxt (schd l t) t) := by
  induction n with
  | zero => omega
  | succ n ih =>
    rw [schd]
    by_cases e : t = n
    · subst e
      rw [List.getElem?_append_right (by rw [schd_len]; exact Nat.le_refl _), schd_len, Nat.sub_self]; rfl
    · rw [List.getElem?_append_left (by rw [schd_len]; omega)]
      exact ih (by omega)
theorem schd_take (l : List UInt8) {t n : Nat} (h : t ≤ n) : (schd l n).take t = schd l t := by
  induction n with
  | zero => obtain rfl : t = 0 := by omega
            rfl
  | succ n ih =>
    by_cases e : t = n + 1
    · subst e; rw [List.take_of_length_le (by rw [schd_len]; exact Nat.le_refl _)]
    · rw [schd, List.take_append_of_le_length (by rw [schd_len]; omega)]
      exact ih (by omega)
/-- The words so far, in their room. -/
def rowW (l : List UInt8) (t : Nat) : List Wd := soF 0 (schd l 80) t
theorem rowW_len (l : List UInt8) {t : Nat} (h : t ≤ 80) : (rowW l t).length = 80 := by
  unfold rowW; rw [soF_len _ _ _ (by rw [schd_len]; exact h), schd_len]
theorem rowW_0 (l : List UInt8) : rowW l 0 = List.replicate 80 0 := by unfold rowW; rw [soF_0, schd_len]
theorem rowW_80 (l : List UInt8) : rowW l 80 = schd l 80 := by
  have := soF_all (0 : Wd) (schd l 80)
  rw [schd_len] at this
  exact this
theorem rowW_next (l : List UInt8) {t : Nat} (h : t < 80) : rowW l (t + 1) = (rowW l t).set t (if t < 16 then wOf l t else nxt (schd l t) t) := soF_next 0 (schd_get l h)
theorem rowW_at (l : List UInt8) {i t : Nat} (hi : i < t) (ht : t ≤ 80) : (rowW l t).getD i 0 = (schd l t).getD i 0 := by
  unfold rowW soF
  rw [schd_take l ht, List.getD_eq_getElem?_getD, List.getD_eq_getElem?_getD, List.getElem?_append_left (by rw [schd_len]; exact hi)]
theorem rowW_new (l : List UInt8) {t : Nat} (ht : t < 80) : (rowW l t).getD t 0 = 0 := by
  unfold rowW soF
  rw [schd_take l (by omega), List.getD_eq_getElem?_getD, List.getElem?_append_right (by rw [schd_len]; exact Nat.le_refl _), schd_len, schd_len, Nat.sub_self, List.getElem?_replicate, if_pos (by omega)]
  rfl
theorem schd_64 (l : List UInt8) : schd (l.take 64) 80 = schd l 80 := by
  have hs : schd (l.take 64) = schd l := by
    funext t
    induction t with
    | zero => rfl
    | succ t ih =>
      rw [schd, schd, ih]
      by_cases ht : t < 16
      · rw [if_pos ht, if_pos ht]
        congr 2
        unfold wOf
        rw [List.drop_take, List.take_take, Nat.min_eq_left (by omega)]
      · rw [if_neg ht, if_neg ht]
  rw [hs]
theorem W5_lay (y z : W5) : setRow (wdsV y.l) 0 (flat z.V) = some (wdsV z.l) := wds_lay (a := y.l) (l := z.l) (show 5 = 5 from rfl)
theorem blk5_eq (s : W5) (l : List UInt8) : blk5 s l = s.add (rnds (schd l 80) 80 s) := rfl
theorem rnds_0 (ws : List Wd) (x : W5) : rnds ws 0 x = x := rfl
theorem rnds_next (ws : List Wd) (x : W5) (t : Nat) : rnds ws (t + 1) x = rnd t (ws.getD t 0) (rnds ws t x) := rfl
end Go.Vf.S
end
section
/- A block's words: the program. -/
namespace Go.Vf.S
open Go Go.Vf
attribute [local irreducible] wSeq wRow wp wG schd rowW wPart nxt wOf
set_option linter.unusedVariables false
set_option linter.unusedSimpArgs false
set_option maxRecDepth 10000

/-- A byte of a slice that is known to be there. -/
theorem sl_byte {s : SS} {b off n : Nat} {sp : Option Nat} {l : List UInt8} {i : Nat} (h : Rdb s (some ⟨b, off, sp⟩) n l) (hi : i < n) : sp = none ∧ ∃ c t g r, lookH s.heap b = some (.cells c t g r) ∧ c[off + i]? = some (.int .u8 (l.getD i 0).toNat) := by
  obtain ⟨rfl, c, t, g, r, h1, h2⟩ := h.at
  exact ⟨rfl, c, t, g, r, h1, h2 _ hi⟩

theorem set_set' {α : Type} (l : List α) (i : Nat) (x y : α) : (l.set i x).set i y = l.set i y := by simp
theorem getD_set' {l : List Wd} {i : Nat} {x : Wd} (h : i < l.length) : (l.set i x).getD i 0 = x := by
  rw [List.getD_eq_getElem?_getD, List.getElem?_set_self h]; rfl
theorem set_same {l : List Wd} {i : Nat} (h : i < l.length) (x : Wd) (hx : l.getD i 0 = x) : l.set i x = l := by
  subst hx
  rw [List.getD_eq_getElem?_getD, List.getElem?_eq_getElem h]
  exact List.set_getElem_self h

set_option maxHeartbeats 1000000 in
theorem spread_w {s : SS} {base : Option Addr} {n cap : Nat} {l : List UInt8} (f : Fine s) (hr : Slc pr s base n cap l) (hn : 64 ≤ n) : CallW pr n_hash_spread [.slice base n cap] s fun v s' => v = .agg ⟨wdsV (schd l 80)⟩ ∧ Chg s s' [] := by
  have hl := hr.1.1
  have hlt := hr.1.lt
  refine CallW.run good ok_hash_spread (by simp) rfl ?_
  (try refine pSeq ?_); (repeat(first|refine sb ?_|refine kNo ?_))
  refine pLoop (MW.head good (fun p : Nat × SS => 16 - p.1) (fun p => p.1 ≤ 16 ∧ lookH p.2.heap s.next = some (.cells (wdsV (rowW l p.1)) tW80 false false) ∧ Chg s p.2 [] ∧ p.2.next = s.next + 1 ∧ Fine p.2)
    (fun p => [(0, .slice base n cap), (2, ptrV s.next), (7, .int .i64 p.1)]) (fun p => p.2) (0, _) ?_ (Wk.same ⟨rfl, rfl, rfl, trivial⟩) ?_)
  · obtain ⟨h1, h2, h3⟩ := new1_at f (.cells (wdsV (List.replicate 80 0)) tW80 false false)
    exact ⟨Nat.zero_le _, by rw [rowW_0]; exact h1, h2, rfl, h3⟩
  intro ⟨p, s1⟩ ⟨hp, h1, c1, n1, f1⟩
  dsimp only at hp h1 c1 n1 f1 ⊢
  have hr1 := hr.chg c1 (by simp)
  (repeat(first|refine sb ?_|refine kNo ?_))
  intro q hq
  by_cases h5 : p = 16
  · subst h5
    obtain rfl : q = false := by rw [hq]; simp <;> omega
    (repeat(first|refine sb ?_|refine kNo ?_))
    refine pLoop (MW.head good (fun p : Nat × SS => 80 - p.1) (fun p => 16 ≤ p.1 ∧ p.1 ≤ 80 ∧ lookH p.2.heap s.next = some (.cells (wdsV (rowW l p.1)) tW80 false false) ∧ Chg s p.2 [] ∧ s.next < p.2.next ∧ Fine p.2)
      (fun p => [(2, ptrV s.next), (6, .int .i64 p.1)]) (fun p => p.2) (16, _) ⟨Nat.le_refl _, Nat.le_of_ble_eq_true rfl, h1, c1, by show s.next < s1.next; omega, f1⟩ (Wk.same ⟨rfl, rfl, trivial⟩) ?_)
    clear hp h1 c1 n1 f1 hr1 hq
    intro ⟨p, s1⟩ ⟨h16, hp, h1, c1, n1, f1⟩
    dsimp only at h16 hp h1 c1 n1 f1 ⊢
    (repeat(first|refine sb ?_|refine kNo ?_))
    intro q hq
    by_cases h5 : p = 80
    · subst h5
      obtain rfl : q = false := by rw [hq]; simp <;> omega
      (repeat(first|refine sb ?_|refine kNo ?_))
      rw [rowW_80] at h1
      refine ldN_is rfl h1 (wds_take (schd_len l 80)) ?_
      (repeat(first|refine sb ?_|refine kNo ?_))
      refine st_abs (cs' := wdsV (schd l 80)) rfl rfl h1 n1 (wds_fl (schd_len l 80)) (wds_lay rfl) fun s2 e2 c2 n2 => ?_
      (repeat(first|refine sb ?_|refine kNo ?_))
      (repeat (first | with_reducible refine sqRet ?_ | with_reducible refine bkRet ?_ | with_reducible refine hdRet ?_))
      exact ret_cell1 agg_W80 sz_W80 rfl e2 (wds_take (schd_len l 80)) ⟨rfl, c1.fresh c2 (by simp)⟩
    · obtain rfl : q = true := by rw [hq]; simp <;> omega
      (repeat(first|refine sb ?_|refine kNo ?_))
      intro z hz
      obtain rfl : z = ((p - 3 : Nat) : Int) := by rw [hz, i64_id (by omega)]; omega
      (repeat(first|refine sb ?_|refine kNo ?_))
      refine ⟨by omega, ?_⟩
      intro m hm o ho
      obtain rfl : m = p - 3 := by omega
      obtain rfl : o = p - 3 := by omega
      (repeat(first|refine sb ?_|refine kNo ?_))
      refine ldI_is rfl h1 (wds_get (by rw [rowW_len l hp]; omega)) ?_
      (repeat(first|refine sb ?_|refine kNo ?_))
      intro z hz
      obtain rfl : z = ((p - 8 : Nat) : Int) := by rw [hz, i64_id (by omega)]; omega
      (repeat(first|refine sb ?_|refine kNo ?_))
      refine ⟨by omega, ?_⟩
      intro m hm o ho
      obtain rfl : m = p - 8 := by omega
      obtain rfl : o = p - 8 := by omega
      (repeat(first|refine sb ?_|refine kNo ?_))
      refine ldI_is rfl h1 (wds_get (by rw [rowW_len l hp]; omega)) ?_
      (repeat(first|refine sb ?_|refine kNo ?_))
      intro z hz
      rw [xor_u32] at hz
      subst hz
      (repeat(first|refine sb ?_|refine kNo ?_))
      intro z hz
      obtain rfl : z = ((p - 14 : Nat) : Int) := by rw [hz, i64_id (by omega)]; omega
      (repeat(first|refine sb ?_|refine kNo ?_))
      refine ⟨by omega, ?_⟩
      intro m hm o ho
      obtain rfl : m = p - 14 := by omega
      obtain rfl : o = p - 14 := by omega
      (repeat(first|refine sb ?_|refine kNo ?_))
      refine ldI_is rfl h1 (wds_get (by rw [rowW_len l hp]; omega)) ?_
      (repeat(first|refine sb ?_|refine kNo ?_))
      intro z hz
      rw [xor_u32] at hz
      subst hz
      (repeat(first|refine sb ?_|refine kNo ?_))
      intro z hz
      obtain rfl : z = ((p - 16 : Nat) : Int) := by rw [hz, i64_id (by omega)]; omega
      (repeat(first|refine sb ?_|refine kNo ?_))
      refine ⟨by omega, ?_⟩
      intro m hm o ho
      obtain rfl : m = p - 16 := by omega
      obtain rfl : o = p - 16 := by omega
      (repeat(first|refine sb ?_|refine kNo ?_))
      refine ldI_is rfl h1 (wds_get (by rw [rowW_len l hp]; omega)) ?_
      (repeat(first|refine sb ?_|refine kNo ?_))
      intro z hz
      rw [xor_u32] at hz
      subst hz
      (repeat(first|refine sb ?_|refine kNo ?_))
      refine (rotl_w (.inl rfl)).mono fun v s2 q => ?_
      obtain ⟨rfl, rfl⟩ := q
      (repeat(first|refine sb ?_|refine kNo ?_))
      refine ⟨by omega, ?_⟩
      intro m hm o ho
      obtain rfl : m = p := by omega
      obtain rfl : o = m := by omega
      (repeat(first|refine sb ?_|refine kNo ?_))
      have hv := rowW_next l (show o < 80 by omega)
      rw [if_neg (by omega)] at hv
      refine st_abs (cs' := wdsV (rowW l (o + 1))) rfl rfl h1 n1 rfl (by
        rw [hv]
        unfold nxt
        rw [← rowW_at l (show o - 3 < o by omega) hp, ← rowW_at l (show o - 8 < o by omega) hp, ← rowW_at l (show o - 14 < o by omega) hp, ← rowW_at l (show o - 16 < o by omega) hp]
        exact wds_set (by rw [rowW_len l hp]; omega) _) fun s3 e3 c3 n3 => ?_
      (repeat(first|refine sb ?_|refine kNo ?_))
      intro z hz
      rw [i64_id (by omega)] at hz
      subst hz
      (repeat(first|refine sb ?_|refine kNo ?_))
      exact ⟨(o + 1, s3), ⟨by omega, by omega, e3, c1.fresh c3 (by simp), by show _ < s3.next; omega, c3.fine f1⟩, by show 80 - (o + 1) < 80 - o; omega, Wk.same ⟨rfl, rfl, trivial⟩⟩
  · obtain rfl : q = true := by rw [hq]; simp <;> omega
    (repeat(first|refine sb ?_|refine kNo ?_))
    intro z hz
    obtain rfl : z = ((4 * p : Nat) : Int) := by rw [hz, i64_id (by omega)]; omega
    (repeat(first|refine sb ?_|refine kNo ?_))
    intro z hz
    obtain rfl : z = ((4 * p : Nat) : Int) := by rw [hz, i64_id (by omega)]; omega
    (repeat(first|refine sb ?_|refine kNo ?_))
    intro z hz
    obtain rfl : z = ((4 * p + 4 : Nat) : Int) := by rw [hz, i64_id (by omega)]; omega
    (repeat(first|refine sb ?_|refine kNo ?_))
    refine slL_same (4 * p) 4 rfl rfl rfl hr1 rfl rfl (by omega) fun base' cap' hs hb' => ?_
    (repeat(first|refine sb ?_|refine kNo ?_))
    refine pLoop (MW.head good (fun j : Nat × SS => 4 - j.1) (fun j => j.1 ≤ 4 ∧ lookH j.2.heap s.next = some (.cells (wdsV ((rowW l p).set p (wPart l p j.1))) tW80 false false) ∧ Chg s j.2 [] ∧ j.2.next = s.next + 1 ∧ Fine j.2 ∧ Slc pr j.2 base' 4 cap' ((l.drop (4 * p)).take 4))
      (fun j => [(0, .slice base n cap), (2, ptrV s.next), (3, .int .i64 p), (7, .int .i64 p), (16, .slice base' 4 cap'), (17, .int .i64 4), (18, .int .i64 j.1)]) (fun j => j.2) (0, s1) ⟨Nat.zero_le _, ?_, c1, n1, f1, hs⟩ (Wk.same ⟨rfl, rfl, rfl, rfl, rfl, rfl, rfl, trivial⟩) ?_)
    · rw [wPart_0, set_same (by rw [rowW_len l (by omega)]; omega) _ (rowW_new l (by omega))]; exact h1
    clear h1 c1 n1 f1 hs hr1
    intro ⟨j, s1⟩ ⟨hj, h1, c1, n1, f1, hs⟩
    dsimp only at hj h1 c1 n1 f1 hs ⊢
    have hlen := rowW_len l (show p ≤ 80 by omega)
    (repeat(first|refine sb ?_|refine kNo ?_))
    intro q hq
    by_cases h6 : j = 4
    · subst h6
      obtain rfl : q = false := by rw [hq]; simp <;> omega
      (repeat(first|refine sb ?_|refine kNo ?_))
      intro z hz
      rw [i64_id (by omega)] at hz
      subst hz
      (repeat(first|refine sb ?_|refine kNo ?_))
      have hv := rowW_next l (show p < 80 by omega)
      rw [if_pos (by omega), ← wPart_4] at hv
      exact ⟨(p + 1, s1), ⟨by omega, by rw [hv]; exact h1, c1, n1, f1⟩, by show 16 - (p + 1) < 16 - p; omega, Wk.same ⟨rfl, rfl, rfl, trivial⟩⟩
    · obtain rfl : q = true := by rw [hq]; simp <;> omega
      (repeat(first|refine sb ?_|refine kNo ?_))
      have hd : ((l.drop (4 * p)).take 4)[j]? = some (((l.drop (4 * p)).take 4).getD j 0) := by
        have : j < ((l.drop (4 * p)).take 4).length := by rw [List.length_take, List.length_drop]; omega
        rw [List.getD_eq_getElem?_getD, List.getElem?_eq_getElem this]; rfl
      cases base' with
      | none => have := hs.1.1; rw [hs.1.2] at this; cases this
      | some a =>
        obtain ⟨bb, off, sp⟩ := a
        obtain ⟨rfl, cc, tt, gg, rr, k1, k2⟩ := sl_byte hs.1 (show j < 4 by omega)
        refine ⟨by omega, ?_⟩
        intro m hm o ho
        obtain rfl : m = j := by omega
        rw [Nat.mul_one] at ho
        subst ho
        (repeat(first|refine sb ?_|refine kNo ?_))
        refine ldI_is rfl k1 k2 ?_
        (repeat(first|refine sb ?_|refine kNo ?_))
        generalize hc : ((l.drop (4 * p)).take 4).getD m 0 = c at hd
        refine ⟨by omega, ?_⟩
        intro m1 hm1 o ho
        obtain rfl : m1 = p := by omega
        obtain rfl : o = m1 := by omega
        (repeat(first|refine sb ?_|refine kNo ?_))
        refine ldI_is rfl h1 (wds_get (by rw [List.length_set]; omega)) ?_
        rw [getD_set' (by omega)]
        (repeat(first|refine sb ?_|refine kNo ?_))
        intro z hz
        rw [shl_u32] at hz
        subst hz
        (repeat(first|refine sb ?_|refine kNo ?_))
        intro z hz
        rw [u8_u32] at hz
        subst hz
        (repeat(first|refine sb ?_|refine kNo ?_))
        intro z hz
        rw [or_u32] at hz
        subst hz
        (repeat(first|refine sb ?_|refine kNo ?_))
        refine ⟨by omega, ?_⟩
        intro m2 hm2 o2 ho2
        obtain rfl : m2 = o := by omega
        obtain rfl : o2 = m2 := by omega
        (repeat(first|refine sb ?_|refine kNo ?_))
        refine st_abs (cs' := wdsV ((rowW l o2).set o2 (wPart l o2 (m + 1)))) rfl rfl h1 (by omega) rfl (by
          rw [wPart_next hd]
          have h9 := wds_set (l := (rowW l o2).set o2 (wPart l o2 m)) (p := o2) (by rw [List.length_set]; omega) (wPart l o2 m <<< 8 ||| BitVec.setWidth 32 c.toBitVec)
          rw [set_set'] at h9
          exact h9) fun s2 e2 c2 n2 => ?_
        (repeat(first|refine sb ?_|refine kNo ?_))
        intro z hz
        rw [i64_id (by omega)] at hz
        subst hz
        (repeat(first|refine sb ?_|refine kNo ?_))
        exact ⟨(m + 1, s2), ⟨by omega, e2, c1.fresh c2 (by simp), by show s2.next = _; omega, c2.fine f1, hs.chg c2 (fun id hid h => by
          rw [List.mem_singleton] at h
          have := hb' id hid
          have := hlt id this
          omega)⟩, by show 4 - (m + 1) < 4 - m; omega, Wk.same ⟨rfl, rfl, rfl, rfl, rfl, rfl, rfl, trivial⟩⟩
end Go.Vf.S
end
section
/- The rounds of a block; blocks. -/
namespace Go.Vf.S
open Go Go.Vf
attribute [local irreducible] wSeq wRow wp wG schd rnds
set_option linter.unusedVariables false
set_option linter.unusedSimpArgs false
set_option maxRecDepth 10000

abbrev tPt : TypeId := 134
abbrev tP4 : TypeId := 135
theorem agg_P4 : aggB pr tP4 = some true := by kernel_rfl
theorem sz_P4 : sizeB pr tP4 = some 8 := by kernel_rfl
def ptsL : List Value := [fnV n_hash_choice, wv 0x5a827999, fnV n_hash_oddness, wv 0x6ed9eba1, fnV n_hash_majority, wv 0x8f1bbcdc, fnV n_hash_oddness, wv 0xca62c1d6]
theorem pts_take : takeN 8 (ptsL.drop 0) = some ptsL := rfl

theorem parts_w {s : SS} (f : Fine s) : CallW pr n_hash_parts [] s fun v s' => v = .agg ⟨ptsL⟩ ∧ Chg s s' [] := by
  refine CallW.run good ok_hash_parts (by simp) rfl ?_
  (try refine pSeq ?_); (repeat refine sb ?_)
  refine st_abs (cs' := ptsL) rfl rfl lkH (Nat.lt_succ_self _) rfl rfl fun s1 e1 c1 n1 => ?_
  (repeat refine sb ?_)
  (repeat (first | with_reducible refine sqRet ?_ | with_reducible refine bkRet ?_ | with_reducible refine hdRet ?_))
  exact ret_cell1 agg_P4 sz_P4 rfl e1 pts_take ⟨rfl, (Chg.new []).fresh c1 (by simp)⟩

/-- Which f is asked. -/
def fOf (q : Nat) : Nat := if q = 0 then n_hash_choice else if q = 2 then n_hash_majority else n_hash_oddness
theorem pts_cut {q : Nat} (h : q < 4) (t : Nat) (ht : t / 20 = q) : takeN 2 (ptsL.drop (q * 2)) = some [fnV (fOf q), wv (kT t)] := by
  match q, h with
  | 0, _ => unfold kT; rw [if_pos (by omega)]; rfl
  | 1, _ => unfold kT; rw [if_neg (by omega), if_pos (by omega)]; rfl
  | 2, _ => unfold kT; rw [if_neg (by omega), if_neg (by omega), if_pos (by omega)]; rfl
  | 3, _ => unfold kT; rw [if_neg (by omega), if_neg (by omega), if_neg (by omega)]; rfl
theorem f_w {s : SS} {b c d : Wd} {q : Nat} (h : q < 4) (t : Nat) (ht : t / 20 = q) : CallW pr (fOf q) [wv b, wv c, wv d] s fun v s' => v = wv (fT t b c d) ∧ s' = s := by
  match q, h with
  | 0, _ => unfold fT; rw [if_pos (by omega)]; exact choice_w
  | 1, _ => unfold fT; rw [if_neg (by omega), if_pos (by omega)]; exact odd_w
  | 2, _ => unfold fT; rw [if_neg (by omega), if_neg (by omega), if_pos (by omega)]; exact maj_w
  | 3, _ => unfold fT; rw [if_neg (by omega), if_neg (by omega), if_neg (by omega)]; exact odd_w

abbrev tU32 : TypeId := 103
theorem un_W80 : pr.underlying tW80 = some (.array 80 tU32) := by kernel_rfl
theorem sz_U32 : sizeB pr tU32 = some 1 := by kernel_rfl
theorem agg_U32 : aggB pr tU32 = some false := by kernel_rfl
theorem f_call {q : Nat} (h : q < 4) (vs : List Value) : callV pr (fnV (fOf q)) vs = some (.enter (fOf q) ([] ++ vs ++ [])) := by
  match q, h with
  | 0, _ => exact (show callV pr (fnV n_hash_choice) vs = some (.enter n_hash_choice ([] ++ vs ++ [])) by kernel_rfl)
  | 1, _ => exact (show callV pr (fnV n_hash_oddness) vs = some (.enter n_hash_oddness ([] ++ vs ++ [])) by kernel_rfl)
  | 2, _ => exact (show callV pr (fnV n_hash_majority) vs = some (.enter n_hash_majority ([] ++ vs ++ [])) by kernel_rfl)
  | 3, _ => exact (show callV pr (fnV n_hash_oddness) vs = some (.enter n_hash_oddness ([] ++ vs ++ [])) by kernel_rfl)
/-- A function that stands in a variable. -/
theorem gen_f {T : TL} {s : SS} {K : RR → Prop} {x a b c : Tmp} {ts : Array TypeId} {q : Nat} {u v w : Value} (h : q < 4) (hx : look T x = some (fnV (fOf q))) (ha : look T a = some u) (hb : look T b = some v) (hc : look T c = some w)
    (hK : K (.call (fOf q) [u, v, w])) : wN pr (.gen (.call ⟨.value (.tmp x), #[.tmp a, .tmp b, .tmp c], ts⟩)) T s K := by
  refine ⟨.call (fOf q) [u, v, w], ?_, hK⟩
  simp only [aOp, operand, operands, toTr_get, hx, ha, hb, hc, f_call h]
  rfl

set_option maxHeartbeats 1000000 in
theorem turn_w {s : SS} {x : W5} {ws : List Wd} (f : Fine s) (hw : ws.length = 80) : CallW pr n_hash_words_turn [x.V, .agg ⟨ptsL⟩, .agg ⟨wdsV ws⟩] s fun v s' => v = (rnds ws 80 x).V ∧ Chg s s' [] := by
  refine CallW.run good ok_hash_words_turn (by simp) rfl ?_
  obtain ⟨h0, h1, h2, h3, c0, f0⟩ := new4_at f (.cells (wdsV x.l) tW5 false false) (.cells ptsL tP4 false false) (.cells (wdsV ws) tW80 false false) (.cells (wdsV [0, 0, 0, 0, 0]) tW5 false false)
  (try refine pSeq ?_); (repeat(first|refine sb ?_|refine kNo ?_))
  refine ⟨by decide, ?_⟩
  intro m hm o ho
  obtain rfl : m = 0 := by omega
  obtain rfl : o = 0 := by omega
  (repeat(first|refine sb ?_|refine kNo ?_))
  refine ldI_is rfl h0 (show _ = some (wv x.a) from rfl) ?_
  (repeat(first|refine sb ?_|refine kNo ?_))
  refine ⟨by decide, ?_⟩
  intro m hm o ho
  obtain rfl : m = 1 := by omega
  obtain rfl : o = 1 := by omega
  (repeat(first|refine sb ?_|refine kNo ?_))
  refine ldI_is rfl h0 (show _ = some (wv x.b) from rfl) ?_
  (repeat(first|refine sb ?_|refine kNo ?_))
  refine ⟨by decide, ?_⟩
  intro m hm o ho
  obtain rfl : m = 2 := by omega
  obtain rfl : o = 2 := by omega
  (repeat(first|refine sb ?_|refine kNo ?_))
  refine ldI_is rfl h0 (show _ = some (wv x.c) from rfl) ?_
  (repeat(first|refine sb ?_|refine kNo ?_))
  refine ⟨by decide, ?_⟩
  intro m hm o ho
  obtain rfl : m = 3 := by omega
  obtain rfl : o = 3 := by omega
  (repeat(first|refine sb ?_|refine kNo ?_))
  refine ldI_is rfl h0 (show _ = some (wv x.d) from rfl) ?_
  (repeat(first|refine sb ?_|refine kNo ?_))
  refine ⟨by decide, ?_⟩
  intro m hm o ho
  obtain rfl : m = 4 := by omega
  obtain rfl : o = 4 := by omega
  (repeat(first|refine sb ?_|refine kNo ?_))
  refine ldI_is rfl h0 (show _ = some (wv x.e) from rfl) ?_
  (repeat(first|refine sb ?_|refine kNo ?_))
  refine ldN_is rfl h2 (wds_take hw) ?_
  (repeat(first|refine sb ?_|refine kNo ?_))
  refine pLoop (MW.head good (fun p : Nat × SS => 80 - p.1) (fun p => p.1 ≤ 80 ∧ lookH p.2.heap (s.next + 1) = some (.cells ptsL tP4 false false) ∧ lookH p.2.heap (s.next + 1 + 1 + 1) = some (.cells (wdsV [0, 0, 0, 0, 0]) tW5 false false) ∧ Chg s p.2 [] ∧ s.next + 1 + 1 + 1 + 1 ≤ p.2.next ∧ Fine p.2)
    (fun p => [(4, ptrV (s.next + 1)), (6, ptrV (s.next + 1 + 1 + 1)), (7, wv (rnds ws p.1 x).a), (8, wv (rnds ws p.1 x).b), (9, wv (rnds ws p.1 x).c), (10, wv (rnds ws p.1 x).d), (11, wv (rnds ws p.1 x).e), (25, .agg ⟨wdsV ws⟩), (26, .int .i64 p.1)])
    (fun p => p.2) (0, _) ⟨Nat.zero_le _, h1, h3, c0, Nat.le_refl _, f0⟩ (Wk.same ⟨rfl, rfl, by show _ = some (wv (rnds ws 0 x).a); rw [rnds_0]; rfl, by show _ = some (wv (rnds ws 0 x).b); rw [rnds_0]; rfl, by show _ = some (wv (rnds ws 0 x).c); rw [rnds_0]; rfl, by show _ = some (wv (rnds ws 0 x).d); rw [rnds_0]; rfl, by show _ = some (wv (rnds ws 0 x).e); rw [rnds_0]; rfl, rfl, rfl, trivial⟩) ?_)
  clear h0 h1 h2 h3 c0 f0
  intro ⟨p, s1⟩ ⟨hp, h1, h3, c1, n1, f1⟩
  dsimp only at hp h1 h3 c1 n1 f1 ⊢
  generalize hR : rnds ws p x = r
  (repeat(first|refine sb ?_|refine kNo ?_))
  intro q hq
  by_cases h5 : p = 80
  · subst h5
    obtain rfl : q = false := by rw [hq]; simp <;> omega
    (repeat(first|refine sb ?_|refine kNo ?_))
    refine st_abs (cs' := wdsV r.l) rfl rfl h3 (by omega) rfl rfl fun s2 e2 c2 n2 => ?_
    (repeat(first|refine sb ?_|refine kNo ?_))
    (repeat (first | with_reducible refine sqRet ?_ | with_reducible refine bkRet ?_ | with_reducible refine hdRet ?_))
    rw [hR]
    exact ret_cell1 agg_W5 sz_W5 rfl e2 (wds_take rfl) ⟨rfl, c1.fresh c2 (by simp; omega)⟩
  · obtain rfl : q = true := by rw [hq]; simp <;> omega
    (repeat(first|refine sb ?_|refine kNo ?_))
    refine gen_ix un_W80 sz_U32 agg_U32 rfl rfl (show p < 80 by omega) (wds_get (by omega)) ?_
    (repeat(first|refine sb ?_|refine kNo ?_))
    refine ⟨by decide, ?_⟩
    intro z hz
    obtain rfl : z = ((p / 20 : Nat) : Int) := by
      rw [hz, show (p : Int).tdiv 20 = ((p / 20 : Nat) : Int) from (Int.ofNat_tdiv p 20).symm, i64_id (by omega)]
    (repeat(first|refine sb ?_|refine kNo ?_))
    refine ⟨by omega, ?_⟩
    intro m hm o ho
    obtain rfl : m = p / 20 := by omega
    obtain rfl : o = p / 20 * 2 := by omega
    (repeat(first|refine sb ?_|refine kNo ?_))
    have hq4 : p / 20 < 4 := by omega
    refine ldN_is rfl h1 (pts_cut hq4 p rfl) ?_
    (repeat(first|refine sb ?_|refine kNo ?_))
    obtain ⟨k0, k1, k2⟩ := new1_at f1 (.cells [.nilFunc, wv 0] tPt false false)
    refine st_abs (cs' := [fnV (fOf (p / 20)), wv (kT p)]) rfl rfl k0 (Nat.lt_succ_self _) rfl rfl fun s2 e2 c2 n2 => ?_
    replace c2 := k1.fresh c2 (by simp)
    replace n2 : s2.next = s1.next + 1 := n2
    have f2 := c2.fine f1
    (repeat(first|refine sb ?_|refine kNo ?_))
    refine ld1_is rfl e2 rfl ?_
    (repeat(first|refine sb ?_|refine kNo ?_))
    refine ldI_is rfl e2 (show _ = some (wv (kT p)) from rfl) ?_
    (repeat(first|refine sb ?_|refine kNo ?_))
    refine (rotl_w (.inr (.inl rfl))).mono fun v s3 q => ?_
    obtain ⟨rfl, rfl⟩ := q
    refine kAll .refl ?_
    (repeat(first|refine sb ?_|refine kNo ?_))
    refine gen_f hq4 rfl rfl rfl rfl ?_
    (repeat(first|refine sb ?_|refine kNo ?_))
    refine (f_w hq4 p rfl).mono fun v s4 q => ?_
    obtain ⟨rfl, rfl⟩ := q
    refine kAll .refl ?_
    (repeat(first|refine sb ?_|refine kNo ?_))
    intro z hz
    rw [add_u32] at hz
    subst hz
    (repeat(first|refine sb ?_|refine kNo ?_))
    intro z hz
    rw [add_u32] at hz
    subst hz
    (repeat(first|refine sb ?_|refine kNo ?_))
    intro z hz
    rw [add_u32] at hz
    subst hz
    (repeat(first|refine sb ?_|refine kNo ?_))
    intro z hz
    rw [add_u32] at hz
    subst hz
    (repeat(first|refine sb ?_|refine kNo ?_))
    refine (rotl_w (.inr (.inr rfl))).mono fun v s5 q => ?_
    obtain ⟨rfl, rfl⟩ := q
    refine kAll .refl ?_
    (repeat(first|refine sb ?_|refine kNo ?_))
    intro z hz
    rw [i64_id (by omega)] at hz
    subst hz
    (repeat(first|refine sb ?_|refine kNo ?_))
    have hn := rnds_next ws x p
    rw [hR] at hn
    exact ⟨(p + 1, s5), ⟨by omega, c2.blk _ _ (by omega) (by simp) h1, c2.blk _ _ (by omega) (by simp) h3, c1.nil c2, by show _ ≤ s5.next; omega, f2⟩, by show 80 - (p + 1) < 80 - p; omega, Wk.same ⟨rfl, rfl, by show _ = some (wv (rnds ws (p + 1) x).a); rw [hn]; rfl, by show _ = some (wv (rnds ws (p + 1) x).b); rw [hn]; rfl, by show _ = some (wv (rnds ws (p + 1) x).c); rw [hn]; rfl, by show _ = some (wv (rnds ws (p + 1) x).d); rw [hn]; rfl, by show _ = some (wv (rnds ws (p + 1) x).e); rw [hn]; rfl, rfl, rfl, trivial⟩⟩
end Go.Vf.S
end
section
/- Blocks. -/
namespace Go.Vf.S
open Go Go.Vf
attribute [local irreducible] wSeq wRow wp wG schd rnds blks blk5
set_option linter.unusedVariables false
set_option linter.unusedSimpArgs false
set_option maxRecDepth 10000

structure TkS where
  j : Nat
  x : W5
  b : Option Addr
  c : Nat
  l : List UInt8
  s : SS

set_option maxHeartbeats 1000000 in
theorem take10_w {s : SS} {x : W5} {base : Option Addr} {n cap m : Nat} {l : List UInt8} (f : Fine s) (hr : Slc pr s base n cap l) (hn : n = 64 * m) : CallW pr n_hash_words_take [x.V, .slice base n cap] s fun v s' => v = (blks m x l).V ∧ Chg s s' [] := by
  have hl := hr.1.1
  have hlt := hr.1.lt
  refine CallW.run good ok_hash_words_take (by simp) rfl ?_
  obtain ⟨h0, h1, c0, f0⟩ := new2_at f (.cells (wdsV x.l) tW5 false false) (.cells (wdsV [0, 0, 0, 0, 0]) tW5 false false)
  (try refine pSeq ?_); (repeat(first|refine sb ?_|refine kNo ?_))
  refine (parts_w f0).mono fun v s1 q => ?_
  obtain ⟨rfl, c1⟩ := q
  have n1 := c1.next
  replace n1 : s.next + 1 + 1 ≤ s1.next := n1
  replace h0 := c1.blk _ _ (show s.next < s.next + 1 + 1 by omega) (by simp) h0
  replace h1 := c1.blk _ _ (show s.next + 1 < s.next + 1 + 1 by omega) (by simp) h1
  have f1 := c1.fine f0
  replace c0 := c0.nil c1
  (repeat(first|refine sb ?_|refine kNo ?_))
  obtain ⟨k0, k1, k2⟩ := new1_at f1 (.cells [.nilFunc, wv 0, .nilFunc, wv 0, .nilFunc, wv 0, .nilFunc, wv 0] tP4 false false)
  refine st_abs (cs' := ptsL) rfl rfl k0 (Nat.lt_succ_self _) rfl rfl fun s2 e2 c2 n2 => ?_
  replace n2 : s2.next = s1.next + 1 := n2
  replace h0 := c2.blk _ _ (show s.next < s1.next + 1 by omega) (by simp; omega) (k1.blk _ _ (by omega) (by simp) h0)
  replace h1 := c2.blk _ _ (show s.next + 1 < s1.next + 1 by omega) (by simp; omega) (k1.blk _ _ (by omega) (by simp) h1)
  replace c2 := k1.fresh c2 (by simp)
  have f2 := c2.fine f1
  replace c0 := c0.nil c2
  (repeat(first|refine sb ?_|refine kNo ?_))
  refine pLoop (MW.head good (fun p : TkS => p.j) (fun p => p.l.length = 64 * p.j ∧ blks p.j p.x p.l = blks m x l ∧ Slc pr p.s p.b (64 * p.j) p.c p.l ∧ lookH p.s.heap s.next = some (.cells (wdsV p.x.l) tW5 false false) ∧ lookH p.s.heap (s.next + 1) = some (.cells (wdsV [0, 0, 0, 0, 0]) tW5 false false)
      ∧ lookH p.s.heap s1.next = some (.cells ptsL tP4 false false) ∧ (∀ id ∈ blkOf p.b, id < s.next) ∧ Chg s p.s [] ∧ s1.next < p.s.next ∧ Fine p.s)
    (fun p => [(1, .slice p.b (64 * p.j : Nat) p.c), (2, ptrV s.next), (4, ptrV (s.next + 1)), (5, ptrV s1.next)]) (fun p => p.s) ⟨m, x, base, cap, l, s2⟩ ⟨by rw [← hl, hn], rfl, by rw [← hn]; exact hr.chg c0 (by simp), h0, h1, e2, hlt, c0, by show s1.next < s2.next; omega, f2⟩ (Wk.same ⟨by rw [hn]; rfl, rfl, rfl, rfl, trivial⟩) ?_)
  clear h0 h1 e2 c0 f2 c2 n2 k0 k1 k2 f1 f0 c1
  intro ⟨j, y, bb, cc, z, s3⟩ ⟨hj, hb, hs, h0, h1, e2, hid, c0, n2, f2⟩
  dsimp only at hj hb hs h0 h1 e2 hid c0 n2 f2 ⊢
  (repeat(first|refine sb ?_|refine kNo ?_))
  intro q hq
  by_cases h5 : j = 0
  · subst h5
    obtain rfl : q = false := by rw [hq]; simp <;> omega
    (repeat(first|refine sb ?_|refine kNo ?_))
    rw [show blks (TkS.mk 0 y bb cc z s3).j y z = y from blks_0 y z] at hb
    subst hb
    refine ldN_is rfl h0 (wds_take rfl) ?_
    (repeat(first|refine sb ?_|refine kNo ?_))
    refine st_abs (cs' := wdsV (blks m x l).l) rfl rfl h1 (by omega) rfl rfl fun s4 e4 c4 n4 => ?_
    (repeat(first|refine sb ?_|refine kNo ?_))
    (repeat (first | with_reducible refine sqRet ?_ | with_reducible refine bkRet ?_ | with_reducible refine hdRet ?_))
    exact ret_cell1 agg_W5 sz_W5 rfl e4 (wds_take rfl) ⟨rfl, c0.fresh c4 (by simp)⟩
  · obtain rfl : q = true := by rw [hq]; simp <;> omega
    (repeat(first|refine sb ?_|refine kNo ?_))
    refine ldN_is rfl h0 (wds_take rfl) ?_
    (repeat(first|refine sb ?_|refine kNo ?_))
    refine ldN_is rfl h0 (wds_take rfl) ?_
    (repeat(first|refine sb ?_|refine kNo ?_))
    refine ldN_is rfl e2 pts_take ?_
    (repeat(first|refine sb ?_|refine kNo ?_))
    refine (spread_w f2 hs (by omega)).mono fun v s4 q => ?_
    obtain ⟨rfl, c4⟩ := q
    have n4 := c4.next
    refine kAll (c4.keep f2) ?_
    (repeat(first|refine sb ?_|refine kNo ?_))
    refine (turn_w (c4.fine f2) (schd_len z 80)).mono fun v s5 q => ?_
    obtain ⟨rfl, c5⟩ := q
    have n5 := c5.next
    refine kAll (c5.keep (c4.fine f2)) ?_
    (repeat(first|refine sb ?_|refine kNo ?_))
    refine (addw_w (c5.fine (c4.fine f2))).mono fun v s6 q => ?_
    obtain ⟨rfl, c6⟩ := q
    have n6 := c6.next
    have c46 := (c4.nil c5).nil c6
    have eb : y.add (rnds (schd z 80) 80 y) = blk5 y (z.take 64) := by rw [blk5_eq, schd_64]
    rw [eb]
    generalize hy : blk5 y (z.take 64) = y'
    (repeat(first|refine sb ?_|refine kNo ?_))
    refine st_abs (cs' := wdsV y'.l) rfl rfl (c46.blk _ _ (by omega) (by simp) h0) (by omega) rfl (W5_lay y y') fun s7 e7 c7 n7 => ?_
    (repeat(first|refine sb ?_|refine kNo ?_))
    have c37 := c46.trans' (C := [s.next]) c7 (by simp) (by simp)
    have hs7 := hs.chg c37 (fun id h h' => by
      rw [List.mem_singleton] at h'
      have := hid id h
      omega)
    refine slL_same 64 (64 * (j - 1)) rfl rfl rfl hs7 rfl (show 64 + 64 * (j - 1) = 64 * j by omega) (by omega) fun b' c' hs' hb' => ?_
    (repeat(first|refine sb ?_|refine kNo ?_))
    have ed : (z.drop 64).take (64 * (j - 1)) = z.drop 64 := List.take_of_length_le (by rw [List.length_drop]; omega)
    rw [ed] at hs'
    refine ⟨⟨j - 1, y', b', c', z.drop 64, s7⟩, ⟨by show (z.drop 64).length = 64 * (j - 1); rw [List.length_drop]; omega, ?_, hs', e7, c37.blk _ _ (by omega) (by simp) h1, c37.blk _ _ (by omega) (by simp; omega) e2, fun id h => hid id (hb' id h), c0.fresh c37 (by simp), by show s1.next < s7.next; omega, c37.fine f2⟩, by show j - 1 < j; omega, Wk.same ⟨rfl, rfl, rfl, rfl, trivial⟩⟩
    rw [← hb, ← hy]
    show blks (j - 1) (blk5 y (z.take 64)) (z.drop 64) = blks j y z
    rw [← blks_next, show j - 1 + 1 = j by omega]
end Go.Vf.S
end
section
/- What is hashed last. -/
namespace Go.Vf.S
open Go Go.Vf
attribute [local irreducible] wSeq wRow wp wG schd rnds blks blk5
set_option linter.unusedVariables false
set_option linter.unusedSimpArgs false
set_option maxRecDepth 10000

theorem be8_get (n : Nat) {p : Nat} (h : p < 8) : (be8 n)[p]? = some (UInt8.ofNat (n / 256 ^ (7 - p))) := by
  unfold be8
  rw [List.getElem?_map, List.getElem?_range h]; rfl
theorem be8_next (n : Nat) {p : Nat} (h : p < 8) : (be8 n).take (p + 1) = (be8 n).take p ++ [UInt8.ofNat (n / 256 ^ (7 - p))] := take_next (be8_get n h)
theorem shr_byte {n p : Nat} (hp : p < 8) {z : Int} (hz : z = (n : Int).fdiv (2 ^ (min ((56 - 8 * p : Nat) : Int).toNat IntKind.u64.bits))) : IntKind.wrap .u8 z = ((UInt8.ofNat (n / 256 ^ (7 - p))).toNat : Int) := by
  have e1 : min ((56 - 8 * p : Nat) : Int).toNat IntKind.u64.bits = 8 * (7 - p) := by
    show min ((56 - 8 * p : Nat) : Int).toNat 64 = _
    omega
  rw [hz, e1, fdiv_pow, wrap_u8, Nat.pow_mul]
  simp

set_option maxHeartbeats 1000000 in
theorem ending_w {s : SS} {base : Option Addr} {n cap many : Nat} {l : List UInt8} (f : Fine s) (hr : Slc pr s base n cap l) (hn : n < 64) (hm : many % 64 = n) (hM : many < 2 ^ 40) :
    CallW pr n_hash_ending [.slice base n cap, .int .u64 many] s fun v s' => ∃ b, v = .slice (some ⟨b, 0, none⟩) (n + 9 + zrs many) 128 ∧ Room s' b 128 (l ++ endF many) ∧ s.next ≤ b ∧ Chg s s' [] := by
  have hl := hr.1.1
  have hz : zrs many < 64 := by unfold zrs; omega
  have hz2 : n + 9 + zrs many ≤ 128 := by unfold zrs; omega
  refine CallW.run good ok_hash_ending (by simp) rfl ?_
  (try refine pSeq ?_); (repeat refine sb ?_)
  refine ⟨by decide, ?_⟩
  intro m1 n1 hm1 hn1 cs hcs
  obtain rfl : m1 = 0 := by omega
  obtain rfl : n1 = 128 := by omega
  rw [rep_bytes] at hcs
  subst hcs
  (repeat refine sb ?_)
  have hro0 : Room { s with heap := (s.next, some (.cells (bytesV (List.replicate 128 0)) tB false false)) :: s.heap, next := s.next + 1 } s.next 128 [] := ⟨Nat.lt_succ_self _, by simp, lkH⟩
  have c0 : Chg s { s with heap := (s.next, some (.cells (bytesV (List.replicate 128 0)) tB false false)) :: s.heap, next := s.next + 1 } [] := .new []
  have hr0 := hr.chg c0 (by simp)
  refine app_room hro0 rfl rfl rfl hr0.1 (by omega) (by omega) fun s1 r1 c1 n1 => ?_
  (repeat refine sb ?_)
  replace n1 : s1.next = s.next + 1 := n1
  replace c1 := c0.fresh c1 (by simp)
  rw [List.nil_append] at r1
  rw [Nat.zero_add]
  refine app_byte (c := 0x80) r1 rfl rfl hl rfl (by omega) (by omega) fun s2 r2 c2 n2 => ?_
  replace c2 := c1.fresh c2 (by simp)
  have f2 := c2.fine f
  (repeat refine sb ?_)
  refine pLoop (MW.head good (fun p : Nat × SS => zrs many - p.1) (fun p => p.1 ≤ zrs many ∧ Room p.2 s.next 128 (l ++ [0x80] ++ List.replicate p.1 0) ∧ Chg s p.2 [])
    (fun p => [(1, .int .u64 many), (5, .slice (some ⟨s.next, 0, none⟩) (n + 1 + p.1) 128)]) (fun p => p.2) (0, s2) ⟨Nat.zero_le _, by simpa using r2, c2⟩ (Wk.same ⟨rfl, rfl, trivial⟩) ?_)
  clear r2 c2 f2 r1 c1 n2 n1 hro0 c0 hr0
  intro ⟨k, s3⟩ ⟨hk, r3, c3⟩
  dsimp only at hk r3 c3 ⊢
  have hlen : (l ++ [0x80] ++ List.replicate k 0).length = n + 1 + k := by simp; omega
  (repeat refine sb ?_)
  refine ⟨by decide, ?_⟩
  intro z hz
  obtain rfl : z = (((n + 1 + k) % 64 : Nat) : Int) := by rw [hz]; exact (Int.ofNat_tmod (n + 1 + k) 64).symm
  (repeat refine sb ?_)
  intro q hq
  by_cases h5 : k = zrs many
  · obtain rfl : q = false := by
      rw [hq]
      unfold zrs at h5
      simp
      omega
    (repeat refine sb ?_)
    subst h5
    clear hq
    intro z hz
    obtain rfl : z = ((8 * many : Nat) : Int) := by rw [hz, wrap_u64]; omega
    (repeat refine sb ?_)
    refine pLoop (MW.head good (fun p : Nat × SS => 8 - p.1) (fun p => p.1 ≤ 8 ∧ Room p.2 s.next 128 (l ++ [0x80] ++ List.replicate (zrs many) 0 ++ (be8 (8 * many)).take p.1) ∧ Chg s p.2 [])
      (fun p => [(5, .slice (some ⟨s.next, 0, none⟩) (n + 1 + zrs many + p.1) 128), (6, .int .u64 ((8 * many : Nat) : Int)), (7, .int .i64 (56 - 8 * (p.1 : Int)))]) (fun p => p.2) (0, s3) ⟨Nat.zero_le _, by rw [List.take_zero, List.append_nil]; exact r3, c3⟩ (Wk.same ⟨rfl, rfl, rfl, trivial⟩) ?_)
    clear r3 c3
    intro ⟨p, s4⟩ ⟨hp, r4, c4⟩
    dsimp only at hp r4 c4 ⊢
    have hlen4 : (l ++ [0x80] ++ List.replicate (zrs many) 0 ++ (be8 (8 * many)).take p).length = n + 1 + zrs many + p := by
      rw [List.length_append, hlen, List.length_take, be8_len]; omega
    (repeat refine sb ?_)
    intro q hq
    by_cases h6 : p = 8
    · subst h6
      obtain rfl : q = false := by rw [hq]; simp <;> omega
      (repeat refine sb ?_)
      refine ⟨s.next, by rw [show n + 9 + zrs many = n + 1 + zrs many + 8 by omega]; rfl, ?_, Nat.le_refl _, c4⟩
      have e : l ++ endF many = l ++ [0x80] ++ List.replicate (zrs many) 0 ++ (be8 (8 * many)).take 8 := by
        rw [List.take_of_length_le (by rw [be8_len]; exact Nat.le_refl _)]
        unfold endF
        simp only [List.append_assoc, List.cons_append, List.nil_append]
      rw [e]
      exact r4
    · obtain rfl : q = true := by rw [hq]; simp <;> omega
      (repeat refine sb ?_)
      refine ⟨by omega, ?_⟩
      intro z hz
      (repeat refine sb ?_)
      intro z1 hz1
      have e1 : ((56 - 8 * p : Nat) : Int) = 56 - 8 * (p : Int) := by omega
      rw [← e1] at hz
      rw [shr_byte (by omega) hz] at hz1
      (repeat refine sb ?_)
      refine app_byte (c := UInt8.ofNat (8 * many / 256 ^ (7 - p))) r4 hz1 rfl hlen4.symm rfl (by omega) (by omega) fun s5 r5 c5 n5 => ?_
      (repeat refine sb ?_)
      intro z2 hz2
      obtain rfl : z2 = 56 - 8 * ((p + 1 : Nat) : Int) := by rw [hz2, i64_id (by omega)]; omega
      (repeat refine sb ?_)
      exact ⟨(p + 1, s5), ⟨by omega, by rw [be8_next _ (by omega), ← List.append_assoc]; exact r5, c4.fresh c5 (by simp)⟩, by show 8 - (p + 1) < 8 - p; omega, Wk.same ⟨rfl, rfl, rfl, trivial⟩⟩
  · obtain rfl : q = true := by
      rw [hq]
      unfold zrs at h5 hk
      simp
      omega
    (repeat refine sb ?_)
    refine app_byte (c := 0) r3 rfl rfl hlen.symm rfl (by omega) (by omega) fun s4 r4 c4 n4 => ?_
    (repeat refine sb ?_)
    exact ⟨(k + 1, s4), ⟨by omega, by rw [List.replicate_succ', ← List.append_assoc]; exact r4, c3.fresh c4 (by simp)⟩, by show zrs many - (k + 1) < zrs many - k; omega, Wk.same ⟨rfl, rfl, trivial⟩⟩
end Go.Vf.S
end
section
/- SHA-1 and HMAC: the program. -/
namespace Go.Vf.S
open Go Go.Vf
attribute [local irreducible] wSeq wRow wp wG schd rnds blks blk5
set_option linter.unusedVariables false
set_option linter.unusedSimpArgs false
set_option maxRecDepth 10000

set_option maxHeartbeats 1000000 in
theorem finish_w {s : SS} {x : W5} {base : Option Addr} {n cap ahead : Nat} {l : List UInt8} (f : Fine s) (hr : Slc pr s base n cap l) (ha : ahead % 64 = 0) (hM : ahead + n < 2 ^ 30) :
    CallW pr n_hash_words_finish [x.V, .slice base n cap, .int .u64 ahead] s fun v s' => v = agB (blks ((l ++ endF (ahead + n)).length / 64) x (l ++ endF (ahead + n))).bytes ∧ Chg s s' [] := by
  have hl := hr.1.1
  have hlt := hr.1.lt
  refine CallW.run good ok_hash_words_finish (by simp) rfl ?_
  obtain ⟨h0, h1, c0, f0⟩ := new2_at f (.cells (wdsV x.l) tW5 false false) (.cells (bytesV zs20) tA20 false false)
  have hr0 := hr.chg c0 (by simp)
  (try refine pSeq ?_); (repeat(first|refine sb ?_|refine kNo ?_))
  refine ⟨by decide, ?_⟩
  intro z hz
  obtain rfl : z = ((n % 64 : Nat) : Int) := by rw [hz]; exact (Int.ofNat_tmod n 64).symm
  (repeat(first|refine sb ?_|refine kNo ?_))
  intro z hz
  obtain rfl : z = ((n / 64 * 64 : Nat) : Int) := by rw [hz, i64_id (by omega)]; omega
  (repeat(first|refine sb ?_|refine kNo ?_))
  refine ldN_is rfl h0 (wds_take rfl) ?_
  (repeat(first|refine sb ?_|refine kNo ?_))
  refine slL_same 0 (n / 64 * 64) rfl rfl rfl hr0 rfl (show _ = _ by simp) (by omega) fun b1 c1 hs1 hb1 => ?_
  (repeat(first|refine sb ?_|refine kNo ?_))
  refine slL_same (n / 64 * 64) (n % 64) rfl rfl rfl hr0 rfl (show _ = _ by omega) (by omega) fun b2 c2 hs2 hb2 => ?_
  (repeat(first|refine sb ?_|refine kNo ?_))
  intro z hz
  obtain rfl : z = (n : Int) := by rw [hz, wrap_u64]; omega
  (repeat(first|refine sb ?_|refine kNo ?_))
  intro z hz
  obtain rfl : z = ((ahead + n : Nat) : Int) := by rw [hz, wrap_u64]; omega
  (repeat(first|refine sb ?_|refine kNo ?_))
  refine (take10_w (m := n / 64) f0 hs1 (by omega)).mono fun v s1 q => ?_
  obtain ⟨rfl, k1⟩ := q
  have f1 := k1.fine f0
  have n1 := k1.next
  replace n1 : s.next + 1 + 1 ≤ s1.next := n1
  refine kAll (k1.keep f0) ?_
  (repeat(first|refine sb ?_|refine kNo ?_))
  refine (ending_w (many := ahead + n) f1 (hs2.chg k1 (by simp)) (by omega) (by omega) (by omega)).mono fun v s2 q => ?_
  obtain ⟨b, rfl, r2, hb, k2⟩ := q
  have f2 := k2.fine f1
  have n2 := k2.next
  (repeat(first|refine sb ?_|refine kNo ?_))
  have hl2 : ((l.drop (n / 64 * 64)).take (n % 64) ++ endF (ahead + n)).length = n % 64 + 9 + zrs (ahead + n) := by
    rw [List.length_append, List.length_take, List.length_drop, endF_len]; omega
  have hs := r2.slc
  rw [hl2] at hs
  have hz9 : (n % 64 + 9 + zrs (ahead + n)) % 64 = 0 := by
    unfold zrs; omega
  refine (take10_w (m := (n % 64 + 9 + zrs (ahead + n)) / 64) f2 hs (by omega)).mono fun v s3 q => ?_
  obtain ⟨rfl, k3⟩ := q
  have f3 := k3.fine f2
  have n3 := k3.next
  (repeat(first|refine sb ?_|refine kNo ?_))
  have e : blks ((n % 64 + 9 + zrs (ahead + n)) / 64) (blks (n / 64) x ((l.drop 0).take (n / 64 * 64))) ((l.drop (n / 64 * 64)).take (n % 64) ++ endF (ahead + n)) = blks ((l ++ endF (ahead + n)).length / 64) x (l ++ endF (ahead + n)) := by
    rw [← blks_app _ _ _ _ _ (by rw [List.length_take, List.length_drop]; omega), ← List.append_assoc, List.drop_zero, List.take_of_length_le (l := l.drop (n / 64 * 64)) (by rw [List.length_drop]; omega), List.take_append_drop]
    congr 1
    rw [List.length_append, endF_len]
    omega
  rw [e]
  generalize blks ((l ++ endF (ahead + n)).length / 64) x (l ++ endF (ahead + n)) = y
  refine (bytes5_w f3).mono fun v s4 q => ?_
  obtain ⟨rfl, k4⟩ := q
  have n4 := k4.next
  have k := ((k1.nil k2).nil k3).nil k4
  (repeat(first|refine sb ?_|refine kNo ?_))
  refine st_abs (cs' := bytesV y.bytes) rfl rfl (k.blk _ _ (show s.next + 1 < s.next + 1 + 1 by omega) (by simp) h1) (show s.next + 1 < s4.next by omega) (agB_fl (bytes5_len y)) (agB_lay (a := zs20) rfl) fun s5 e5 k5 n5 => ?_
  (repeat(first|refine sb ?_|refine kNo ?_))
  (repeat (first | with_reducible refine sqRet ?_ | with_reducible refine bkRet ?_ | with_reducible refine hdRet ?_))
  exact ret_cell1 agg_A20 sz_A20 rfl e5 (bytes_take (bytes5_len y)) ⟨rfl, (c0.nil k).fresh k5 (by simp)⟩

theorem sha1_w {s : SS} {base : Option Addr} {n cap : Nat} {l : List UInt8} (f : Fine s) (hr : Slc pr s base n cap l) (hM : n < 2 ^ 30) : CallW pr n_hash_Sha1 [.slice base n cap] s fun v s' => v = agB (sha l) ∧ Chg s s' [] := by
  have hl := hr.1.1
  refine CallW.run good ok_hash_Sha1 (by simp) rfl ?_
  obtain ⟨h0, c0, f0⟩ := new1_at f (.cells (bytesV zs20) tA20 false false)
  (try refine pSeq ?_); (repeat refine sb ?_)
  refine (start10_w f0).mono fun v s1 q => ?_
  obtain ⟨rfl, k1⟩ := q
  have n1 := k1.next
  replace n1 : s.next + 1 ≤ s1.next := n1
  have f1 := k1.fine f0
  (repeat refine sb ?_)
  refine (finish_w (ahead := 0) f1 ((hr.chg c0 (by simp)).chg k1 (by simp)) rfl (by omega)).mono fun v s2 q => ?_
  obtain ⟨rfl, k2⟩ := q
  have n2 := k2.next
  rw [Nat.zero_add, show blks ((l ++ endF n).length / 64) ini5 (l ++ endF n) = sha5 l by rw [hl]; rfl]
  have k := k1.nil k2
  (repeat refine sb ?_)
  refine st_abs (cs' := bytesV (sha l)) rfl rfl (k.blk _ _ (show s.next < s.next + 1 by omega) (by simp) h0) (show s.next < s2.next by omega) (agB_fl (sha_len l)) (agB_lay (a := zs20) rfl) fun s3 e3 k3 n3 => ?_
  (repeat refine sb ?_)
  (repeat (first | with_reducible refine sqRet ?_ | with_reducible refine bkRet ?_ | with_reducible refine hdRet ?_))
  exact ret_cell1 agg_A20 sz_A20 rfl e3 (bytes_take (sha_len l)) ⟨rfl, (c0.nil k).fresh k3 (by simp)⟩

theorem toInt8 (x : UInt8) : BitVec.ofInt 8 (x.toNat : Int) = x.toBitVec := by
  apply BitVec.eq_of_toNat_eq
  have := x.toNat_lt
  rw [BitVec.toNat_ofInt, UInt8.toNat_toBitVec]
  omega
theorem xor_u8 (x y : UInt8) : IntKind.wrap .u8 ((BitVec.ofInt IntKind.u8.bits (x.toNat : Int) ^^^ BitVec.ofInt IntKind.u8.bits (y.toNat : Int)).toNat : Int) = ((x ^^^ y).toNat : Int) := by
  show IntKind.wrap .u8 ((BitVec.ofInt 8 (x.toNat : Int) ^^^ BitVec.ofInt 8 (y.toNat : Int)).toNat : Int) = _
  rw [toInt8, toInt8, ← UInt8.toBitVec_xor, UInt8.toNat_toBitVec]
  exact byte_id _
abbrev tA64 : TypeId := 71
theorem agg_A64 : aggB pr tA64 = some true := by kernel_rfl
theorem sz_A64 : sizeB pr tA64 = some 64 := by kernel_rfl
def zs64 : List UInt8 := List.replicate 64 0

theorem padded_w {s : SS} {l : List UInt8} {c : UInt8} (f : Fine s) (hl : l.length = 64) : CallW pr n_hash_padded [agB l, .int .u8 c.toNat] s fun v s' => v = agB (xorF c l) ∧ Chg s s' [] := by
  refine CallW.run good ok_hash_padded (by simp) rfl ?_
  obtain ⟨h0, h1, c0, f0⟩ := new2_at f (.cells (bytesV l) tA64 false false) (.cells (bytesV zs64) tA64 false false)
  (try refine pSeq ?_); (repeat refine sb ?_)
  refine pLoop (MW.head good (fun p : Nat × SS => 64 - p.1) (fun p => p.1 ≤ 64 ∧ lookH p.2.heap s.next = some (.cells (bytesV (mixI (fun _ x => x ^^^ c) l p.1)) tA64 false false) ∧ lookH p.2.heap (s.next + 1) = some (.cells (bytesV zs64) tA64 false false) ∧ Chg s p.2 [] ∧ p.2.next = s.next + 1 + 1)
    (fun p => [(1, .int .u8 c.toNat), (2, ptrV s.next), (4, ptrV (s.next + 1)), (6, .int .i64 p.1)]) (fun p => p.2) (0, _) ⟨Nat.zero_le _, by rw [mixI_0]; exact h0, h1, c0, rfl⟩ (Wk.same ⟨rfl, rfl, rfl, rfl, trivial⟩) ?_)
  clear h0 h1 c0 f0
  intro ⟨p, s1⟩ ⟨hp, h0, h1, c0, n1⟩
  dsimp only at hp h0 h1 c0 n1 ⊢
  have hml := mixI_len (fun _ x => x ^^^ c) l p
  (repeat refine sb ?_)
  intro q hq
  by_cases h5 : p = 64
  · subst h5
    obtain rfl : q = false := by rw [hq]; simp <;> omega
    rw [mixI_end (by omega), mapIdx_const] at h0
    have hx : (xorF c l).length = 64 := by unfold xorF; rw [List.length_map, hl]
    (repeat refine sb ?_)
    refine ldN_is rfl h0 (bytes_take hx) ?_
    (repeat refine sb ?_)
    refine st_abs (cs' := bytesV (xorF c l)) rfl rfl h1 (by omega) (agB_fl hx) (agB_lay (a := zs64) hx.symm) fun s2 e2 c2 n2 => ?_
    (repeat refine sb ?_)
    (repeat (first | with_reducible refine sqRet ?_ | with_reducible refine bkRet ?_ | with_reducible refine hdRet ?_))
    exact ret_cell1 agg_A64 sz_A64 rfl e2 (bytes_take hx) ⟨rfl, c0.fresh c2 (by simp)⟩
  · obtain rfl : q = true := by rw [hq]; simp <;> omega
    (repeat refine sb ?_)
    obtain ⟨x, hx⟩ : ∃ x, l[p]? = some x := ⟨_, List.getElem?_eq_getElem (by omega)⟩
    refine ⟨by omega, ?_⟩
    intro m hm o ho
    obtain rfl : m = p := by omega
    obtain rfl : o = m := by omega
    (repeat refine sb ?_)
    refine ldI_is rfl h0 (bytes_get (mixI_at hx)) ?_
    (repeat refine sb ?_)
    intro z hz
    rw [xor_u8] at hz
    subst hz
    (repeat refine sb ?_)
    refine ⟨by omega, ?_⟩
    intro m1 hm1 o1 ho1
    obtain rfl : m1 = o := by omega
    obtain rfl : o1 = m1 := by omega
    (repeat refine sb ?_)
    refine st_abs (cs' := bytesV (mixI (fun _ x => x ^^^ c) l (o1 + 1))) rfl rfl h0 (by omega) rfl (by rw [mixI_next hx]; exact bytes_set (by omega) _) fun s2 e2 c2 n2 => ?_
    (repeat refine sb ?_)
    intro z hz
    rw [i64_id (by omega)] at hz
    subst hz
    (repeat refine sb ?_)
    exact ⟨(o1 + 1, s2), ⟨by omega, e2, c2.blk _ _ (by omega) (by simp) h1, c0.fresh c2 (by simp), n2.trans n1⟩, by show 64 - (o1 + 1) < 64 - o1; omega, Wk.same ⟨rfl, rfl, rfl, rfl, trivial⟩⟩
end Go.Vf.S
end
section
/- A key filled up; HMAC: the program. -/
namespace Go.Vf.S
open Go Go.Vf
attribute [local irreducible] wSeq wRow wp wG schd rnds blks blk5 sha fillF
set_option linter.unusedVariables false
set_option linter.unusedSimpArgs false
set_option maxRecDepth 10000

/-- Bytes laid over the front of others, perhaps none. -/
theorem cpy_any10 {T : TL} {s : SS} {x y : Operand} {d : Option Tmp} {ml : List MOper} {R : TL → SS → Prop} {b dl c1 n c : Nat} {tt : TypeId} {a l : List UInt8} {sb : Option Addr} (hx : opd T s.gl x = some (.slice (some ⟨b, 0, none⟩) dl c1)) (hb : lookH s.heap b = some (.cells (bytesV a) tt false false)) (hlt : b < s.next) (hy : opd T s.gl y = some (.slice sb n c)) (hr : Rdb s sb n l) (hdl : n ≤ dl) (hlen : n ≤ a.length)
    (h : ∀ s' : SS, lookH s'.heap b = some (.cells (bytesV (l ++ a.drop n)) tt false false) → Chg s s' [b] → Box (wSeq pr ml (putL T d (.int .i64 n)) s' R)) : wN pr (.cpy 1 x y) T s (stepK pr d ml T s R) := by
  rcases Nat.eq_zero_or_pos n with h0 | h0
  · subst h0
    have hl : l = [] := List.eq_nil_of_length_eq_zero hr.1.symm
    subst hl
    have key := h s (by simpa using hb) (.refl _ _)
    simp only [wN, hx, hy]
    cases sb with
    | none =>
      have e : min 0 dl = 0 := Nat.zero_min dl
      refine ⟨fun _ => ?_, fun q => by omega⟩
      rw [e]
      exact key
    | some q =>
      obtain ⟨b2, o2, sp2⟩ := q
      obtain ⟨-, rfl, -, cc, t, g2, r, h2, h3, -⟩ := hr
      simp only [wSrcN, h2]
      have e : min 0 dl = 0 := Nat.zero_min dl
      refine ⟨[], ?_, fun _ => ?_, fun q => by omega⟩
      · rw [e, Nat.zero_mul]; exact h3
      · rw [e]; exact key
  · refine cpy_own hx hb hy hr h0 hdl (by omega) ?_
    have e : a.take 0 ++ l ++ a.drop (0 + n) = l ++ a.drop n := by simp
    rw [e]
    exact h _ lkH (.turn hlt)

theorem slA_is10 {P : Program} {T : TL} {s : SS} {K : RR → Prop} {n z b off : Nat} {x : Operand} {lo hi : Option Operand} {cs : List Value} {t : TypeId} {r : Bool} {vl vh : Option Value} (i k : Nat) (hx : opd T s.gl x = some (.pointer (some ⟨b, off, none⟩))) (hb : lookH s.heap b = some (.cells cs t false r))
    (hl : opdO T s.gl lo = some vl) (hh : opdO T s.gl hi = some vh) (h1 : isBnd vh n k) (h2 : isBnd vl 0 i) (hik : i ≤ k) (hkn : k ≤ n) (h : K (.val (.slice (some ⟨b, if n = i then off else off + i * z, none⟩) (k - i) (n - i)))) : wN P (.slA n z x lo hi) T s K := by
  simp only [wN, hx, hb, hl, hh]
  refine wBnd_is h1 hkn (wBnd_is h2 hik ?_)
  intro o m d ho hm hd
  rw [ho, hm, hd]
  exact h

theorem fill10_w {s : SS} {base : Option Addr} {n cap : Nat} {k : List UInt8} (f : Fine s) (hr : Slc pr s base n cap k) (hM : n < 2 ^ 30) : CallW pr n_hash_fill [.slice base n cap] s fun v s' => v = agB (fillF k) ∧ Chg s s' [] := by
  have hk := hr.1.1
  refine CallW.run good ok_hash_fill (by simp) rfl ?_
  obtain ⟨h0, c0, f0⟩ := new1_at f (.cells (bytesV zs64) tA64 false false)
  have hr0 := hr.chg c0 (by simp)
  (try refine pSeq ?_); (repeat refine sb ?_)
  intro q hq
  by_cases h6 : 64 < n
  · obtain rfl : q = true := by rw [hq]; simp <;> omega
    (repeat refine sb ?_)
    refine (sha1_w f0 hr0 hM).mono fun v s1 q => ?_
    obtain ⟨rfl, k1⟩ := q
    have f1 := k1.fine f0
    have n1 := k1.next
    replace n1 : s.next + 1 ≤ s1.next := n1
    have g0 := k1.blk _ _ (show s.next < s.next + 1 by omega) (by simp) h0
    (repeat refine sb ?_)
    obtain ⟨m0, m1, m2⟩ := new1_at f1 (.cells (bytesV zs20) tA20 false false)
    refine st_abs (cs' := bytesV (sha k)) rfl rfl m0 (Nat.lt_succ_self _) (agB_fl (sha_len k)) (agB_lay (a := zs20) (sha_len k).symm) fun s2 e2 c2 n2 => ?_
    replace n2 : s2.next = s1.next + 1 := n2
    have g2 := c2.blk _ _ (show s.next < s1.next + 1 by omega) (by simp; omega) (m1.blk _ _ (show s.next < s1.next by omega) (by simp) g0)
    replace c2 := (c0.nil k1).nil (m1.fresh c2 (by simp))
    (repeat refine sb ?_)
    refine slA_is10 0 20 rfl e2 rfl rfl rfl rfl (by omega) (by omega) ?_
    have hsl := cell_slc e2 (show s1.next < s2.next by omega) (sha_len k)
    have hF : sha k ++ zs64.drop 20 = fillF k := by rw [fill_eq1 (by omega)]; rfl
    (repeat refine sb ?_)
    refine slA_is10 0 64 rfl g2 rfl rfl rfl rfl (by omega) (by omega) ?_
    (repeat refine sb ?_)
    refine cpy_any10 (l := sha k) (n := 20) rfl g2 (show s.next < s2.next by omega) rfl hsl.1 (by omega) (by rw [show zs64.length = 64 from rfl]; exact (by omega)) fun s8 e8 c8 => ?_
    replace e8 : lookH s8.heap s.next = some (.cells (bytesV (fillF k)) tA64 false false) := by
      rw [← hF]; exact e8
    (repeat refine sb ?_)
    refine ldN_is rfl e8 (bytes_take (fillF_len k)) ?_
    (repeat refine sb ?_)
    refine st_abs (cs' := bytesV (fillF k)) rfl rfl e8 (Nat.lt_of_lt_of_le (show s.next < s2.next by omega) c8.next) (agB_fl (fillF_len k)) (agB_lay rfl) fun s9 e9 c9 n9 => ?_
    (repeat refine sb ?_)
    (repeat (first | with_reducible refine sqRet ?_ | with_reducible refine bkRet ?_ | with_reducible refine hdRet ?_))
    exact ret_cell1 agg_A64 sz_A64 rfl e9 (bytes_take (fillF_len k)) ⟨rfl, (c2.fresh c8 (by simp)).fresh c9 (by simp)⟩
  · obtain rfl : q = false := by rw [hq]; simp <;> omega
    have g2 := h0
    have hF : k ++ zs64.drop n = fillF k := by rw [fill_eq2 (by omega), hk]; unfold zs64; rw [List.drop_replicate]
    have hlt0 : s.next < s.next + 1 := Nat.lt_succ_self _
    (repeat refine sb ?_)
    refine slA_is10 0 64 rfl g2 rfl rfl rfl rfl (by omega) (by omega) ?_
    (repeat refine sb ?_)
    refine cpy_any10 (l := k) (n := n) rfl g2 (hlt0) rfl hr0.1 (by omega) (by rw [show zs64.length = 64 from rfl]; exact (by omega)) fun s8 e8 c8 => ?_
    replace e8 : lookH s8.heap s.next = some (.cells (bytesV (fillF k)) tA64 false false) := by
      rw [← hF]; exact e8
    (repeat refine sb ?_)
    refine ldN_is rfl e8 (bytes_take (fillF_len k)) ?_
    (repeat refine sb ?_)
    refine st_abs (cs' := bytesV (fillF k)) rfl rfl e8 (Nat.lt_of_lt_of_le (hlt0) c8.next) (agB_fl (fillF_len k)) (agB_lay rfl) fun s9 e9 c9 n9 => ?_
    (repeat refine sb ?_)
    (repeat (first | with_reducible refine sqRet ?_ | with_reducible refine bkRet ?_ | with_reducible refine hdRet ?_))
    exact ret_cell1 agg_A64 sz_A64 rfl e9 (bytes_take (fillF_len k)) ⟨rfl, (c0.fresh c8 (by simp)).fresh c9 (by simp)⟩
end Go.Vf.S
end
section
/- HMAC: the program. -/
namespace Go.Vf.S
open Go Go.Vf
attribute [local irreducible] wSeq wRow wp wG schd rnds blks blk5 sha fillF
set_option linter.unusedVariables false
set_option linter.unusedSimpArgs false
set_option maxRecDepth 10000

theorem behind_w {s : SS} {base : Option Addr} {n cap : Nat} {k l : List UInt8} (f : Fine s) (hk : k.length = 64) (hr : Slc pr s base n cap l) (hM : n < 2 ^ 29) : CallW pr n_hash_behind [agB k, .slice base n cap] s fun v s' => v = agB (sha (k ++ l)) ∧ Chg s s' [] := by
  have hl := hr.1.1
  refine CallW.run good ok_hash_behind (by simp) rfl ?_
  obtain ⟨h0, h1, c0, f0⟩ := new2_at f (.cells (bytesV k) tA64 false false) (.cells (bytesV zs20) tA20 false false)
  have hr0 := hr.chg c0 (by simp)
  (try refine pSeq ?_); (repeat(first|refine sb ?_|refine kNo ?_))
  refine slA_is10 0 64 rfl h0 rfl rfl rfl rfl (by omega) (by omega) ?_
  (repeat(first|refine sb ?_|refine kNo ?_))
  refine (start10_w f0).mono fun v s1 q => ?_
  obtain ⟨rfl, k1⟩ := q
  have f1 := k1.fine f0
  have n1 := k1.next
  replace n1 : s.next + 1 + 1 ≤ s1.next := n1
  refine kAll (k1.keep f0) ?_
  (repeat(first|refine sb ?_|refine kNo ?_))
  have g0 := k1.blk _ _ (show s.next < s.next + 1 + 1 by omega) (by simp) h0
  refine (take10_w (m := 1) f1 (cell_slc g0 (by omega) hk) rfl).mono fun v s2 q => ?_
  obtain ⟨rfl, k2⟩ := q
  have f2 := k2.fine f1
  have n2 := k2.next
  (repeat(first|refine sb ?_|refine kNo ?_))
  refine (finish_w (ahead := 64) f2 ((hr0.chg k1 (by simp)).chg k2 (by simp)) rfl (by omega)).mono fun v s3 q => ?_
  obtain ⟨rfl, k3⟩ := q
  have n3 := k3.next
  have e : blks ((l ++ endF (64 + n)).length / 64) (blks 1 ini5 k) (l ++ endF (64 + n)) = sha5 (k ++ l) := by
    rw [sha_split k l 1 hk, show (k ++ l).length = 64 + n by rw [List.length_append, hk, ← hl]]
  rw [e, show (sha5 (k ++ l)).bytes = sha (k ++ l) from (by unfold sha; rfl)]
  have kk := (k1.nil k2).nil k3
  (repeat(first|refine sb ?_|refine kNo ?_))
  refine st_abs (cs' := bytesV (sha (k ++ l))) rfl rfl (kk.blk _ _ (show s.next + 1 < s.next + 1 + 1 by omega) (by simp) h1) (show s.next + 1 < s3.next by omega) (agB_fl (sha_len _)) (agB_lay (a := zs20) (sha_len _).symm) fun s4 e4 k4 n4 => ?_
  (repeat(first|refine sb ?_|refine kNo ?_))
  (repeat (first | with_reducible refine sqRet ?_ | with_reducible refine bkRet ?_ | with_reducible refine hdRet ?_))
  exact ret_cell1 agg_A20 sz_A20 rfl e4 (bytes_take (sha_len _)) ⟨rfl, (c0.nil kk).fresh k4 (by simp)⟩

theorem hmac_w {s : SS} {bk bl : Option Addr} {nk ck nl cl : Nat} {k l : List UInt8} (f : Fine s) (hk : Slc pr s bk nk ck k) (hl : Slc pr s bl nl cl l) (hK : nk < 2 ^ 29) (hL : nl < 2 ^ 29) : CallW pr n_hash_Hmac [.slice bk nk ck, .slice bl nl cl] s fun v s' => v = agB (hmac k l) ∧ Chg s s' [] := by
  refine CallW.run good ok_hash_Hmac (by simp) rfl ?_
  obtain ⟨h0, c0, f0⟩ := new1_at f (.cells (bytesV zs20) tA20 false false)
  (try refine pSeq ?_); (repeat(first|refine sb ?_|refine kNo ?_))
  refine (fill10_w f0 (hk.chg c0 (by simp)) (by omega)).mono fun v s1 q => ?_
  obtain ⟨rfl, k1⟩ := q
  have f1 := k1.fine f0
  have n1 := k1.next
  replace n1 : s.next + 1 ≤ s1.next := n1
  have g0 := k1.blk _ _ (show s.next < s.next + 1 by omega) (by simp) h0
  replace c0 := c0.nil k1
  (repeat(first|refine sb ?_|refine kNo ?_))
  obtain ⟨m0, m1, m2⟩ := new1_at f1 (.cells (bytesV zs64) tA64 false false)
  refine st_abs (cs' := bytesV (fillF k)) rfl rfl m0 (Nat.lt_succ_self _) (agB_fl (fillF_len k)) (agB_lay (a := zs64) (fillF_len k).symm) fun s2 e2 c2 n2 => ?_
  replace n2 : s2.next = s1.next + 1 := n2
  replace g0 := c2.blk _ _ (show s.next < s1.next + 1 by omega) (by simp; omega) (m1.blk _ _ (show s.next < s1.next by omega) (by simp) g0)
  replace c2 := m1.fresh c2 (by simp)
  replace c0 := c0.nil c2
  have f2 := c2.fine f1
  (repeat(first|refine sb ?_|refine kNo ?_))
  refine ldN_is rfl e2 (bytes_take (fillF_len k)) ?_
  (repeat(first|refine sb ?_|refine kNo ?_))
  refine (padded_w (c := 54) f2 (fillF_len k)).mono fun v s3 q => ?_
  obtain ⟨rfl, k3⟩ := q
  have f3 := k3.fine f2
  have n3 := k3.next
  have hxl : ∀ c : UInt8, (xorF c (fillF k)).length = 64 := fun c => by unfold xorF; rw [List.length_map, fillF_len]
  (repeat(first|refine sb ?_|refine kNo ?_))
  refine (behind_w f3 (hxl 54) ((hl.chg c0 (by simp)).chg k3 (by simp)) hL).mono fun v s4 q => ?_
  obtain ⟨rfl, k4⟩ := q
  have f4 := k4.fine f3
  have n4 := k4.next
  generalize hin : sha (xorF 54 (fillF k) ++ l) = inn
  have hil : inn.length = 20 := by rw [← hin]; exact sha_len _
  have k34 := k3.nil k4
  replace g0 := k34.blk _ _ (show s.next < s2.next by omega) (by simp) g0
  replace e2 := k34.blk _ _ (show s1.next < s2.next by omega) (by simp) e2
  replace c0 := c0.nil k34
  (repeat(first|refine sb ?_|refine kNo ?_))
  obtain ⟨p0, p1, p2⟩ := new1_at f4 (.cells (bytesV zs20) tA20 false false)
  refine st_abs (cs' := bytesV inn) rfl rfl p0 (Nat.lt_succ_self _) (agB_fl hil) (agB_lay (a := zs20) hil.symm) fun s5 e5 c5 n5 => ?_
  replace n5 : s5.next = s4.next + 1 := n5
  replace g0 := c5.blk _ _ (show s.next < s4.next + 1 by omega) (by simp; omega) (p1.blk _ _ (show s.next < s4.next by omega) (by simp) g0)
  replace e2 := c5.blk _ _ (show s1.next < s4.next + 1 by omega) (by simp; omega) (p1.blk _ _ (show s1.next < s4.next by omega) (by simp) e2)
  replace c5 := p1.fresh c5 (by simp)
  replace c0 := c0.nil c5
  have f5 := c5.fine f4
  (repeat(first|refine sb ?_|refine kNo ?_))
  refine ldN_is rfl e2 (bytes_take (fillF_len k)) ?_
  (repeat(first|refine sb ?_|refine kNo ?_))
  refine slA_is10 0 20 rfl e5 rfl rfl rfl rfl (by omega) (by omega) ?_
  (repeat(first|refine sb ?_|refine kNo ?_))
  refine (padded_w (c := 92) f5 (fillF_len k)).mono fun v s6 q => ?_
  obtain ⟨rfl, k6⟩ := q
  have f6 := k6.fine f5
  have n6 := k6.next
  refine kAll (k6.keep f5) ?_
  (repeat(first|refine sb ?_|refine kNo ?_))
  refine (behind_w f6 (hxl 92) (cell_slc (k6.blk _ _ (show s4.next < s5.next by omega) (by simp) e5) (show s4.next < s6.next by omega) hil) (by omega)).mono fun v s7 q => ?_
  obtain ⟨rfl, k7⟩ := q
  have n7 := k7.next
  rw [show sha (xorF 92 (fillF k) ++ inn) = hmac k l by rw [← hin]; rfl]
  have k67 := k6.nil k7
  (repeat(first|refine sb ?_|refine kNo ?_))
  refine st_abs (cs' := bytesV (hmac k l)) rfl rfl (k67.blk _ _ (show s.next < s5.next by omega) (by simp) g0) (show s.next < s7.next by omega) (agB_fl (hmac_len k l)) (agB_lay (a := zs20) (hmac_len k l).symm) fun s8 e8 c8 n8 => ?_
  (repeat(first|refine sb ?_|refine kNo ?_))
  (repeat (first | with_reducible refine sqRet ?_ | with_reducible refine bkRet ?_ | with_reducible refine hdRet ?_))
  exact ret_cell1 agg_A20 sz_A20 rfl e8 (bytes_take (hmac_len k l)) ⟨rfl, (c0.nil k67).fresh c8 (by simp)⟩
end Go.Vf.S
end
section
/- Senders written anew: rows of texts, tags. -/
namespace Go.Vf.S
open Go Go.Vf Go.Proofs Go.RowKit
attribute [local irreducible] wSeq wRow wp wG hmac tellF
set_option linter.unusedVariables false
set_option linter.unusedSimpArgs false
set_option maxRecDepth 10000

/-- A row of texts, a block of its own that is full. -/
def RowC (s : SS) (b : Nat) (ls : List (List UInt8)) : Prop := b < s.next ∧ lookH s.heap b = some (.cells (strV ls) tS false false)
theorem RowC.chg {s s' : SS} {b : Nat} {ls : List (List UInt8)} {A : List Nat} (h : RowC s b ls) (c : Chg s s' A) (hA : b ∉ A) : RowC s' b ls := ⟨Nat.lt_of_lt_of_le h.1 c.next, c.blk _ _ h.1 hA h.2⟩
theorem strV_get {ls : List (List UInt8)} {i : Nat} {x : List UInt8} (h : ls[i]? = some x) : (strV ls)[i]? = some (str x) := by unfold strV; rw [List.getElem?_map, h]; rfl
theorem RowC.own {s : SS} {b : Nat} {ls : List (List UInt8)} (h : RowC s b ls) : OwnR tS s (some ⟨b, 0, none⟩) ls.length ls.length (strV ls) := ⟨rfl, rfl, h.1, false, h.2, fun _ => rfl⟩
abbrev rcV (b n : Nat) : Value := .slice (some ⟨b, 0, none⟩) n n

theorem slS_hi {T : TL} {s : SS} {K : RR → Prop} {x y : Operand} {l : List UInt8} {k : IntKind} {z : Int} (h : Nat) (hx : opd T s.gl x = some (str l)) (hy : opd T s.gl y = some (.int k z)) (hz : z = (h : Int)) (hh : h ≤ l.length) (hK : K (.val (str (l.take h)))) : wN pr (.slS x none (some y)) T s K := by
  subst hz
  simp only [wN, hx, opdO, hy, wBnd]
  refine ⟨by omega, fun m hm r hr => ?_⟩
  obtain rfl : m = h := by omega
  rw [List.drop_zero, Nat.sub_zero] at hr
  subst hr
  exact hK
theorem slS_lo {T : TL} {s : SS} {K : RR → Prop} {x y : Operand} {l : List UInt8} {k : IntKind} {z : Int} (a : Nat) (hx : opd T s.gl x = some (str l)) (hy : opd T s.gl y = some (.int k z)) (hz : z = (a : Int)) (ha : a ≤ l.length) (hK : K (.val (str (l.drop a)))) : wN pr (.slS x (some y) none) T s K := by
  subst hz
  simp only [wN, hx, opdO, hy, wBnd]
  refine ⟨by omega, fun m hm r hr => ?_⟩
  obtain rfl : m = a := by omega
  rw [List.take_of_length_le (by rw [List.length_drop]; omega)] at hr
  subst hr
  exact hK
theorem slS_lh {T : TL} {s : SS} {K : RR → Prop} {x y y2 : Operand} {l : List UInt8} {k k2 : IntKind} {z z2 : Int} (a h : Nat) (hx : opd T s.gl x = some (str l)) (hy : opd T s.gl y = some (.int k z)) (hy2 : opd T s.gl y2 = some (.int k2 z2)) (hz : z = (a : Int)) (hz2 : z2 = (h : Int)) (ha : a ≤ h) (hh : h ≤ l.length) (hK : K (.val (str ((l.drop a).take (h - a))))) : wN pr (.slS x (some y) (some y2)) T s K := by
  subst hz hz2
  simp only [wN, hx, opdO, hy, hy2, wBnd]
  refine ⟨by omega, fun m hm => ⟨by omega, fun m2 hm2 r hr => ?_⟩⟩
  obtain rfl : m = h := by omega
  obtain rfl : m2 = a := by omega
  subst hr
  exact hK
theorem swithin_w {s : SS} {a b : Int} : CallW pr n_srs_within [.int .i64 a, .int .i64 b] s fun v s' => v = .bool (decide (1 ≤ a ∧ a ≤ b)) ∧ s' = s := by
  refine CallW.run good ok_srs_within (by simp) rfl ?_
  (try refine pSeq ?_); (repeat(first|refine sb ?_|refine gOn rfl ?_|refine gOff rfl rfl ?_|refine gTup rfl ?_))
  intro q hq
  by_cases h : 1 ≤ a
  · obtain rfl : q = true := by rw [hq]; simpa using h
    (repeat(first|refine sb ?_|refine gOn rfl ?_|refine gOff rfl rfl ?_|refine gTup rfl ?_))
    intro q hq
    (repeat(first|refine sb ?_|refine gOn rfl ?_|refine gOff rfl rfl ?_|refine gTup rfl ?_))
    refine ⟨?_, rfl⟩
    rw [hq]
    show Value.bool (decide (a ≤ b)) = Value.bool _
    simp [h]
  · obtain rfl : q = false := by rw [hq]; simpa using h
    (repeat(first|refine sb ?_|refine gOn rfl ?_|refine gOff rfl rfl ?_|refine gTup rfl ?_))
    refine ⟨?_, rfl⟩
    show Value.bool false = Value.bool _
    simp [h]
theorem begins_w {s : SS} {k : Nat} {l : List UInt8} (hk : k < 2) (hl : l.length ≤ 1000000) : CallW pr n_srs_begins [str l, str (srsU k)] s fun v s' => v = .bool (begF k l) ∧ Chg s s' [] := by
  have e5 : low (srsU k ++ [61]) = srsW k := by rcases (show k = 0 ∨ k = 1 by omega) with rfl | rfl <;> decide
  have hu : (srsU k).length = 4 := rfl
  refine CallW.run good ok_srs_begins (by simp) rfl ?_
  (try refine pSeq ?_); (repeat(first|refine sb ?_|refine gOn rfl ?_|refine gOff rfl rfl ?_|refine gTup rfl ?_))
  refine ⟨by rw [hu]; simp, ?_⟩
  intro w hw
  subst hw
  (repeat(first|refine sb ?_|refine gOn rfl ?_|refine gOff rfl rfl ?_|refine gTup rfl ?_))
  intro n1 hn1
  (repeat(first|refine sb ?_|refine gOn rfl ?_|refine gOff rfl rfl ?_|refine gTup rfl ?_))
  intro n2 hn2
  have hn2 : n2 = 5 := by rw [hn2]; rfl
  subst hn2
  (repeat(first|refine sb ?_|refine gOn rfl ?_|refine gOff rfl rfl ?_|refine gTup rfl ?_))
  intro q hq
  by_cases h : 5 ≤ l.length
  · obtain rfl : q = true := by rw [hq]; simp; omega
    (repeat(first|refine sb ?_|refine gOn rfl ?_|refine gOff rfl rfl ?_|refine gTup rfl ?_))
    intro n3 hn3
    have hn3 : n3 = 5 := by rw [hn3]; rfl
    subst hn3
    (repeat(first|refine sb ?_|refine gOn rfl ?_|refine gOff rfl rfl ?_|refine gTup rfl ?_))
    refine slS_hi 5 rfl rfl rfl h ?_
    (repeat(first|refine sb ?_|refine gOn rfl ?_|refine gOff rfl rfl ?_|refine gTup rfl ?_))
    refine (same_w (by rw [List.length_take]; omega) (by rw [List.length_append, hu]; simp)).mono fun v s1 q => ?_
    obtain ⟨rfl, c1⟩ := q
    (repeat(first|refine sb ?_|refine gOn rfl ?_|refine gOff rfl rfl ?_|refine gTup rfl ?_))
    refine ⟨?_, c1⟩
    show Value.bool (decide (low (l.take 5) = low (srsU k ++ [61]))) = _
    rw [e5]
    rfl
  · obtain rfl : q = false := by rw [hq]; simp; omega
    (repeat(first|refine sb ?_|refine gOn rfl ?_|refine gOff rfl rfl ?_|refine gTup rfl ?_))
    refine ⟨?_, .refl _ _⟩
    cases hb : begF k l with
    | false => rfl
    | true => exact absurd (beg_len hb) h
end Go.Vf.S
end
section
/- A local part that was written anew, read: part by part. -/
namespace Go.Vf.S
open Go Go.Vf Go.Proofs Go.RowKit
attribute [local irreducible] wSeq wRow wp wG hmac tellF pstF
set_option linter.unusedVariables false
set_option linter.unusedSimpArgs false
set_option maxRecDepth 10000

abbrev tRd12 : TypeId := 93
abbrev tWr : TypeId := 54
/-- A reader: what is left, and whether something else stood there. -/
def RdS (s : SS) (b : Nat) (r : List UInt8) (w : Bool) : Prop := b < s.next ∧ lookH s.heap b = some (.cells [str r, .bool w] tRd12 false false)
theorem RdS.chg {s s' : SS} {b : Nat} {r : List UInt8} {w : Bool} {A : List Nat} (h : RdS s b r w) (c : Chg s s' A) (hA : b ∉ A) : RdS s' b r w := ⟨Nat.lt_of_lt_of_le h.1 c.next, c.blk _ _ h.1 hA h.2⟩
abbrev ptR (b : Nat) : Value := .pointer (some ⟨b, 0, none⟩)
theorem srsU_len (k : Nat) : (srsU k).length = 4 := rfl

theorem sized_w {s : SS} {b m : Nat} {r : List UInt8} {w : Bool} (h : RdS s b r w) (hr : r.length ≤ 1000000) (hm : m ≤ 100) : CallW pr n_srs_reader_sized [ptR b, .int .i64 m] s fun v s' => v = str (szF m r w).1 ∧ RdS s' b (szF m r w).2.1 (szF m r w).2.2 ∧ Chg s s' [b] := by
  refine CallW.run good ok_srs_reader_sized (by simp) rfl ?_
  (try refine pSeq ?_); (repeat(first|refine sb ?_|refine gOn rfl ?_|refine gOff rfl rfl ?_|refine gTup rfl ?_))
  refine ldS_is rfl h.2 rfl ?_
  (repeat(first|refine sb ?_|refine gOn rfl ?_|refine gOff rfl rfl ?_|refine gTup rfl ?_))
  intro n hn
  (repeat(first|refine sb ?_|refine gOn rfl ?_|refine gOff rfl rfl ?_|refine gTup rfl ?_))
  intro q hq
  have no : r[m]? ≠ some 61 → szF m r w = ([], r, true) := fun q => by unfold szF; rw [if_neg q]
  have yes : r[m]? = some 61 → szF m r w = (r.take m, r.drop (m + 1), w) := fun q => by unfold szF; rw [if_pos q]
  by_cases h1 : r.length ≤ m
  · obtain rfl : q = true := by rw [hq, hn]; simp; omega
    rw [no (by rw [List.getElem?_eq_none h1]; simp)]
    (repeat(first|refine sb ?_|refine gOn rfl ?_|refine gOff rfl rfl ?_|refine gTup rfl ?_))
    refine st_abs (cs' := [str r, .bool true]) rfl rfl h.2 h.1 rfl rfl fun s1 e1 c1 n1 => ?_
    (repeat(first|refine sb ?_|refine gOn rfl ?_|refine gOff rfl rfl ?_|refine gTup rfl ?_))
    exact ⟨rfl, ⟨by have := h.1; have := c1.next; omega, e1⟩, c1⟩
  · obtain rfl : q = false := by rw [hq, hn]; simp; omega
    obtain ⟨c, hc⟩ : ∃ c, r[m]? = some c := ⟨_, List.getElem?_eq_getElem (by omega)⟩
    have et : (r.drop m).take 1 = [c] := by
      rw [List.drop_eq_getElem_cons (show m < r.length by omega), List.take_succ_cons, List.take_zero]
      rw [List.getElem?_eq_getElem (by omega)] at hc
      rw [Option.some.inj hc]
    (repeat(first|refine sb ?_|refine gOn rfl ?_|refine gOff rfl rfl ?_|refine gTup rfl ?_))
    refine ldS_is rfl h.2 rfl ?_
    (repeat(first|refine sb ?_|refine gOn rfl ?_|refine gOff rfl rfl ?_|refine gTup rfl ?_))
    intro z hz
    rw [i64_id (by omega)] at hz
    obtain rfl : z = ((m + 1 : Nat) : Int) := by omega
    (repeat(first|refine sb ?_|refine gOn rfl ?_|refine gOff rfl rfl ?_|refine gTup rfl ?_))
    refine slS_lh m (m + 1) rfl rfl rfl rfl rfl (by omega) (by omega) ?_
    rw [show m + 1 - m = 1 by omega, et]
    (repeat(first|refine sb ?_|refine gOn rfl ?_|refine gOff rfl rfl ?_|refine gTup rfl ?_))
    intro q hq
    by_cases h61 : c = 61
    · obtain rfl : q = false := by rw [hq, h61]; rfl
      rw [yes (by rw [hc, h61])]
      (repeat(first|refine sb ?_|refine gOn rfl ?_|refine gOff rfl rfl ?_|refine gTup rfl ?_))
      refine ldS_is rfl h.2 rfl ?_
      (repeat(first|refine sb ?_|refine gOn rfl ?_|refine gOff rfl rfl ?_|refine gTup rfl ?_))
      refine slS_hi m rfl rfl rfl (by omega) ?_
      (repeat(first|refine sb ?_|refine gOn rfl ?_|refine gOff rfl rfl ?_|refine gTup rfl ?_))
      refine ldS_is rfl h.2 rfl ?_
      (repeat(first|refine sb ?_|refine gOn rfl ?_|refine gOff rfl rfl ?_|refine gTup rfl ?_))
      intro z hz
      rw [i64_id (by omega)] at hz
      obtain rfl : z = ((m + 1 : Nat) : Int) := by omega
      (repeat(first|refine sb ?_|refine gOn rfl ?_|refine gOff rfl rfl ?_|refine gTup rfl ?_))
      refine slS_lo (m + 1) rfl rfl rfl (by omega) ?_
      (repeat(first|refine sb ?_|refine gOn rfl ?_|refine gOff rfl rfl ?_|refine gTup rfl ?_))
      refine st_abs (cs' := [str (r.drop (m + 1)), .bool w]) rfl rfl h.2 h.1 rfl rfl fun s1 e1 c1 n1 => ?_
      (repeat(first|refine sb ?_|refine gOn rfl ?_|refine gOff rfl rfl ?_|refine gTup rfl ?_))
      exact ⟨rfl, ⟨by have := h.1; have := c1.next; omega, e1⟩, c1⟩
    · obtain rfl : q = true := by rw [hq]; simp [h61]
      rw [no (by rw [hc]; simp [h61])]
      (repeat(first|refine sb ?_|refine gOn rfl ?_|refine gOff rfl rfl ?_|refine gTup rfl ?_))
      refine st_abs (cs' := [str r, .bool true]) rfl rfl h.2 h.1 rfl rfl fun s1 e1 c1 n1 => ?_
      (repeat(first|refine sb ?_|refine gOn rfl ?_|refine gOff rfl rfl ?_|refine gTup rfl ?_))
      exact ⟨rfl, ⟨by have := h.1; have := c1.next; omega, e1⟩, c1⟩
theorem szF_len (m : Nat) (r : List UInt8) (w : Bool) : (szF m r w).1.length ≤ r.length ∧ (szF m r w).2.1.length ≤ r.length := by
  unfold szF
  split
  · exact ⟨by rw [List.length_take]; omega, by rw [List.length_drop]; omega⟩
  · exact ⟨Nat.zero_le _, Nat.le_refl _⟩
theorem smp_w {s : SS} {b : Nat} {r : List UInt8} {w : Bool} (hF : Fine s) (h : RdS s b r w) (hr : r.length ≤ 1000000) : CallW pr n_srs_reader_stamp [ptR b] s fun v s' => v = str (smF r w).1 ∧ RdS s' b (smF r w).2.1 (smF r w).2.2 ∧ Chg s s' [b] := by
  refine CallW.run good ok_srs_reader_stamp (by simp) rfl ?_
  have hl := szF_len 2 r w
  (try refine pSeq ?_); (repeat refine sb ?_)
  refine (sized_w (m := 2) h hr (by omega)).mono fun v s1 q => ?_
  obtain ⟨rfl, h1, c1⟩ := q
  have hF1 : Fine s1 := c1.fine hF
  unfold smF
  generalize szF 2 r w = X at *
  obtain ⟨p, r1, w1⟩ := X
  dsimp only at *
  (repeat refine sb ?_)
  refine (pst_w hF1 (by omega)).mono fun v s q => ?_
  obtain ⟨rfl, rfl⟩ := q
  (repeat refine sb ?_)
  intro q hq
  by_cases he : (pstF p).2 = 0
  · obtain rfl : q = false := by rw [hq, he]; rfl
    (repeat refine sb ?_)
    refine ⟨rfl, ?_, c1⟩
    rw [he]
    simpa using h1
  · obtain rfl : q = true := by rw [hq]; simp; omega
    (repeat refine sb ?_)
    refine st_abs (cs' := [str r1, .bool true]) rfl rfl h1.2 h1.1 rfl rfl fun s2 e2 c2 n2 => ?_
    (repeat refine sb ?_)
    refine ⟨rfl, ⟨by have := h1.1; have := c2.next; omega, ?_⟩, (c1.trans c2).sub (by simp)⟩
    rw [e2]
    simp [he]
theorem pted_w {s : SS} {b : Nat} {r : List UInt8} {w : Bool} (h : RdS s b r w) (hr : r.length ≤ 1000000) : CallW pr n_srs_reader_parted [ptR b] s fun v s' => v = .tuple ⟨[str (cutF 61 r).1, str (cutF 61 r).2.1]⟩ ∧ RdS s' b r (ptF r w) ∧ Chg s s' [b] := by
  refine CallW.run good ok_srs_reader_parted (by simp) rfl ?_
  (try refine pSeq ?_); (repeat(first|refine sb ?_|refine gOn rfl ?_|refine gOff rfl rfl ?_|refine gTup rfl ?_))
  refine ldS_is rfl h.2 rfl ?_
  (repeat(first|refine sb ?_|refine gOn rfl ?_|refine gOff rfl rfl ?_|refine gTup rfl ?_))
  refine (cut1_w (c := 61) hr).mono fun v s q => ?_
  obtain ⟨rfl, rfl⟩ := q
  unfold ptF
  generalize cutF 61 r = C at *
  obtain ⟨a, d, ok⟩ := C
  dsimp only at *
  (repeat(first|refine sb ?_|refine gOn rfl ?_|refine gOff rfl rfl ?_|refine gTup rfl ?_))
  intro q hq
  by_cases ha : a = []
  · obtain rfl : q = true := by rw [hq, ha]; rfl
    (repeat(first|refine sb ?_|refine gOn rfl ?_|refine gOff rfl rfl ?_|refine gTup rfl ?_))
    refine st_abs (cs' := [str r, .bool true]) rfl rfl h.2 h.1 rfl rfl fun s2 e2 c2 n2 => ?_
    (repeat(first|refine sb ?_|refine gOn rfl ?_|refine gOff rfl rfl ?_|refine gTup rfl ?_))
    refine ⟨rfl, ⟨by have := h.1; have := c2.next; omega, ?_⟩, c2⟩
    rw [e2]
    simp [ha]
  · obtain rfl : q = false := by rw [hq]; simp [ha]
    (repeat(first|refine sb ?_|refine gOn rfl ?_|refine gOff rfl rfl ?_|refine gTup rfl ?_))
    intro q hq
    by_cases hd : d = []
    · obtain rfl : q = true := by rw [hq, hd]; rfl
      (repeat(first|refine sb ?_|refine gOn rfl ?_|refine gOff rfl rfl ?_|refine gTup rfl ?_))
      refine st_abs (cs' := [str r, .bool true]) rfl rfl h.2 h.1 rfl rfl fun s2 e2 c2 n2 => ?_
      (repeat(first|refine sb ?_|refine gOn rfl ?_|refine gOff rfl rfl ?_|refine gTup rfl ?_))
      refine ⟨rfl, ⟨by have := h.1; have := c2.next; omega, ?_⟩, c2⟩
      rw [e2]
      simp [hd]
    · obtain rfl : q = false := by rw [hq]; simp [hd]
      (repeat(first|refine sb ?_|refine gOn rfl ?_|refine gOff rfl rfl ?_|refine gTup rfl ?_))
      refine ⟨rfl, ?_, .refl _ _⟩
      simpa [ha, hd] using h
end Go.Vf.S
end
section
/- A local part that was written anew, read: its kind; all of it. -/
namespace Go.Vf.S
open Go Go.Vf Go.Proofs Go.RowKit
attribute [local irreducible] wSeq wRow wp wG hmac tellF pstF
set_option linter.unusedVariables false
set_option linter.unusedSimpArgs false
set_option maxRecDepth 10000

def kiF (r : List UInt8) (w : Bool) : List UInt8 × List UInt8 × Bool := if begF 0 r = true then (srsU 0, r.drop 5, w) else if begF 1 r = true then (srsU 1, r.drop 5, w) else ([], r, true)
theorem kiF_at {k : Nat} {r : List UInt8} {w : Bool} (hk : k < 2) (h : begF k r = true) : kiF r w = (srsU k, r.drop 5, w) := by
  unfold kiF
  rcases (show k = 0 ∨ k = 1 by omega) with rfl | rfl
  · rw [if_pos h]
  · have h0 : begF 0 r = false := by
      cases q : begF 0 r with
      | false => rfl
      | true => rw [beg_one q] at h; cases h
    rw [h0, if_neg (by decide), if_pos h]
theorem kiF_no {r : List UInt8} {w : Bool} (h0 : begF 0 r = false) (h1 : begF 1 r = false) : kiF r w = ([], r, true) := by
  unfold kiF
  rw [h0, h1]
  rfl
abbrev kdL : List (List UInt8) := [srsU 0, srsU 1]
theorem kdL_get {k : Nat} (h : k < 2) : kdL[k]? = some (srsU k) := by rcases (show k = 0 ∨ k = 1 by omega) with rfl | rfl <;> rfl
theorem kind_w {s : SS} {b : Nat} {r : List UInt8} {w : Bool} (h : RdS s b r w) (hr : r.length ≤ 1000000) : CallW pr n_srs_reader_kind [ptR b] s fun v s' => v = str (kiF r w).1 ∧ RdS s' b (kiF r w).2.1 (kiF r w).2.2 ∧ Chg s s' [b] := by
  refine CallW.run good ok_srs_reader_kind (by simp) rfl ?_
  (try refine pSeq ?_); (repeat refine sb ?_)
  have hb := h.1
  refine pLoop (MW.head good (fun x : Nat × SS => 2 - x.1) (fun x => x.1 ≤ 2 ∧ (∀ k, k < x.1 → begF k r = false) ∧ Chg s x.2 [] ∧ RowC x.2 s.next kdL)
    (fun x => [(0, ptR b), (5, rcV s.next 2), (6, .int .i64 (2 : Nat)), (7, .int .i64 x.1)]) (fun x => x.2) (0, _) ⟨Nat.zero_le _, fun k hk => absurd hk (Nat.not_lt_zero _), .new _, ⟨Nat.lt_succ_self _, lkH⟩⟩ (Wk.same ⟨rfl, rfl, rfl, rfl, trivial⟩) ?_)
  intro ⟨i, s1⟩ ⟨hi, hk, c1, h1⟩
  dsimp only at hi hk c1 h1 ⊢
  have hR := h.chg c1 (by simp)
  (repeat refine sb ?_)
  intro q hq
  by_cases h2 : i = 2
  · subst h2
    obtain rfl : q = false := by rw [hq]; rfl
    rw [kiF_no (hk 0 (by omega)) (hk 1 (by omega))]
    (repeat refine sb ?_)
    refine st_abs (cs' := [str r, .bool true]) rfl rfl hR.2 hR.1 rfl rfl fun s2 e2 c2 n2 => ?_
    (repeat refine sb ?_)
    exact ⟨rfl, ⟨by have := hR.1; have := c2.next; omega, e2⟩, c1.nil c2 |>.sub (by simp)⟩
  obtain rfl : q = true := by rw [hq]; simp; omega
  (repeat refine sb ?_)
  refine ⟨by omega, ?_⟩
  intro m hm o ho
  obtain rfl : m = i := by omega
  (repeat refine sb ?_)
  refine ldS_is (l := srsU m) rfl h1.2 (by rw [ho, Nat.zero_add, Nat.mul_one]; exact strV_get (kdL_get (by omega))) ?_
  (repeat refine sb ?_)
  refine ldS_is rfl hR.2 rfl ?_
  (repeat refine sb ?_)
  refine (begins_w (k := m) (by omega) hr).mono fun v s2 q => ?_
  obtain ⟨rfl, c2⟩ := q
  have c12 := c1.nil c2
  replace hR := h.chg c12 (by simp)
  replace h1 := h1.chg c2 (by simp)
  cases hbg : begF m r with
  | true =>
    have h5 := beg_len hbg
    rw [kiF_at (by omega) hbg]
    (repeat refine sb ?_)
    refine ldS_is rfl hR.2 rfl ?_
    (repeat refine sb ?_)
    refine ⟨by rw [srsU_len]; simp, ?_⟩
    intro w2 hw2
    subst hw2
    (repeat refine sb ?_)
    intro n hn
    have hn : n = ((5 : Nat) : Int) := by rw [hn]; rfl
    subst hn
    (repeat refine sb ?_)
    refine slS_lo 5 rfl rfl rfl h5 ?_
    (repeat refine sb ?_)
    refine st_abs (cs' := [str (r.drop 5), .bool w]) rfl rfl hR.2 hR.1 rfl rfl fun s3 e3 c3 n3 => ?_
    (repeat refine sb ?_)
    exact ⟨rfl, ⟨by have := hR.1; have := c3.next; omega, e3⟩, c12.nil c3 |>.sub (by simp)⟩
  | false =>
    (repeat refine sb ?_)
    intro z hz
    rw [i64_id (by omega)] at hz
    obtain rfl : z = ((m + 1 : Nat) : Int) := by omega
    (repeat refine sb ?_)
    refine ⟨(m + 1, s2), ⟨by show m + 1 ≤ 2; omega, fun k hk' => ?_, c12, h1⟩, by show 2 - (m + 1) < 2 - m; omega, Wk.same ⟨rfl, rfl, rfl, rfl, trivial⟩⟩
    rcases Nat.lt_or_ge k m with q | q
    · exact hk k q
    · obtain rfl : k = m := by dsimp only at hk'; omega
      exact hbg
theorem kiF_len (r : List UInt8) (w : Bool) : (kiF r w).2.1.length ≤ r.length := by
  unfold kiF
  split
  · show (r.drop 5).length ≤ _; rw [List.length_drop]; omega
  · split
    · show (r.drop 5).length ≤ _; rw [List.length_drop]; omega
    · exact Nat.le_refl _

/-! ### All of it -/
def wrL (p : Option (Nat × Sd)) : List (List UInt8) := match p with
  | none => [[], [], [], [], []]
  | some (k, x) => [srsU k, x.tag, x.st, x.dom, x.rest]
abbrev wrV (p : Option (Nat × Sd)) : Value := .agg ⟨strV (wrL p)⟩
theorem agg_Wr : aggB pr tWr = some true := by kernel_rfl
theorem sz_Wr : sizeB pr tWr = some 5 := by kernel_rfl
theorem szF_bad (m : Nat) (r : List UInt8) : (szF m r true).2.2 = true := by unfold szF; split <;> rfl
theorem ptF_bad (r : List UInt8) : ptF r true = true := rfl
theorem readW_at0 {l : List UInt8} (h : begF 0 l = true) : readW l = if ptF (smF (szF 4 (l.drop 5) false).2.1 (szF 4 (l.drop 5) false).2.2).2.1 (smF (szF 4 (l.drop 5) false).2.1 (szF 4 (l.drop 5) false).2.2).2.2 = true then none else
    some (0, ⟨(szF 4 (l.drop 5) false).1, (smF (szF 4 (l.drop 5) false).2.1 (szF 4 (l.drop 5) false).2.2).1, (cutF 61 (smF (szF 4 (l.drop 5) false).2.1 (szF 4 (l.drop 5) false).2.2).2.1).1, (cutF 61 (smF (szF 4 (l.drop 5) false).2.1 (szF 4 (l.drop 5) false).2.2).2.1).2.1⟩) := by
  unfold readW rk0
  rw [if_pos h]
  dsimp only
  split <;> rfl
theorem readW_at1 {l : List UInt8} (h0 : begF 0 l = false) (h : begF 1 l = true) : readW l = if ptF (szF 4 (l.drop 5) false).2.1 (szF 4 (l.drop 5) false).2.2 = true then none else
    some (1, ⟨(szF 4 (l.drop 5) false).1, [], (cutF 61 (szF 4 (l.drop 5) false).2.1).1, (cutF 61 (szF 4 (l.drop 5) false).2.1).2.1⟩) := by
  unfold readW rk1
  rw [h0, if_neg (by decide), if_pos h]
  dsimp only
  split <;> rfl

set_option maxHeartbeats 1000000 in
theorem sread_w {s : SS} {l : List UInt8} (hF : Fine s) (hl : l.length ≤ 1000000) : CallW pr n_srs_read [str l] s fun v s' => v = .tuple ⟨[wrV (readW l), .bool (readW l).isSome]⟩ ∧ Chg s s' [] := by
  refine CallW.run good ok_srs_read (by simp) rfl ?_
  obtain ⟨h0, h1, c0, f0⟩ := new2_at hF (.cells (strV [[], [], [], [], []]) tWr false false) (.cells [str [], .bool false] tRd12 false false)
  (try refine pSeq ?_); (repeat refine sb ?_)
  refine st_abs (cs' := [str l, .bool false]) rfl rfl h1 (Nat.lt_succ_self _) rfl rfl fun s1 e1 c1 n1 => ?_
  have g1 := c1.blk _ _ (show s.next < s.next + 1 + 1 by omega) (by simp) h0
  have n1 : s1.next = s.next + 1 + 1 := n1
  replace c1 : Chg s s1 [] := c0.fresh c1 (by simp)
  have f1 := c1.fine hF
  have hR : RdS s1 (s.next + 1) l false := ⟨by omega, e1⟩
  (repeat refine sb ?_)
  refine (kind_w hR hl).mono fun v s2 q => ?_
  obtain ⟨rfl, hR, c2⟩ := q
  have g2 := c2.blk _ _ (show s.next < s1.next by omega) (by simp) g1
  have n2 := c2.next
  have hk1 := kiF_len l false
  (repeat refine sb ?_)
  refine st_abs (cs' := strV [(kiF l false).1, [], [], [], []]) rfl rfl g2 (by omega) rfl rfl fun s3 e3 c3 n3 => ?_
  replace hR := hR.chg c3 (by simp)
  (repeat refine sb ?_)
  refine (sized_w (m := 4) hR (by omega) (by omega)).mono fun v s4 q => ?_
  obtain ⟨rfl, hR, c4⟩ := q
  have g4 := c4.blk _ _ (show s.next < s3.next by omega) (by simp) e3
  have n4 := c4.next
  have hk2 := szF_len 4 (kiF l false).2.1 (kiF l false).2.2
  (repeat refine sb ?_)
  refine st_abs (cs' := strV [(kiF l false).1, (szF 4 (kiF l false).2.1 (kiF l false).2.2).1, [], [], []]) rfl rfl g4 (by omega) rfl rfl fun s5 e5 c5 n5 => ?_
  replace hR := hR.chg c5 (by simp)
  replace c5 : Chg s s5 [] := ((((c1.fresh c2 (by simp)).fresh c3 (by simp)).fresh c4 (by simp)).fresh c5 (by simp))
  have f5 := c5.fine hF
  have nx5 : s.next + 2 ≤ s5.next := by omega
  clear e1 g1 g2 e3 g4 c2 c3 c4 n1 n2 n3 n4 n5 h0 h1 c0 f0 c1 f1
  (repeat refine sb ?_)
  refine ldS_is rfl e5 rfl ?_
  (repeat refine sb ?_)
  intro q hq
  have hb0 : begF 0 l = true ∨ begF 0 l = false := by cases begF 0 l <;> simp
  rcases hb0 with hb0 | hb0
  case' inl =>
    have eW := readW_at0 hb0
    have hkd : kiF l false = (srsU 0, l.drop 5, false) := kiF_at (by decide) hb0
    rw [hkd] at hq hR e5 hk1 hk2
    obtain rfl : q = true := by rw [hq]; rfl
    dsimp only at hR e5 hk1 hk2
    generalize szF 4 (l.drop 5) false = T at *
    obtain ⟨tg, r4, w4⟩ := T
    dsimp only at *
    (repeat refine sb ?_)
    refine (smp_w f5 hR (by omega)).mono fun v s6 q => ?_
    obtain ⟨rfl, hR, c6⟩ := q
    have g6 := c6.blk _ _ (show s.next < s5.next by omega) (by simp) e5
    have n6 := c6.next
    have hk3 := szF_len 2 r4 w4
    have hk3 : (smF r4 w4).2.1.length ≤ r4.length := hk3.2
    generalize smF r4 w4 = Q at *
    obtain ⟨st, rr, ww⟩ := Q
    dsimp only at *
    (repeat refine sb ?_)
    refine st_abs (cs' := strV [srsU 0, tg, st, [], []]) rfl rfl g6 (by omega) rfl rfl fun s7 e7 c7 n7 => ?_
    replace hR := hR.chg c7 (by simp)
    replace c7 : Chg s s7 [] := (c5.fresh c6 (by simp)).fresh c7 (by simp)
    have nx7 : s.next + 2 ≤ s7.next := by omega
    have hrr : rr.length ≤ 1000000 := by omega
    have fin : ∃ kk kd, readW l = (if ptF rr ww = true then none else some (kk, ⟨tg, st, (cutF 61 rr).1, (cutF 61 rr).2.1⟩)) ∧ (ptF rr ww = false → kd = srsU kk) ∧ kd = srsU 0 := ⟨0, _, eW, fun _ => rfl, rfl⟩
    obtain ⟨kk, kd, fin, hk, hkd⟩ := fin
    rw [← hkd] at e7
    clear hk1 hk2 hk3 n6 n7 g6 c6 e5 c5 f5 nx5 hq eW hkd hb0
  case' inr =>
    have hb1 : begF 1 l = true ∨ begF 1 l = false := by cases begF 1 l <;> simp
    rcases hb1 with hb1 | hb1
    case' inl =>
      have eW := readW_at1 hb0 hb1
      have hkd : kiF l false = (srsU 1, l.drop 5, false) := kiF_at (by decide) hb1
      rw [hkd] at hq hR e5 hk1 hk2
      obtain rfl : q = false := by rw [hq]; rfl
      dsimp only at hR e5 hk1 hk2
      generalize szF 4 (l.drop 5) false = T at *
      obtain ⟨tg, rr, ww⟩ := T
      dsimp only at *
      have hrr : rr.length ≤ 1000000 := by omega
      have fin : ∃ kk kd st, readW l = (if ptF rr ww = true then none else some (kk, ⟨tg, st, (cutF 61 rr).1, (cutF 61 rr).2.1⟩)) ∧ (ptF rr ww = false → kd = srsU kk) ∧ kd = srsU 1 ∧ st = [] := ⟨1, _, _, eW, fun _ => rfl, rfl, rfl⟩
      obtain ⟨kk, kd, st, fin, hk, hkd, hst⟩ := fin
      have e7 : lookH s5.heap s.next = some (.cells (strV [kd, tg, st, [], []]) tWr false false) := by rw [hkd, hst]; exact e5
      obtain ⟨s7, hs7⟩ : ∃ x, x = s5 := ⟨_, rfl⟩
      subst hs7
      have c7 := c5
      have nx7 := nx5
      clear hk1 hk2 e5 c5 f5 nx5 hq eW hkd hst hb0 hb1
    case' inr =>
      have eW := readW_no hb0 hb1
      have hkd : kiF l false = ([], l, true) := kiF_no hb0 hb1
      rw [hkd] at hq hR e5 hk1 hk2
      obtain rfl : q = false := by rw [hq]; rfl
      dsimp only at hR e5 hk1 hk2
      have hbad := szF_bad 4 l
      generalize szF 4 l true = T at *
      obtain ⟨tg, rr, ww⟩ := T
      dsimp only at *
      have hrr : rr.length ≤ 1000000 := by omega
      have fin : ∃ (kk : Nat) (kd st : List UInt8), readW l = (if ptF rr ww = true then none else some (kk, ⟨tg, st, (cutF 61 rr).1, (cutF 61 rr).2.1⟩)) ∧ (ptF rr ww = false → kd = srsU kk) ∧ kd = [] ∧ st = [] := ⟨0, _, _, by rw [eW, hbad, ptF_bad, if_pos rfl], fun q => (by rw [hbad] at q; cases q), rfl, rfl⟩
      obtain ⟨kk, kd, st, fin, hk, hkd, hst⟩ := fin
      have e7 : lookH s5.heap s.next = some (.cells (strV [kd, tg, st, [], []]) tWr false false) := by rw [hkd, hst]; exact e5
      obtain ⟨s7, hs7⟩ : ∃ x, x = s5 := ⟨_, rfl⟩
      subst hs7
      have c7 := c5
      have nx7 := nx5
      clear hk1 hk2 e5 c5 f5 nx5 hq eW hkd hst hb0 hb1 hbad
  all_goals (
    (repeat refine sb ?_)
    refine (pted_w hR hrr).mono fun v s8 q => ?_
    obtain ⟨rfl, hR, c8⟩ := q
    have g8 := c8.blk _ _ (show s.next < s7.next by omega) (by simp) e7
    have n8 := c8.next
    (repeat refine sb ?_)
    refine st_abs (cs' := strV [kd, tg, st, (cutF 61 rr).1, []]) rfl rfl g8 (by omega) rfl rfl fun s9 e9 c9 n9 => ?_
    replace hR := hR.chg c9 (by simp)
    (repeat refine sb ?_)
    refine st_abs (cs' := strV [kd, tg, st, (cutF 61 rr).1, (cutF 61 rr).2.1]) rfl rfl e9 (by omega) rfl rfl fun s10 e10 c10 n10 => ?_
    replace hR := hR.chg c10 (by simp)
    have c70 : Chg s s10 [] := ((c7.fresh c8 (by simp)).fresh c9 (by simp)).fresh c10 (by simp)
    (repeat refine sb ?_)
    refine ldB_is rfl hR.2 rfl ?_
    rw [fin]
    cases hp : ptF rr ww with
    | true =>
      (repeat refine sb ?_)
      refine st_abs (cs' := strV [[], [], [], [], []]) rfl rfl e10 (by omega) rfl rfl fun s11 e11 c11 n11 => ?_
      (repeat refine sb ?_)
      (repeat (first | with_reducible refine sqRet ?_ | with_reducible refine bkRet ?_ | with_reducible refine hdRet ?_))
      exact ret_cell agg_Wr sz_Wr rfl e11 rfl rfl ⟨rfl, c70.fresh c11 (by simp)⟩
    | false =>
      have hk := hk hp
      subst hk
      (repeat refine sb ?_)
      refine ldN_is rfl e10 (show _ = some (strV (wrL (some (kk, ⟨tg, st, (cutF 61 rr).1, (cutF 61 rr).2.1⟩)))) from rfl) ?_
      (repeat refine sb ?_)
      refine st_abs (cs' := strV (wrL (some (kk, ⟨tg, st, (cutF 61 rr).1, (cutF 61 rr).2.1⟩)))) rfl rfl e10 (by omega) rfl rfl fun s11 e11 c11 n11 => ?_
      (repeat refine sb ?_)
      (repeat (first | with_reducible refine sqRet ?_ | with_reducible refine bkRet ?_ | with_reducible refine hdRet ?_))
      exact ret_cell agg_Wr sz_Wr rfl e11 rfl rfl ⟨rfl, c70.fresh c11 (by simp)⟩)
end Go.Vf.S
end
section
/- Senders written anew: parts joined, tags, local parts. -/
namespace Go.Vf.S
open Go Go.Vf Go.Proofs Go.RowKit
attribute [local irreducible] wSeq wRow wp wG hmac tellF pstF
set_option linter.unusedVariables false
set_option linter.unusedSimpArgs false
set_option maxRecDepth 10000

theorem join0_flat : ∀ ls : List (List UInt8), Lib.join ls [] = ls.flatten
  | [] => rfl
  | [a] => by simp [Lib.join]
  | a :: b :: r => by
    have ih := join0_flat (b :: r)
    show a ++ ([] ++ Lib.join (b :: r) []) = a ++ (b :: r).flatten
    rw [ih, List.nil_append]
/-- Parts joined, whatever stands between. -/
theorem joinA_w {s : SS} {W : Option Addr} {cw : Nat} {ls : List (List UInt8)} {c : List UInt8} (h : OwnR tS s W cw ls.length (strV ls)) (h0 : 0 < ls.length) (hn : ls.length ≤ 1000001) (hlen : (Lib.join ls c).length ≤ 1000000) :
    CallW pr 92 [.slice W ls.length cw, str c] s fun v s' => v = str (Lib.join ls c) ∧ s' = s := by
  obtain ⟨b, g, rfl, h1⟩ := h.pos h0
  have hfull : g = false → cw = ls.length := by
    obtain ⟨-, -, -, g', h4, h5⟩ := h
    rw [h1] at h4
    cases h4
    exact h5
  refine CallW.kit rfl fun B w0 ρ args' w H ha => ?_
  obtain ⟨v1, v2, rfl, q1, q2⟩ := lrel_t ha
  obtain ⟨a', c', rfl, q3⟩ := slice_inv q1
  obtain rfl := str_inv q2
  have key : ∃ e, ρ b = some e ∧ a' = ⟨e.blk, e.off, none⟩ ∧ ls.length ≤ c' := by
    rcases q3 with ⟨_, z1, e, z2, z3, z4⟩ | ⟨_, z1, _⟩
    · refine ⟨e, z2, ?_, ?_⟩
      · rw [addr_eq z1, z3]
        rcases z4 with ⟨_, z5, _⟩ | ⟨_, _, _, _, z5⟩
        · rw [z5]; rfl
        · rcases z5 with z5 | z5
          · omega
          · rw [z5]; rfl
      · rcases z4 with ⟨y, _, z5⟩ | ⟨_, z5, _⟩
        · have hb' : s.st.heap.get b = some (.cells (strV ls) tS g false) := by rw [SS.get]; exact h1
          have hg := (H.blk _ _ _ hb' z2).1
          have := hfull (by rw [← hg]; exact y)
          omega
        · exact z5.1
    · omega
  obtain ⟨e, he, rfl, hc'⟩ := key
  have hcells : ∀ (j : Nat) x, (ls.map fun l => (⟨⟨l⟩⟩ : ByteArray))[j]? = some x → w.cell? ⟨e.blk, e.off + j, none⟩ = some (.string x) := fun j x hx => by
    rw [List.getElem?_map] at hx
    cases hl : ls[j]? with
    | none => rw [hl] at hx; cases hx
    | some l =>
      rw [hl] at hx
      obtain rfl := Option.some.inj hx
      obtain ⟨v', p1, p2⟩ := H.cellAt h1 he (show (strV ls)[j]? = some (str l) by simp only [strV, List.getElem?_map, hl]; rfl)
      rw [p1, str_inv p2]
  have eq1 : ((ls.map fun l => (⟨⟨l⟩⟩ : ByteArray)).map (·.data.toList)) = ls := by simp [List.map_map, Function.comp_def]
  have := Any.strings_Join Tryz.lays156 Tryz.Builder_Extra_156 e.blk e.off c' (ls.map fun l => (⟨⟨l⟩⟩ : ByteArray)) ⟨⟨c⟩⟩ w hcells (H.lt _ _ he) (by simp; omega) (by simpa using hc') (by rw [eq1]; show (Lib.join ls c).length ≤ _; omega)
  rw [eq1, List.length_map] at this
  exact this

theorem joined_w {s : SS} {W : Option Addr} {cw : Nat} {ls : List (List UInt8)} {c : List UInt8} (h : OwnR tS s W cw ls.length (strV ls)) (h0 : 0 < ls.length) (hn : ls.length ≤ 1000001) (hlen : (Lib.join ls c).length ≤ 1000000) :
    CallW pr n_srs_joined [str c, .slice W ls.length cw] s fun v s' => v = str (Lib.join ls c) ∧ s' = s := by
  refine CallW.run good ok_srs_joined (by simp) rfl ?_
  (try refine pSeq ?_); (repeat refine sb ?_)
  refine (joinA_w h h0 hn hlen).mono fun v s q => ?_
  obtain ⟨rfl, rfl⟩ := q
  (repeat refine sb ?_)
  exact ⟨rfl, rfl⟩
theorem tb_slc {s : SS} (l : List UInt8) {k : Nat} (hk : k < s.next) (h : lookH s.heap k = some (.cells (bytesV l) tB true false)) : Slc pr s (some ⟨k, 0, none⟩) l.length 0 l :=
  ⟨⟨rfl, rfl, hk, _, _, _, _, h, bytes_take rfl, bytesV_plain _⟩, _, _, _, _, h, fun _ => sz_B, fun q => (by cases q)⟩
abbrev tCo : TypeId := 28
theorem alloc_12 {P : Program} {T : TL} {s : SS} {K : RR → Prop} {e : TypeId} {z : List Value} (h : K (.new (.cells z e false false) fun id => .pointer (some ⟨id, 0, none⟩))) : wN P (.alloc e z) T s K := h
theorem tag_w {s : SS} {sec : List UInt8} {dv : Value} {b : Nat} {ls : List (List UInt8)} (hG : Gk s) (hF : Fine s) (hp : RowC s b ls) (hs : sec.length ≤ 1000) (hl0 : 0 < ls.length) (hn : ls.length ≤ 10) (hlen : ls.flatten.length ≤ 10000) :
    CallW pr n_srs_Coder_tag [.agg ⟨[str sec, dv]⟩, rcV b ls.length] s fun v s' => v = str (tagF sec ls.flatten) ∧ Chg s s' [] := by
  refine CallW.run good ok_srs_Coder_tag (by simp) rfl ?_
  obtain ⟨h0, c0, f0⟩ := new1_at hF (.cells [str sec, dv] tCo false false)
  obtain ⟨_, _, _, f1⟩ := new2_at hF (.cells [str sec, dv] tCo false false) (.cells (bytesV sec) tB true false)
  obtain ⟨_, k1, k2, c2, f2⟩ := new3_at hF (.cells [str sec, dv] tCo false false) (.cells (bytesV sec) tB true false) (.cells (bytesV zs20) tA20 false false)
  (try refine pSeq ?_); (repeat(first|refine sb ?_|refine kNo ?_))
  refine ldS_is rfl h0 rfl ?_
  (repeat(first|refine sb ?_|refine kNo ?_))
  refine ⟨by omega, rNew f0.at ?_⟩
  (repeat(first|refine sb ?_|refine kNo ?_))
  refine alloc_12 (rNew f1.at ?_)
  (repeat(first|refine sb ?_|refine kNo ?_))
  refine (joined_w (hp.chg c2 (by simp)).own hl0 (by omega) (by rw [join0_flat]; omega)).mono fun v s1 q => ?_
  obtain ⟨rfl, rfl⟩ := q
  rw [join0_flat]
  refine kAll .refl ?_
  (repeat(first|refine sb ?_|refine kNo ?_))
  refine (lower_w (l := ls.flatten) (by omega)).mono fun v s1 q => ?_
  obtain ⟨rfl, c3⟩ := q
  have f3 := c3.fine f2
  have j1 := c3.blk _ _ (show s.next + 1 < s.next + 1 + 1 + 1 by omega) (by simp) k1
  have j2 := c3.blk _ _ (show s.next + 1 + 1 < s.next + 1 + 1 + 1 by omega) (by simp) k2
  have nx := c3.next
  have nx : s.next + 1 + 1 + 1 ≤ s1.next := nx
  have hlo : (low ls.flatten).length ≤ 10000 := by rw [low_len]; exact hlen
  refine kAll (c3.keep f2) ?_
  (repeat(first|refine sb ?_|refine kNo ?_))
  refine ⟨by show (low ls.flatten).length ≤ _; omega, rNew f3.at ?_⟩
  obtain ⟨m0, m1, m2⟩ := new1_at f3 (.cells (bytesV (low ls.flatten)) tB true false)
  (repeat(first|refine sb ?_|refine kNo ?_))
  refine (hmac_w m2 (tb_slc sec (show s.next + 1 < s1.next + 1 by omega) (m1.blk _ _ (show s.next + 1 < s1.next by omega) (by simp) j1)) (tb_slc (low ls.flatten) (Nat.lt_succ_self s1.next) m0) (by omega) (by show (low ls.flatten).length < _; omega)).mono fun v s2 q => ?_
  obtain ⟨rfl, c4⟩ := q
  have i2 := c4.blk _ _ (show s.next + 1 + 1 < s1.next + 1 by omega) (by simp) (m1.blk _ _ (show s.next + 1 + 1 < s1.next by omega) (by simp) j2)
  have nx2 := c4.next
  have nx2 : s1.next + 1 ≤ s2.next := nx2
  refine kAll (c4.keep m2) ?_
  (repeat(first|refine sb ?_|refine kNo ?_))
  refine st_abs (cs' := bytesV (hmac sec (low ls.flatten))) rfl rfl i2 (show s.next + 1 + 1 < s2.next by omega) (agB_fl (hmac_len _ _)) (agB_lay (a := zs20) (hmac_len _ _).symm) fun s3 e3 c5 n5 => ?_
  replace n5 : s3.next = s2.next := n5
  have cc : Chg s s3 [] := (((c2.nil c3).nil m1).nil c4).fresh c5 (by simp; omega)
  (repeat(first|refine sb ?_|refine kNo ?_))
  refine slA_is10 0 20 rfl e3 rfl rfl rfl rfl (by omega) (by omega) ?_
  (repeat(first|refine sb ?_|refine kNo ?_))
  refine (base64_w (hG.nil cc) (cc.fine hF) (cell_slc e3 (show s.next + 1 + 1 < s3.next by omega) (hmac_len _ _)).1 (by omega)).mono fun v s4 q => ?_
  obtain ⟨rfl, c6⟩ := q
  have h4 := tag_len (sec := sec) (t := ls.flatten) (by rw [hmac_len]; omega)
  have h5 : 4 ≤ (tellF 6 (hmac sec (low ls.flatten))).length := by
    unfold tagF at h4
    rw [List.length_take] at h4
    omega
  (repeat(first|refine sb ?_|refine kNo ?_))
  refine slS_hi 4 rfl rfl rfl h5 ?_
  (repeat(first|refine sb ?_|refine kNo ?_))
  exact ⟨rfl, cc.nil c6⟩
end Go.Vf.S
end
section
/- Senders written anew: a local part that is written. -/
namespace Go.Vf.S
open Go Go.Vf Go.Proofs Go.RowKit
attribute [local irreducible] wSeq wRow wp wG hmac tellF pstF tagF
set_option linter.unusedVariables false
set_option linter.unusedSimpArgs false
set_option maxRecDepth 10000

theorem strV_app (a b : List (List UInt8)) : strV (a ++ b) = strV a ++ strV b := List.map_append
/-- Texts behind a block of texts that is full. -/
theorem appS_full {T : TL} {s : SS} {K : RR → Prop} {x y : Operand} {b b2 m n c : Nat} {d l : List (List UInt8)} (hx : opd T s.gl x = some (.slice (some ⟨b, 0, none⟩) m m)) (hb : lookH s.heap b = some (.cells (strV d) tS false false)) (hm : m = d.length)
    (hy : opd T s.gl y = some (.slice (some ⟨b2, 0, none⟩) n c)) (hr : lookH s.heap b2 = some (.cells (strV l) tS false false)) (hn : n = l.length) (h0 : 0 < n) (hbd : m + n ≤ 1000000)
    (h : ∀ s' : SS, OwnR tS s' (some ⟨s.next, 0, none⟩) 0 (m + n) (strV (d ++ l)) → Chg s s' [] → s'.next = s.next + 1 → K (.eff (.slice (some ⟨s.next, 0, none⟩) (m + n) 0) s')) : wN pr (.app tS 1 16 x y) T s K := by
  subst hm hn
  simp only [wN, hx, hy, wSrc, hr]
  refine ⟨strV l, ?_, ⟨⟨by omega, by omega, by rw [strV_len, Nat.mul_one], all1_strV l⟩, ?_⟩⟩
  · rw [List.drop_zero, takeN_take _ _ (by rw [strV_len]; omega), List.take_of_length_le (by rw [strV_len]; omega)]
  · simp only [hb]
    refine ⟨fun q => by omega, fun _ => ⟨strV d, ?_, fun m' l' hm' hl' => ?_⟩⟩
    · rw [List.drop_zero, takeN_take _ _ (by rw [strV_len]; omega), List.take_of_length_le (by rw [strV_len]; omega)]
    · subst hm' hl'
      rw [← strV_app]
      exact h _ ⟨rfl, rfl, Nat.lt_succ_self _, true, lkH, fun q => (by cases q)⟩ (.new _) rfl
theorem joinedN_w {s : SS} {W : Option Addr} {cw n : Nat} {ls : List (List UInt8)} {c : List UInt8} (hn0 : n = ls.length) (h : OwnR tS s W cw n (strV ls)) (h0 : 0 < ls.length) (hn : ls.length ≤ 1000001) (hlen : (Lib.join ls c).length ≤ 1000000) :
    CallW pr n_srs_joined [str c, .slice W n cw] s fun v s' => v = str (Lib.join ls c) ∧ s' = s := by
  subst hn0
  exact joined_w h h0 hn hlen
def wrF (kd sec : List UInt8) (ls : List (List UInt8)) : List UInt8 := Lib.join ([kd, tagF sec ls.flatten] ++ ls) [61]
theorem wr_chain (sec d r : List UInt8) : wrF (srsU 1) sec [low d, r] = chainF sec d r := by
  unfold wrF chainF
  rw [show ([srsU 1, tagF sec [low d, r].flatten] ++ [low d, r] : List (List UInt8)) = srsU 1 :: [tagF sec [low d, r].flatten, low d, r] from rfl, Lib.join_cons]
  simp [Lib.joinTail, srsU, List.append_assoc]
theorem wr_first (sec st d a : List UInt8) : wrF (srsU 0) sec [st, low d, a] = firstF sec st d a := by
  unfold wrF firstF
  rw [show ([srsU 0, tagF sec [st, low d, a].flatten] ++ [st, low d, a] : List (List UInt8)) = srsU 0 :: [tagF sec [st, low d, a].flatten, st, low d, a] from rfl, Lib.join_cons]
  simp [Lib.joinTail, srsU, List.append_assoc]
theorem wr_len (kd sec : List UInt8) (ls : List (List UInt8)) : (wrF kd sec ls).length = kd.length + 5 + (ls.length + ls.flatten.length) := by
  unfold wrF
  rw [show ([kd, tagF sec ls.flatten] ++ ls : List (List UInt8)) = kd :: (tagF sec ls.flatten :: ls) from rfl, Lib.join_cons]
  have : ∀ ls : List (List UInt8), (Lib.joinTail [61] ls).length = ls.length + ls.flatten.length := by
    intro ls
    induction ls with
    | nil => rfl
    | cons a r ih =>
      unfold Lib.joinTail at ih ⊢
      rw [List.map_cons, List.flatten_cons, List.length_append, ih, List.length_append, List.flatten_cons, List.length_append, List.length_cons, List.length_cons]
      simp only [List.length_nil]
      omega
  rw [List.length_append, this, List.length_cons, List.flatten_cons, List.length_append, tag_4]
  omega
theorem write_w {s : SS} {kd sec : List UInt8} {dv : Value} {b : Nat} {ls : List (List UInt8)} (hG : Gk s) (hF : Fine s) (hp : RowC s b ls) (hs : sec.length ≤ 1000) (hk : kd.length ≤ 10) (hl0 : 0 < ls.length) (hn : ls.length ≤ 10) (hlen : ls.flatten.length ≤ 10000) :
    CallW pr n_srs_Coder_write [.agg ⟨[str sec, dv]⟩, str kd, rcV b ls.length] s fun v s' => v = str (wrF kd sec ls) ∧ Chg s s' [] := by
  refine CallW.run good ok_srs_Coder_write (by simp) rfl ?_
  obtain ⟨h0, c0, f0⟩ := new1_at hF (.cells [str sec, dv] tCo false false)
  (try refine pSeq ?_); (repeat refine sb ?_)
  refine ldN_is rfl h0 rfl ?_
  (repeat refine sb ?_)
  refine (tag_w (hG.nil c0) f0 (hp.chg c0 (by simp)) hs hl0 hn hlen).mono fun v s1 q => ?_
  obtain ⟨rfl, c1⟩ := q
  have f1 := c1.fine f0
  have c01 := c0.nil c1
  obtain ⟨m0, m1, m2⟩ := new1_at f1 (.cells (strV [kd, tagF sec ls.flatten]) tS false false)
  have hp2 := (hp.chg c01 (by simp)).chg m1 (by simp)
  (repeat refine sb ?_)
  refine appS_full (d := [kd, tagF sec ls.flatten]) rfl m0 rfl rfl hp2.2 rfl hl0 (show 2 + ls.length ≤ 1000000 by omega) fun s2 o2 c2 n2 => ?_
  have hlw := wr_len kd sec ls
  (repeat refine sb ?_)
  refine (joinedN_w (ls := [kd, tagF sec ls.flatten] ++ ls) (c := [61]) (by rw [List.length_append]; rfl) o2 (by simp) (by rw [List.length_append]; show 2 + ls.length ≤ _; omega) (by show (wrF kd sec ls).length ≤ _; omega)).mono fun v s q => ?_
  obtain ⟨rfl, rfl⟩ := q
  (repeat refine sb ?_)
  exact ⟨rfl, (c01.nil m1).nil c2⟩
end Go.Vf.S
end
