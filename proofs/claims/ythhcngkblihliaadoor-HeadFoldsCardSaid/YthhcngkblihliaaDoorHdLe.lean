import Derived.Test.YthhcngkblihliaaDoorLbF
import Derived.Test.YthhcngkblihliaaDoorBnA
import Derived.Test.YthhcngkblihliaaDoorHdC
/- A text cut behind each byte c; blanks taken from a text's ends; bytes written to a builder. -/
namespace Go.Vf.S
open Go Go.Vf Go.Proofs Go.RowKit
attribute [local irreducible] wSeq wRow wp wG
set_option linter.unusedVariables false
set_option linter.unusedSimpArgs false
set_option maxRecDepth 10000

def af (c : UInt8) : List UInt8 → List UInt8 × List (List UInt8)
  | [] => ([], [])
  | x :: r => if x = c then ([c], (af c r).1 :: (af c r).2) else (x :: (af c r).1, (af c r).2)
def aftF (c : UInt8) (l : List UInt8) : List (List UInt8) := (af c l).1 :: (af c l).2
theorem af_first {c : UInt8} {r : List UInt8} : ∀ {f : List UInt8}, c ∉ f → af c (f ++ c :: r) = (f ++ [c], (af c r).1 :: (af c r).2)
  | [], _ => by rw [List.nil_append, af, if_pos rfl]; rfl
  | x :: f, h => by
    have hx : x ≠ c := fun e => h (by simp [e])
    rw [List.cons_append, af, if_neg hx, af_first fun q => h (by simp [q])]
    rfl
theorem aft_first {c : UInt8} {r f : List UInt8} (h : c ∉ f) : aftF c (f ++ c :: r) = (f ++ [c]) :: aftF c r := by unfold aftF; rw [af_first h]
theorem aft_last {c : UInt8} : ∀ {l : List UInt8}, l.count c = 0 → aftF c l = [l]
  | [], _ => rfl
  | x :: r, h => by
    have hx : x ≠ c := fun e => by subst e; simp at h
    have ih := aft_last (c := c) (l := r) (by rw [List.count_cons] at h; omega)
    unfold aftF at ih ⊢
    simp only [List.cons.injEq] at ih
    rw [af, if_neg hx, ih.1, ih.2]
theorem aft_len {c : UInt8} : ∀ (l : List UInt8), (aftF c l).length = l.count c + 1
  | [] => rfl
  | x :: r => by
    have ih := aft_len (c := c) r
    unfold aftF at ih ⊢
    simp only [List.length_cons] at ih
    rw [af]
    by_cases hx : x = c
    · rw [if_pos hx, hx, List.count_cons_self]
      simp only [List.length_cons]
      omega
    · rw [if_neg hx, List.count_cons_of_ne hx]
      simp only [List.length_cons]
      omega
theorem aft_flat {c : UInt8} : ∀ (l : List UInt8), (aftF c l).flatten = l
  | [] => rfl
  | x :: r => by
    have ih := aft_flat (c := c) r
    unfold aftF at ih ⊢
    rw [List.flatten_cons] at ih
    rw [af]
    by_cases hx : x = c
    · rw [if_pos hx, hx]
      simp only [List.flatten_cons, ih]
      rfl
    · rw [if_neg hx]
      simp only [List.flatten_cons, List.cons_append, ih]
set_option maxHeartbeats 1000000 in
theorem after_f {s : SS} {l : List UInt8} {c : UInt8} (hl : l.length ≤ 1000000) : CallW pr n_strings_genSplit [str l, str [c], .int .i64 1, .int .i64 (-1)] s fun v s' => ∃ base cap, v = .slice base (aftF c l).length cap ∧ StrsAt s' base (aftF c l) ∧ Chg s s' [] ∧ (∀ id ∈ blkOf base, s.next ≤ id) ∧ (aftF c l).length ≤ cap ∧ Full s' base := by
  refine CallW.run good ok_strings_genSplit (by simp) rfl ?_
  have hcl : l.count c ≤ l.length := List.count_le_length
  (repeat(first|refine pSeq ?_|refine pReg ?_|refine sCons ?_|refine sNil ?_|refine pBlock ?_|refine pSkip ?_|refine pExit ?_|refine pRet ?_|refine pCond ?_|refine gNone ?_))
  intro q hq; obtain rfl : q = false := (by rw [hq]; simp <;> omega); (repeat(first|refine pSeq ?_|refine pReg ?_|refine sCons ?_|refine sNil ?_|refine pBlock ?_|refine pSkip ?_|refine pExit ?_|refine pRet ?_|refine pCond ?_|refine gNone ?_))
  intro q hq; obtain rfl : q = false := (by rw [hq]; simp <;> omega); (repeat(first|refine pSeq ?_|refine pReg ?_|refine sCons ?_|refine sNil ?_|refine pBlock ?_|refine pSkip ?_|refine pExit ?_|refine pRet ?_|refine pCond ?_|refine gNone ?_))
  intro q hq; obtain rfl : q = true := (by rw [hq]; simp <;> omega); (repeat(first|refine pSeq ?_|refine pReg ?_|refine sCons ?_|refine sNil ?_|refine pBlock ?_|refine pSkip ?_|refine pExit ?_|refine pRet ?_|refine pCond ?_|refine gNone ?_))
  refine count_w.mono fun v s q => ?_
  obtain ⟨rfl, rfl⟩ := q
  (repeat(first|refine pSeq ?_|refine pReg ?_|refine sCons ?_|refine sNil ?_|refine pBlock ?_|refine pSkip ?_|refine pExit ?_|refine pRet ?_|refine pCond ?_|refine gNone ?_))
  intro z hz
  rw [i64_id (by omega)] at hz
  (repeat(first|refine pSeq ?_|refine pReg ?_|refine sCons ?_|refine sNil ?_|refine pBlock ?_|refine pSkip ?_|refine pExit ?_|refine pRet ?_|refine pCond ?_|refine gNone ?_))
  intro n hn
  (repeat(first|refine pSeq ?_|refine pReg ?_|refine sCons ?_|refine sNil ?_|refine pBlock ?_|refine pSkip ?_|refine pExit ?_|refine pRet ?_|refine pCond ?_|refine gNone ?_))
  intro z2 hz2
  rw [i64_id (by omega)] at hz2
  (repeat(first|refine pSeq ?_|refine pReg ?_|refine sCons ?_|refine sNil ?_|refine pBlock ?_|refine pSkip ?_|refine pExit ?_|refine pRet ?_|refine pCond ?_|refine gNone ?_))
  intro z3 hz3
  obtain rfl : z3 = ((l.count c + 1 : Nat) : Int) := by omega
  (repeat(first|refine pSeq ?_|refine pReg ?_|refine sCons ?_|refine sNil ?_|refine pBlock ?_|refine pSkip ?_|refine pExit ?_|refine pRet ?_|refine pCond ?_|refine gNone ?_))
  refine ⟨by omega, ?_⟩
  intro m k hm hk cs hcs
  obtain rfl : m = l.count c + 1 := by omega
  obtain rfl : k = l.count c + 1 := by omega
  rw [repeat_str] at hcs
  subst hcs
  (repeat(first|refine pSeq ?_|refine pReg ?_|refine sCons ?_|refine sNil ?_|refine pBlock ?_|refine pSkip ?_|refine pExit ?_|refine pRet ?_|refine pCond ?_|refine gNone ?_))
  intro z4 hz4
  rw [i64_id (by omega)] at hz4
  obtain rfl : z4 = ((l.count c : Nat) : Int) := by omega
  (repeat(first|refine pSeq ?_|refine pReg ?_|refine sCons ?_|refine sNil ?_|refine pBlock ?_|refine pSkip ?_|refine pExit ?_|refine pRet ?_|refine pCond ?_|refine gNone ?_))
  refine pLoop (MW.head good (fun x : PIt => x.rest.count c) (fun x => aftF c l = x.done ++ aftF c x.rest ∧ x.rest.length ≤ l.length ∧ l.count c = x.done.length + x.rest.count c ∧ Chg s x.s [] ∧ s.next < x.s.next ∧ lookH x.s.heap s.next = some (.cells (strV x.done ++ List.replicate (x.rest.count c + 1) (str [])) tS false false))
    (fun x => [(0, str x.rest), (1, str [c]), (2, .int .i64 1), (3, .int .i64 (l.count c : Nat)), (9, .slice (some ⟨s.next, 0, none⟩) (l.count c + 1) (l.count c + 1)), (10, .int .i64 x.done.length)]) (fun x => x.s) ⟨[], l, _⟩ ⟨rfl, Nat.le_refl _, by simp, .new _, Nat.lt_succ_self _, lkH⟩ (Wk.same ⟨rfl, rfl, rfl, rfl, rfl, rfl, trivial⟩) ?_)
  intro ⟨done, rest, s1⟩ ⟨h1, h2, h3, c1, h4, h5⟩
  dsimp only at h1 h2 h3 c1 h4 h5 ⊢
  (repeat(first|refine pSeq ?_|refine pReg ?_|refine sCons ?_|refine sNil ?_|refine pBlock ?_|refine pSkip ?_|refine pExit ?_|refine pRet ?_|refine pCond ?_|refine gNone ?_))
  intro q hq
  by_cases hlt : 0 < rest.count c
  · obtain rfl : q = true := by rw [hq]; simp <;> omega
    obtain ⟨f, r, rfl, hf⟩ := List.eq_append_cons_of_mem (List.count_pos_iff.1 hlt)
    have hfc : f.count c = 0 := List.count_eq_zero.2 hf
    have hcount : (f ++ c :: r).count c = r.count c + 1 := by rw [List.count_append, List.count_cons_self, hfc]; omega
    have hlen : (f ++ c :: r).length = f.length + 1 + r.length := by simp; omega
    (repeat(first|refine pSeq ?_|refine pReg ?_|refine sCons ?_|refine sNil ?_|refine pBlock ?_|refine pSkip ?_|refine pExit ?_|refine pRet ?_|refine pCond ?_|refine gNone ?_))
    refine (index1_w (by simp)).mono fun v s1 q => ?_
    obtain ⟨rfl, rfl⟩ := q
    rw [index_first hf]
    rw [aft_first hf] at h1
    (repeat(first|refine pSeq ?_|refine pReg ?_|refine sCons ?_|refine sNil ?_|refine pBlock ?_|refine pSkip ?_|refine pExit ?_|refine pRet ?_|refine pCond ?_|refine gNone ?_))
    intro q hq; obtain rfl : q = false := (by rw [hq]; simp <;> omega); (repeat(first|refine pSeq ?_|refine pReg ?_|refine sCons ?_|refine sNil ?_|refine pBlock ?_|refine pSkip ?_|refine pExit ?_|refine pRet ?_|refine pCond ?_|refine gNone ?_))
    intro z hz
    rw [i64_id (by omega)] at hz
    (repeat(first|refine pSeq ?_|refine pReg ?_|refine sCons ?_|refine sNil ?_|refine pBlock ?_|refine pSkip ?_|refine pExit ?_|refine pRet ?_|refine pCond ?_|refine gNone ?_))
    refine ⟨by omega, ?_⟩
    intro m hm g hg
    obtain rfl : m = f.length + 1 := by omega
    have eg : g = f ++ [c] := by rw [hg, show f ++ c :: r = (f ++ [c]) ++ r by simp, List.drop_zero, Nat.sub_zero, show f.length + 1 = (f ++ [c]).length by simp, List.take_left]
    clear hg
    subst eg
    (repeat(first|refine pSeq ?_|refine pReg ?_|refine sCons ?_|refine sNil ?_|refine pBlock ?_|refine pSkip ?_|refine pExit ?_|refine pRet ?_|refine pCond ?_|refine gNone ?_))
    refine ⟨by omega, ?_⟩
    intro m hm o ho
    obtain rfl : m = done.length := by omega
    (repeat(first|refine pSeq ?_|refine pReg ?_|refine sCons ?_|refine sNil ?_|refine pBlock ?_|refine pSkip ?_|refine pExit ?_|refine pRet ?_|refine pCond ?_|refine gNone ?_))
    refine st_abs (cs' := strV (done ++ [f ++ [c]]) ++ List.replicate (r.count c + 1) (str [])) rfl rfl h5 h4 rfl ?_ fun s2 e2 c2 n2 => ?_
    · rw [ho, Nat.zero_add, Nat.mul_one]
      show setRow _ _ [_] = _
      rw [setRow_one (by rw [List.length_append, strV_len, List.length_replicate]; omega), hcount, set_row]
    (repeat(first|refine pSeq ?_|refine pReg ?_|refine sCons ?_|refine sNil ?_|refine pBlock ?_|refine pSkip ?_|refine pExit ?_|refine pRet ?_|refine pCond ?_|refine gNone ?_))
    intro n hn
    (repeat(first|refine pSeq ?_|refine pReg ?_|refine sCons ?_|refine sNil ?_|refine pBlock ?_|refine pSkip ?_|refine pExit ?_|refine pRet ?_|refine pCond ?_|refine gNone ?_))
    intro z2 hz2
    have hn1 : n = 1 := by rw [hn]; rfl
    rw [hn1, i64_id (by omega)] at hz2
    (repeat(first|refine pSeq ?_|refine pReg ?_|refine sCons ?_|refine sNil ?_|refine pBlock ?_|refine pSkip ?_|refine pExit ?_|refine pRet ?_|refine pCond ?_|refine gNone ?_))
    refine ⟨by omega, ?_⟩
    intro m hm r2 hr2
    obtain rfl : m = f.length + 1 := by omega
    have er : r2 = r := by
      rw [hr2, List.take_of_length_le (by simp <;> omega)]
      rw [show f ++ c :: r = (f ++ [c]) ++ r by simp, show f.length + 1 = (f ++ [c]).length by simp, List.drop_left]
    clear hr2
    subst er
    (repeat(first|refine pSeq ?_|refine pReg ?_|refine sCons ?_|refine sNil ?_|refine pBlock ?_|refine pSkip ?_|refine pExit ?_|refine pRet ?_|refine pCond ?_|refine gNone ?_))
    intro z3 hz3
    rw [i64_id (by omega)] at hz3
    obtain rfl : z3 = (((done ++ [f ++ [c]]).length : Nat) : Int) := by simp; omega
    (repeat(first|refine pSeq ?_|refine pReg ?_|refine sCons ?_|refine sNil ?_|refine pBlock ?_|refine pSkip ?_|refine pExit ?_|refine pRet ?_|refine pCond ?_|refine gNone ?_))
    refine ⟨⟨done ++ [f ++ [c]], r2, s2⟩, ⟨by rw [h1]; simp, by show r2.length ≤ l.length; omega, by show l.count c = (done ++ [f ++ [c]]).length + r2.count c; simp; omega, c1.fresh c2 (by simp), by show s.next < s2.next; omega, e2⟩, by show r2.count c < (f ++ c :: r2).count c; omega, Wk.same ⟨rfl, rfl, rfl, rfl, rfl, rfl, trivial⟩⟩
  · obtain rfl : q = false := by rw [hq]; simp <;> omega
    have h0 : rest.count c = 0 := by omega
    rw [aft_last h0] at h1
    rw [h0, Nat.add_zero] at h3
    rw [h0] at h5
    (repeat(first|refine pSeq ?_|refine pReg ?_|refine sCons ?_|refine sNil ?_|refine pBlock ?_|refine pSkip ?_|refine pExit ?_|refine pRet ?_|refine pCond ?_|refine gNone ?_))
    refine ⟨by omega, ?_⟩
    intro m hm o ho
    obtain rfl : m = done.length := by omega
    (repeat(first|refine pSeq ?_|refine pReg ?_|refine sCons ?_|refine sNil ?_|refine pBlock ?_|refine pSkip ?_|refine pExit ?_|refine pRet ?_|refine pCond ?_|refine gNone ?_))
    refine st_abs (cs' := strV (done ++ [rest])) rfl rfl h5 h4 rfl ?_ fun s2 e2 c2 n2 => ?_
    · rw [show o = done.length by omega]
      show setRow _ _ [_] = _
      rw [setRow_one (by rw [List.length_append, strV_len, List.length_replicate]; omega)]
      exact congrArg some ((set_row done rest 0).trans (by simp [strV]))
    (repeat(first|refine pSeq ?_|refine pReg ?_|refine sCons ?_|refine sNil ?_|refine pBlock ?_|refine pSkip ?_|refine pExit ?_|refine pRet ?_|refine pCond ?_|refine gNone ?_))
    intro z hz
    rw [i64_id (by omega)] at hz
    (repeat(first|refine pSeq ?_|refine pReg ?_|refine sCons ?_|refine sNil ?_|refine pBlock ?_|refine pSkip ?_|refine pExit ?_|refine pRet ?_|refine pCond ?_|refine gNone ?_))
    refine slL_pre (m := l.count c + 1) rfl rfl e2 (by omega) (Nat.le_refl _) ?_
    (repeat(first|refine pSeq ?_|refine pReg ?_|refine sCons ?_|refine sNil ?_|refine pBlock ?_|refine pSkip ?_|refine pExit ?_|refine pRet ?_|refine pCond ?_|refine gNone ?_))
    refine ⟨_, _, by rw [aft_len]; rfl, ⟨s.next, _, _, _, _, rfl, by omega, e2, fun i x hx => ?_⟩, c1.fresh c2 (by simp), by simp [blkOf], by rw [aft_len]; exact Nat.le_refl _, ⟨_, _, rfl, e2⟩⟩
    rw [h1] at hx
    simp only [strV, List.getElem?_map, hx]
    rfl

theorem wh_32 {c : UInt8} (h : c ≠ 9) : wh c = decide (c.toNat = 32) := by
  unfold wh
  have : c.toNat ≠ 9 := fun e => h (UInt8.toNat_inj.1 e)
  simp [this]
theorem trimR1_w {s : SS} {l : List UInt8} (hl : l.length ≤ 1000000) (h9 : (9 : UInt8) ∉ l) :
    CallW pr n_strings_trimRightByte [str l, .int .u8 32] s fun v s' => v = str (dropR l) ∧ s' = s := by
  refine CallW.run good ok_strings_trimRightByte (by simp) rfl ?_
  (repeat(first|refine pSeq ?_|refine pReg ?_|refine sCons ?_|refine sNil ?_|refine pBlock ?_|refine pSkip ?_|refine pExit ?_|refine pRet ?_|refine pCond ?_|refine gNone ?_|refine gOn rfl ?_|refine gOff rfl rfl ?_|refine gTup rfl ?_))
  refine pLoop (MW.head good (fun x : List UInt8 => x.length) (fun x => x.length ≤ l.length ∧ dropR x = dropR l ∧ (9 : UInt8) ∉ x)
    (fun x => [(0, str x), (1, .int .u8 32)]) (fun x => s) l ⟨Nat.le_refl _, rfl, h9⟩ (Wk.same ⟨rfl, rfl, trivial⟩) ?_)
  intro x ⟨hx, h0, hx9⟩
  (repeat(first|refine pSeq ?_|refine pReg ?_|refine sCons ?_|refine sNil ?_|refine pBlock ?_|refine pSkip ?_|refine pExit ?_|refine pRet ?_|refine pCond ?_|refine gNone ?_|refine gOn rfl ?_|refine gOff rfl rfl ?_|refine gTup rfl ?_))
  intro n hn
  (repeat(first|refine pSeq ?_|refine pReg ?_|refine sCons ?_|refine sNil ?_|refine pBlock ?_|refine pSkip ?_|refine pExit ?_|refine pRet ?_|refine pCond ?_|refine gNone ?_|refine gOn rfl ?_|refine gOff rfl rfl ?_|refine gTup rfl ?_))
  intro q hq
  rcases Nat.eq_zero_or_pos x.length with h | h
  · have : x = [] := List.eq_nil_of_length_eq_zero h
    subst this
    obtain rfl : q = false := by rw [hq, hn]; rfl
    (repeat(first|refine pSeq ?_|refine pReg ?_|refine sCons ?_|refine sNil ?_|refine pBlock ?_|refine pSkip ?_|refine pExit ?_|refine pRet ?_|refine pCond ?_|refine gNone ?_|refine gOn rfl ?_|refine gOff rfl rfl ?_|refine gTup rfl ?_))
    rw [← h0]
    exact ⟨rfl, rfl⟩
  · obtain ⟨k, hk⟩ : ∃ k, x.length = k + 1 := ⟨x.length - 1, by omega⟩
    obtain ⟨c, hc⟩ : ∃ c, x[k]? = some c := ⟨_, List.getElem?_eq_getElem (by omega)⟩
    have hx2 := take_last hk hc
    have hw := wh_32 (c := c) (fun e => hx9 (e ▸ List.mem_of_getElem? hc))
    obtain rfl : q = true := by rw [hq, hn]; simp; omega
    (repeat(first|refine pSeq ?_|refine pReg ?_|refine sCons ?_|refine sNil ?_|refine pBlock ?_|refine pSkip ?_|refine pExit ?_|refine pRet ?_|refine pCond ?_|refine gNone ?_|refine gOn rfl ?_|refine gOff rfl rfl ?_|refine gTup rfl ?_))
    intro n2 hn2
    (repeat(first|refine pSeq ?_|refine pReg ?_|refine sCons ?_|refine sNil ?_|refine pBlock ?_|refine pSkip ?_|refine pExit ?_|refine pRet ?_|refine pCond ?_|refine gNone ?_|refine gOn rfl ?_|refine gOff rfl rfl ?_|refine gTup rfl ?_))
    intro z hz
    rw [i64_id (by omega)] at hz
    (repeat(first|refine pSeq ?_|refine pReg ?_|refine sCons ?_|refine sNil ?_|refine pBlock ?_|refine pSkip ?_|refine pExit ?_|refine pRet ?_|refine pCond ?_|refine gNone ?_|refine gOn rfl ?_|refine gOff rfl rfl ?_|refine gTup rfl ?_))
    refine ⟨by omega, ?_⟩
    intro m hm
    obtain rfl : m = k := by omega
    refine ⟨c, hc, ?_⟩
    (repeat(first|refine pSeq ?_|refine pReg ?_|refine sCons ?_|refine sNil ?_|refine pBlock ?_|refine pSkip ?_|refine pExit ?_|refine pRet ?_|refine pCond ?_|refine gNone ?_|refine gOn rfl ?_|refine gOff rfl rfl ?_|refine gTup rfl ?_))
    intro q hq
    by_cases hf : c.toNat = 32
    · obtain rfl : q = true := by rw [hq]; simp; omega
      rw [decide_eq_true hf] at hw
      rw [hx2, dropR_wh hw] at h0
      (repeat(first|refine pSeq ?_|refine pReg ?_|refine sCons ?_|refine sNil ?_|refine pBlock ?_|refine pSkip ?_|refine pExit ?_|refine pRet ?_|refine pCond ?_|refine gNone ?_|refine gOn rfl ?_|refine gOff rfl rfl ?_|refine gTup rfl ?_))
      intro n3 hn3
      (repeat(first|refine pSeq ?_|refine pReg ?_|refine sCons ?_|refine sNil ?_|refine pBlock ?_|refine pSkip ?_|refine pExit ?_|refine pRet ?_|refine pCond ?_|refine gNone ?_|refine gOn rfl ?_|refine gOff rfl rfl ?_|refine gTup rfl ?_))
      intro z2 hz2
      rw [i64_id (by omega)] at hz2
      (repeat(first|refine pSeq ?_|refine pReg ?_|refine sCons ?_|refine sNil ?_|refine pBlock ?_|refine pSkip ?_|refine pExit ?_|refine pRet ?_|refine pCond ?_|refine gNone ?_|refine gOn rfl ?_|refine gOff rfl rfl ?_|refine gTup rfl ?_))
      refine ⟨by omega, ?_⟩
      intro m2 hm2 y hy
      obtain rfl : m2 = m := by omega
      have ey : y = x.take m2 := by rw [hy]; simp
      clear hy
      subst ey
      (repeat(first|refine pSeq ?_|refine pReg ?_|refine sCons ?_|refine sNil ?_|refine pBlock ?_|refine pSkip ?_|refine pExit ?_|refine pRet ?_|refine pCond ?_|refine gNone ?_|refine gOn rfl ?_|refine gOff rfl rfl ?_|refine gTup rfl ?_))
      exact ⟨x.take m2, ⟨by simp; omega, h0, fun q => hx9 (List.mem_of_mem_take q)⟩, by show (x.take m2).length < x.length; simp; omega, Wk.same ⟨rfl, rfl, trivial⟩⟩
    · obtain rfl : q = false := by rw [hq]; simp; omega
      rw [decide_eq_false hf] at hw
      rw [hx2, dropR_no hw, ← hx2] at h0
      (repeat(first|refine pSeq ?_|refine pReg ?_|refine sCons ?_|refine sNil ?_|refine pBlock ?_|refine pSkip ?_|refine pExit ?_|refine pRet ?_|refine pCond ?_|refine gNone ?_|refine gOn rfl ?_|refine gOff rfl rfl ?_|refine gTup rfl ?_))
      rw [← h0]
      exact ⟨rfl, rfl⟩
theorem trimL1_w {s : SS} {l : List UInt8} (hl : l.length ≤ 1000000) (h9 : (9 : UInt8) ∉ l) :
    CallW pr n_strings_trimLeftByte [str l, .int .u8 32] s fun v s' => v = str (l.dropWhile wh) ∧ s' = s := by
  refine CallW.run good ok_strings_trimLeftByte (by simp) rfl ?_
  (repeat(first|refine pSeq ?_|refine pReg ?_|refine sCons ?_|refine sNil ?_|refine pBlock ?_|refine pSkip ?_|refine pExit ?_|refine pRet ?_|refine pCond ?_|refine gNone ?_|refine gOn rfl ?_|refine gOff rfl rfl ?_|refine gTup rfl ?_))
  refine pLoop (MW.head good (fun x : List UInt8 => x.length) (fun x => x.length ≤ l.length ∧ x.dropWhile wh = l.dropWhile wh ∧ (9 : UInt8) ∉ x)
    (fun x => [(0, str x), (1, .int .u8 32)]) (fun x => s) l ⟨Nat.le_refl _, rfl, h9⟩ (Wk.same ⟨rfl, rfl, trivial⟩) ?_)
  intro x ⟨hx, h0, hx9⟩
  (repeat(first|refine pSeq ?_|refine pReg ?_|refine sCons ?_|refine sNil ?_|refine pBlock ?_|refine pSkip ?_|refine pExit ?_|refine pRet ?_|refine pCond ?_|refine gNone ?_|refine gOn rfl ?_|refine gOff rfl rfl ?_|refine gTup rfl ?_))
  intro n hn
  (repeat(first|refine pSeq ?_|refine pReg ?_|refine sCons ?_|refine sNil ?_|refine pBlock ?_|refine pSkip ?_|refine pExit ?_|refine pRet ?_|refine pCond ?_|refine gNone ?_|refine gOn rfl ?_|refine gOff rfl rfl ?_|refine gTup rfl ?_))
  intro q hq
  cases x with
  | nil =>
    obtain rfl : q = false := by rw [hq, hn]; rfl
    (repeat(first|refine pSeq ?_|refine pReg ?_|refine sCons ?_|refine sNil ?_|refine pBlock ?_|refine pSkip ?_|refine pExit ?_|refine pRet ?_|refine pCond ?_|refine gNone ?_|refine gOn rfl ?_|refine gOff rfl rfl ?_|refine gTup rfl ?_))
    rw [← h0]
    exact ⟨rfl, rfl⟩
  | cons c x =>
    have hw := wh_32 (c := c) (fun e => hx9 (by rw [e]; simp))
    obtain rfl : q = true := by rw [hq, hn]; simp
    (repeat(first|refine pSeq ?_|refine pReg ?_|refine sCons ?_|refine sNil ?_|refine pBlock ?_|refine pSkip ?_|refine pExit ?_|refine pRet ?_|refine pCond ?_|refine gNone ?_|refine gOn rfl ?_|refine gOff rfl rfl ?_|refine gTup rfl ?_))
    refine ⟨by simp, ?_⟩
    intro m hm
    obtain rfl : m = 0 := by omega
    refine ⟨c, rfl, ?_⟩
    (repeat(first|refine pSeq ?_|refine pReg ?_|refine sCons ?_|refine sNil ?_|refine pBlock ?_|refine pSkip ?_|refine pExit ?_|refine pRet ?_|refine pCond ?_|refine gNone ?_|refine gOn rfl ?_|refine gOff rfl rfl ?_|refine gTup rfl ?_))
    intro q hq
    by_cases hf : c.toNat = 32
    · obtain rfl : q = true := by rw [hq]; simp; omega
      rw [decide_eq_true hf] at hw
      (repeat(first|refine pSeq ?_|refine pReg ?_|refine sCons ?_|refine sNil ?_|refine pBlock ?_|refine pSkip ?_|refine pExit ?_|refine pRet ?_|refine pCond ?_|refine gNone ?_|refine gOn rfl ?_|refine gOff rfl rfl ?_|refine gTup rfl ?_))
      refine ⟨by simp; omega, ?_⟩
      intro m2 hm2 y hy
      obtain rfl : m2 = 1 := by omega
      have ey : y = x := by rw [hy]; simp
      clear hy
      subst ey
      (repeat(first|refine pSeq ?_|refine pReg ?_|refine sCons ?_|refine sNil ?_|refine pBlock ?_|refine pSkip ?_|refine pExit ?_|refine pRet ?_|refine pCond ?_|refine gNone ?_|refine gOn rfl ?_|refine gOff rfl rfl ?_|refine gTup rfl ?_))
      exact ⟨y, ⟨by simp at hx; omega, by rw [← h0, List.dropWhile_cons, hw]; rfl, fun q => hx9 (by simp [q])⟩, by simp, Wk.same ⟨rfl, rfl, trivial⟩⟩
    · obtain rfl : q = false := by rw [hq]; simp; omega
      rw [decide_eq_false hf] at hw
      rw [List.dropWhile_cons, hw] at h0
      (repeat(first|refine pSeq ?_|refine pReg ?_|refine sCons ?_|refine sNil ?_|refine pBlock ?_|refine pSkip ?_|refine pExit ?_|refine pRet ?_|refine pCond ?_|refine gNone ?_|refine gOn rfl ?_|refine gOff rfl rfl ?_|refine gTup rfl ?_))
      rw [← h0]
      exact ⟨rfl, rfl⟩
theorem Trim1_w {s : SS} {l : List UInt8} (hl : l.length ≤ 1000000) (h9 : (9 : UInt8) ∉ l) : CallW pr n_strings_Trim [str l, .string ⟨#[32]⟩] s fun v s' => v = str (trimF l) ∧ s' = s := by
  refine CallW.run good ok_strings_Trim (by simp) rfl ?_
  (repeat(first|refine pSeq ?_|refine pReg ?_|refine sCons ?_|refine sNil ?_|refine rCons ?_|refine rNil ?_|refine kNo ?_|refine pRow ?_|refine pSkip ?_|refine pRet ?_|refine pCond ?_|refine gNone ?_|refine gOn rfl ?_|refine gOff rfl rfl ?_|refine gTup rfl ?_))
  intro q hq
  by_cases h0 : l = []
  · subst h0
    obtain rfl : q = true := by rw [hq]; rfl
    (repeat(first|refine pSeq ?_|refine pReg ?_|refine sCons ?_|refine sNil ?_|refine rCons ?_|refine rNil ?_|refine kNo ?_|refine pRow ?_|refine pSkip ?_|refine pRet ?_|refine pCond ?_|refine gNone ?_|refine gOn rfl ?_|refine gOff rfl rfl ?_|refine gTup rfl ?_))
    exact ⟨rfl, rfl⟩
  · obtain rfl : q = false := by rw [hq]; simp [h0]
    (repeat(first|refine pSeq ?_|refine pReg ?_|refine sCons ?_|refine sNil ?_|refine rCons ?_|refine rNil ?_|refine kNo ?_|refine pRow ?_|refine pSkip ?_|refine pRet ?_|refine pCond ?_|refine gNone ?_|refine gOn rfl ?_|refine gOff rfl rfl ?_|refine gTup rfl ?_))
    intro q hq
    obtain rfl : q = false := by rw [hq]; rfl
    (repeat(first|refine pSeq ?_|refine pReg ?_|refine sCons ?_|refine sNil ?_|refine rCons ?_|refine rNil ?_|refine kNo ?_|refine pRow ?_|refine pSkip ?_|refine pRet ?_|refine pCond ?_|refine gNone ?_|refine gOn rfl ?_|refine gOff rfl rfl ?_|refine gTup rfl ?_))
    intro n hn
    (repeat(first|refine pSeq ?_|refine pReg ?_|refine sCons ?_|refine sNil ?_|refine rCons ?_|refine rNil ?_|refine kNo ?_|refine pRow ?_|refine pSkip ?_|refine pRet ?_|refine pCond ?_|refine gNone ?_|refine gOn rfl ?_|refine gOff rfl rfl ?_|refine gTup rfl ?_))
    intro q hq
    obtain rfl : q = true := by rw [hq, hn]; rfl
    (repeat(first|refine pSeq ?_|refine pReg ?_|refine sCons ?_|refine sNil ?_|refine rCons ?_|refine rNil ?_|refine kNo ?_|refine pRow ?_|refine pSkip ?_|refine pRet ?_|refine pCond ?_|refine gNone ?_|refine gOn rfl ?_|refine gOff rfl rfl ?_|refine gTup rfl ?_))
    refine ⟨by simp, ?_⟩
    intro m hm
    obtain rfl : m = 0 := by omega
    refine ⟨32, rfl, ?_⟩
    (repeat(first|refine pSeq ?_|refine pReg ?_|refine sCons ?_|refine sNil ?_|refine rCons ?_|refine rNil ?_|refine kNo ?_|refine pRow ?_|refine pSkip ?_|refine pRet ?_|refine pCond ?_|refine gNone ?_|refine gOn rfl ?_|refine gOff rfl rfl ?_|refine gTup rfl ?_))
    intro q hq
    obtain rfl : q = true := by rw [hq]; rfl
    (repeat(first|refine pSeq ?_|refine pReg ?_|refine sCons ?_|refine sNil ?_|refine rCons ?_|refine rNil ?_|refine kNo ?_|refine pRow ?_|refine pSkip ?_|refine pRet ?_|refine pCond ?_|refine gNone ?_|refine gOn rfl ?_|refine gOff rfl rfl ?_|refine gTup rfl ?_))
    refine ⟨by simp, ?_⟩
    intro m hm
    obtain rfl : m = 0 := by omega
    refine ⟨32, rfl, ?_⟩
    (repeat(first|refine pSeq ?_|refine pReg ?_|refine sCons ?_|refine sNil ?_|refine rCons ?_|refine rNil ?_|refine kNo ?_|refine pRow ?_|refine pSkip ?_|refine pRet ?_|refine pCond ?_|refine gNone ?_|refine gOn rfl ?_|refine gOff rfl rfl ?_|refine gTup rfl ?_))
    refine ⟨by simp, ?_⟩
    intro m hm
    obtain rfl : m = 0 := by omega
    refine ⟨32, rfl, ?_⟩
    (repeat(first|refine pSeq ?_|refine pReg ?_|refine sCons ?_|refine sNil ?_|refine rCons ?_|refine rNil ?_|refine kNo ?_|refine pRow ?_|refine pSkip ?_|refine pRet ?_|refine pCond ?_|refine gNone ?_|refine gOn rfl ?_|refine gOff rfl rfl ?_|refine gTup rfl ?_))
    refine (trimR1_w hl h9).mono fun v s q => ?_
    obtain ⟨rfl, rfl⟩ := q
    have hlen : (dropR l).length ≤ l.length := by
      unfold dropR
      have := (List.dropWhile_sublist (l := l.reverse) wh).length_le
      simp at this ⊢
      exact this
    have h92 : (9 : UInt8) ∉ dropR l := fun q => h9 (by
      unfold dropR at q
      rw [List.mem_reverse] at q
      have := (List.dropWhile_sublist (l := l.reverse) wh).subset q
      simpa using this)
    first | refine kAll .refl ?_ | skip
    (repeat(first|refine pSeq ?_|refine pReg ?_|refine sCons ?_|refine sNil ?_|refine rCons ?_|refine rNil ?_|refine kNo ?_|refine pRow ?_|refine pSkip ?_|refine pRet ?_|refine pCond ?_|refine gNone ?_|refine gOn rfl ?_|refine gOff rfl rfl ?_|refine gTup rfl ?_))
    refine (trimL1_w (by omega) h92).mono fun v s q => ?_
    obtain ⟨rfl, rfl⟩ := q
    first | refine kAll .refl ?_ | skip
    (repeat(first|refine pSeq ?_|refine pReg ?_|refine sCons ?_|refine sNil ?_|refine rCons ?_|refine rNil ?_|refine kNo ?_|refine pRow ?_|refine pSkip ?_|refine pRet ?_|refine pCond ?_|refine gNone ?_|refine gOn rfl ?_|refine gOff rfl rfl ?_|refine gTup rfl ?_))
    rw [trim_comm]
    exact ⟨rfl, rfl⟩

/-! ### Bytes written to a builder -/

theorem app_own0 {P : Program} {T : TL} {s : SS} {K : RR → Prop} {x y : Operand} {e : TypeId} {base sb : Option Addr} {a : List UInt8} {m c : Nat} (ho : Own e s base a) (hn : a = [] → base = none) (hm : m = a.length) (hx : opd T s.gl x = some (.slice base m 0)) (hy : opd T s.gl y = some (.slice sb 0 c)) (hr : Rdb s sb 0 []) (hb : m ≤ 1073741824)
    (h : K (.val (.slice base m 0))) : wN P (.app e 1 1 x y) T s K := by
  simp only [wN, hx, hy]
  refine wSrc_Rdb hr ?_
  refine ⟨⟨by omega, by omega, rfl, rfl⟩, ?_⟩
  cases base with
  | none =>
    obtain rfl : a = [] := ho
    simp only [List.length_nil] at hm
    subst hm
    exact ⟨fun _ => ⟨rfl, h⟩, fun q => by omega⟩
  | some q =>
    obtain ⟨b2, off, sp⟩ := q
    obtain ⟨rfl, rfl, h3, g, h4, h5⟩ := ho
    have hg : g = true := by
      cases g with
      | true => rfl
      | false => have := hn (h5 rfl); cases this
    subst hg
    simp only [h4]
    exact ⟨fun _ => h, fun q => by omega⟩

end Go.Vf.S
