import Derived.Test.YtgdkekacalmjoaaDoorTxF
import Derived.Test.YtgdkekacalmjoaaDoorEngBe
/- Parts of a text. -/
namespace Go.Vf.S
open Go Go.Vf
attribute [local irreducible] wSeq wRow wp wG
set_option linter.unusedVariables false
set_option linter.unusedSimpArgs false
set_option maxRecDepth 10000

/-- The first part, and the others. -/
def sp (c : UInt8) : List UInt8 → List UInt8 × List (List UInt8)
  | [] => ([], [])
  | x :: r => if x = c then ([], (sp c r).1 :: (sp c r).2) else (x :: (sp c r).1, (sp c r).2)
def splitF (c : UInt8) (l : List UInt8) : List (List UInt8) := (sp c l).1 :: (sp c l).2
theorem sp_first {c : UInt8} {r : List UInt8} : ∀ {f : List UInt8}, c ∉ f → sp c (f ++ c :: r) = (f, (sp c r).1 :: (sp c r).2)
  | [], _ => by simp [sp]
  | x :: f, h => by
    have h1 : ¬x = c := fun e => h (by simp [e])
    rw [List.cons_append, sp, if_neg h1, sp_first (f := f) (fun q => h (by simp [q]))]
theorem split_first {c : UInt8} {r f : List UInt8} (h : c ∉ f) : splitF c (f ++ c :: r) = f :: splitF c r := by unfold splitF; rw [sp_first h]
theorem split_last {c : UInt8} : ∀ {l : List UInt8}, l.count c = 0 → splitF c l = [l]
  | [], _ => rfl
  | x :: l, h => by
    have h1 : ¬x = c := fun e => by subst e; simp at h
    rw [List.count_cons_of_ne h1] at h
    have := split_last (c := c) (l := l) h
    unfold splitF at this ⊢
    rw [sp, if_neg h1]
    simp only [List.cons.injEq] at this ⊢
    exact ⟨⟨trivial, this.1⟩, this.2⟩
theorem split_len {c : UInt8} : ∀ (l : List UInt8), (splitF c l).length = l.count c + 1
  | [] => rfl
  | x :: l => by
    have := split_len (c := c) l
    unfold splitF at this ⊢
    rw [sp]
    by_cases h : x = c
    · subst h
      rw [if_pos rfl, List.count_cons_self]
      simp only [List.length_cons] at this ⊢
      omega
    · rw [if_neg h, List.count_cons_of_ne h]
      simp only [List.length_cons] at this ⊢
      omega
theorem index_first {c : UInt8} {r : List UInt8} : ∀ {f : List UInt8}, c ∉ f → Lib.indexByte (f ++ c :: r) c = f.length
  | [], _ => by simp [Lib.indexByte]
  | x :: f, h => by
    have h1 : (x == c) = false := by simp; exact fun e => h (by simp [e])
    have ih := index_first (c := c) (r := r) (f := f) (fun q => h (by simp [q]))
    rw [List.cons_append, Lib.indexByte, h1, ih]
    have : ((f.length : Int) == -1) = false := by simp <;> omega
    rw [this]
    simp

theorem byte_back (c : UInt8) : ((c.toNat : Int).toNat).toUInt8 = c := by simp

theorem indexByte_w {s : SS} {l : List UInt8} {c : UInt8} : CallW pr n_internal_stringslite_IndexByte [str l, .int .u8 c.toNat] s fun v s' => v = .int .i64 (Lib.indexByte l c) ∧ s' = s := by
  refine CallW.run good ok_internal_stringslite_IndexByte (by simp) rfl ?_
  (repeat(first|refine pSeq ?_|refine pReg ?_|refine sRaw ?_|refine sCons ?_|refine sNil ?_|refine pRet ?_|refine gNone ?_))
  refine xtn_W Go.Proofs.Tryd.func115 (by kernel_rfl) (by kernel_rfl) (by kernel_rfl) (by kernel_rfl) rfl rfl rfl rfl (fun w => by rw [Lib.run_indexByteString, byte_back]) ?_
  (repeat(first|refine pSeq ?_|refine pReg ?_|refine sRaw ?_|refine sCons ?_|refine sNil ?_|refine pRet ?_|refine gNone ?_))
  exact ⟨rfl, rfl⟩

theorem count_w {s : SS} {l : List UInt8} {c : UInt8} : CallW pr n_strings_Count [str l, str [c]] s fun v s' => v = .int .i64 (l.count c : Nat) ∧ s' = s := by
  refine CallW.run good ok_strings_Count (by simp) rfl ?_
  (repeat(first|refine pSeq ?_|refine pReg ?_|refine sRaw ?_|refine sCons ?_|refine sNil ?_|refine pBlock ?_|refine pSkip ?_|refine pRet ?_|refine pCond ?_|refine gNone ?_))
  intro n hn
  (repeat(first|refine pSeq ?_|refine pReg ?_|refine sRaw ?_|refine sCons ?_|refine sNil ?_|refine pBlock ?_|refine pSkip ?_|refine pRet ?_|refine pCond ?_|refine gNone ?_))
  intro q hq
  obtain rfl : q = false := by rw [hq, hn]; rfl
  (repeat(first|refine pSeq ?_|refine pReg ?_|refine sRaw ?_|refine sCons ?_|refine sNil ?_|refine pBlock ?_|refine pSkip ?_|refine pRet ?_|refine pCond ?_|refine gNone ?_))
  intro n hn
  (repeat(first|refine pSeq ?_|refine pReg ?_|refine sRaw ?_|refine sCons ?_|refine sNil ?_|refine pBlock ?_|refine pSkip ?_|refine pRet ?_|refine pCond ?_|refine gNone ?_))
  intro q hq
  obtain rfl : q = true := by rw [hq, hn]; rfl
  (repeat(first|refine pSeq ?_|refine pReg ?_|refine sRaw ?_|refine sCons ?_|refine sNil ?_|refine pBlock ?_|refine pSkip ?_|refine pRet ?_|refine pCond ?_|refine gNone ?_))
  refine ⟨by simp, ?_⟩
  intro m hm
  obtain rfl : m = 0 := by omega
  refine ⟨c, rfl, ?_⟩
  (repeat(first|refine pSeq ?_|refine pReg ?_|refine sRaw ?_|refine sCons ?_|refine sNil ?_|refine pBlock ?_|refine pSkip ?_|refine pRet ?_|refine pCond ?_|refine gNone ?_))
  refine xtn_W Go.Proofs.Tryd.func114 (by kernel_rfl) (by kernel_rfl) (by kernel_rfl) (by kernel_rfl) rfl rfl rfl rfl (fun w => by rw [Lib.run_countString, byte_back]) ?_
  (repeat(first|refine pSeq ?_|refine pReg ?_|refine sRaw ?_|refine sCons ?_|refine sNil ?_|refine pBlock ?_|refine pSkip ?_|refine pRet ?_|refine pCond ?_|refine gNone ?_))
  exact ⟨rfl, rfl⟩

theorem index1_w {s : SS} {l : List UInt8} {c : UInt8} (hne : l ≠ []) : CallW pr n_strings_Index [str l, str [c]] s fun v s' => v = .int .i64 (Lib.indexByte l c) ∧ s' = s := by
  refine CallW.run good ok_strings_Index (by simp) rfl ?_
  (repeat(first|refine pSeq ?_|refine pReg ?_|refine sRaw ?_|refine sCons ?_|refine sNil ?_|refine pBlock ?_|refine pSkip ?_|refine pExit ?_|refine pRet ?_|refine pCond ?_|refine gNone ?_|refine gOn rfl ?_|refine gOff rfl rfl ?_|refine gTup rfl ?_))
  refine (show CallW pr n_internal_stringslite_Index [str l, str [c]] s fun v s' => v = .int .i64 (Lib.indexByte l c) ∧ s' = s from ?_).mono fun v s q => ?_
  · refine CallW.run good ok_internal_stringslite_Index (by simp) rfl ?_
    (repeat(first|refine pSeq ?_|refine pReg ?_|refine sRaw ?_|refine sCons ?_|refine sNil ?_|refine pBlock ?_|refine pSkip ?_|refine pExit ?_|refine pRet ?_|refine pCond ?_|refine gNone ?_|refine gOn rfl ?_|refine gOff rfl rfl ?_|refine gTup rfl ?_))
    intro n hn
    (repeat(first|refine pSeq ?_|refine pReg ?_|refine sRaw ?_|refine sCons ?_|refine sNil ?_|refine pBlock ?_|refine pSkip ?_|refine pExit ?_|refine pRet ?_|refine pCond ?_|refine gNone ?_|refine gOn rfl ?_|refine gOff rfl rfl ?_|refine gTup rfl ?_))
    intro q hq
    obtain rfl : q = false := by rw [hq, hn]; rfl
    (repeat(first|refine pSeq ?_|refine pReg ?_|refine sRaw ?_|refine sCons ?_|refine sNil ?_|refine pBlock ?_|refine pSkip ?_|refine pExit ?_|refine pRet ?_|refine pCond ?_|refine gNone ?_|refine gOn rfl ?_|refine gOff rfl rfl ?_|refine gTup rfl ?_))
    intro q hq
    by_cases he : [c] = l
    · subst he
      obtain rfl : q = true := by rw [hq]; simp
      (repeat(first|refine pSeq ?_|refine pReg ?_|refine sRaw ?_|refine sCons ?_|refine sNil ?_|refine pBlock ?_|refine pSkip ?_|refine pExit ?_|refine pRet ?_|refine pCond ?_|refine gNone ?_|refine gOn rfl ?_|refine gOff rfl rfl ?_|refine gTup rfl ?_))
      exact ⟨by show Value.int .i64 0 = _; simp [Lib.indexByte], rfl⟩
    · obtain rfl : q = false := by rw [hq]; simp [he]
      (repeat(first|refine pSeq ?_|refine pReg ?_|refine sRaw ?_|refine sCons ?_|refine sNil ?_|refine pBlock ?_|refine pSkip ?_|refine pExit ?_|refine pRet ?_|refine pCond ?_|refine gNone ?_|refine gOn rfl ?_|refine gOff rfl rfl ?_|refine gTup rfl ?_))
      intro q hq
      obtain rfl : q = true := by rw [hq, hn]; rfl
      (repeat(first|refine pSeq ?_|refine pReg ?_|refine sRaw ?_|refine sCons ?_|refine sNil ?_|refine pBlock ?_|refine pSkip ?_|refine pExit ?_|refine pRet ?_|refine pCond ?_|refine gNone ?_|refine gOn rfl ?_|refine gOff rfl rfl ?_|refine gTup rfl ?_))
      refine ⟨by simp, ?_⟩
      intro m hm
      obtain rfl : m = 0 := by omega
      refine ⟨c, rfl, ?_⟩
      (repeat(first|refine pSeq ?_|refine pReg ?_|refine sRaw ?_|refine sCons ?_|refine sNil ?_|refine pBlock ?_|refine pSkip ?_|refine pExit ?_|refine pRet ?_|refine pCond ?_|refine gNone ?_|refine gOn rfl ?_|refine gOff rfl rfl ?_|refine gTup rfl ?_))
      refine indexByte_w.mono fun v s q => ?_
      obtain ⟨rfl, rfl⟩ := q
      (repeat(first|refine pSeq ?_|refine pReg ?_|refine sRaw ?_|refine sCons ?_|refine sNil ?_|refine pBlock ?_|refine pSkip ?_|refine pExit ?_|refine pRet ?_|refine pCond ?_|refine gNone ?_|refine gOn rfl ?_|refine gOff rfl rfl ?_|refine gTup rfl ?_))
      exact ⟨rfl, rfl⟩
  obtain ⟨rfl, rfl⟩ := q
  (repeat(first|refine pSeq ?_|refine pReg ?_|refine sRaw ?_|refine sCons ?_|refine sNil ?_|refine pBlock ?_|refine pSkip ?_|refine pExit ?_|refine pRet ?_|refine pCond ?_|refine gNone ?_|refine gOn rfl ?_|refine gOff rfl rfl ?_|refine gTup rfl ?_))
  exact ⟨rfl, rfl⟩

def strV (ls : List (List UInt8)) : List Value := ls.map str
theorem strV_len (ls : List (List UInt8)) : (strV ls).length = ls.length := by simp [strV]
theorem all1_strV : ∀ ls : List (List UInt8), all1 (strV ls) = true
  | [] => rfl
  | _ :: ls => all1_strV ls
/-- A row of texts that a slice reads. -/
def StrsAt (s : SS) (base : Option Addr) (ls : List (List UInt8)) : Prop :=
  ∃ b cs t g r, base = some ⟨b, 0, none⟩ ∧ b < s.next ∧ lookH s.heap b = some (.cells cs t g r) ∧ ∀ (i : Nat) x, ls[i]? = some x → cs[i]? = some (str x)
theorem StrsAt.chg {s s' : SS} {base : Option Addr} {ls : List (List UInt8)} {A : List Nat} (h : StrsAt s base ls) (c : Chg s s' A) (hA : ∀ id ∈ blkOf base, id ∉ A) : StrsAt s' base ls := by
  obtain ⟨b, cs, t, g, r, rfl, h1, h2, h3⟩ := h
  exact ⟨b, cs, t, g, r, rfl, Nat.lt_of_lt_of_le h1 c.next, c.blk _ _ h1 (hA b (by simp [blkOf])) h2, h3⟩

structure PIt where
  done : List (List UInt8)
  rest : List UInt8
  s : SS

theorem set_row (done : List (List UInt8)) (f : List UInt8) (k : Nat) : (strV done ++ List.replicate (k + 1) (str [])).set done.length (str f) = strV (done ++ [f]) ++ List.replicate k (str []) := by
  rw [List.set_append_right _ _ (by rw [strV_len]; omega), strV_len, Nat.sub_self, List.replicate_succ, List.set_cons_zero]
  simp [strV]

theorem repeat_str : ∀ n : Nat, repeatL n [str []] = List.replicate n (str [])
  | 0 => rfl
  | n + 1 => by
    show [str []] ++ repeatL n [str []] = _
    rw [repeat_str n, List.replicate_succ]
    rfl

theorem slL_pre {P : Program} {T : TL} {s : SS} {K : RR → Prop} {z n cap m b off : Nat} {cs : List Value} {t : TypeId} {r : Bool} {x hi : Operand} {k : Int} (hx : opd T s.gl x = some (.slice (some ⟨b, off, none⟩) n cap)) (hh : opd T s.gl hi = some (.int .i64 k))
    (hb : lookH s.heap b = some (.cells cs t false r)) (hk : k = (m : Int)) (hm : m ≤ cap) (h : K (.val (.slice (some ⟨b, off, none⟩) m cap))) : wN P (.slL z x none (some hi)) T s K := by
  subst hk
  simp only [wN, hx, opdO, hh, hb, wBnd]
  refine ⟨by omega, fun j hj o n' d ho hn hd => ?_⟩
  obtain rfl : j = m := by omega
  have e : o = off := by
    rw [ho]
    split <;> simp
  rw [e, hn, hd, Nat.sub_zero, Nat.sub_zero]
  exact h

/-- A row whose room is all its own. -/
def Full (s : SS) (base : Option Addr) : Prop := ∃ b cs, base = some ⟨b, 0, none⟩ ∧ lookH s.heap b = some (.cells cs tS false false)
theorem split_f {s : SS} {l : List UInt8} {c : UInt8} (hl : l.length ≤ 1000000) : CallW pr n_strings_genSplit [str l, str [c], .int .i64 0, .int .i64 (-1)] s fun v s' => ∃ base cap, v = .slice base (splitF c l).length cap ∧ StrsAt s' base (splitF c l) ∧ Chg s s' [] ∧ (∀ id ∈ blkOf base, s.next ≤ id) ∧ (splitF c l).length ≤ cap ∧ Full s' base := by
  refine CallW.run good ok_strings_genSplit (by simp) rfl ?_
  have hcl : l.count c ≤ l.length := List.count_le_length
  (repeat(first|refine pSeq ?_|refine pReg ?_|refine sCons ?_|refine sNil ?_|refine pBlock ?_|refine pSkip ?_|refine pExit ?_|refine pRet ?_|refine pCond ?_|refine gNone ?_))
  intro q hq; obtain rfl : q = false := (by rw [hq]; simp <;> omega); (repeat(first|refine pSeq ?_|refine pReg ?_|refine sCons ?_|refine sNil ?_|refine pBlock ?_|refine pSkip ?_|refine pExit ?_|refine pRet ?_|refine pCond ?_|refine gNone ?_))
  intro q hq; obtain rfl : q = false := (by rw [hq]; simp <;> omega); (repeat(first|refine pSeq ?_|refine pReg ?_|refine sCons ?_|refine sNil ?_|refine pBlock ?_|refine pSkip ?_|refine pExit ?_|refine pRet ?_|refine pCond ?_|refine gNone ?_))
  intro q hq; obtain rfl : q = true := (by rw [hq]; simp <;> omega); (repeat(first|refine pSeq ?_|refine pReg ?_|refine sCons ?_|refine sNil ?_|refine pBlock ?_|refine pSkip ?_|refine pExit ?_|refine pRet ?_|refine pCond ?_|refine gNone ?_))
  refine count_w.mono fun v s q => ?_
  obtain ⟨rfl, rfl⟩ := q
  (repeat(first|refine pSeq ?_|refine pReg ?_|refine sCons ?_|refine sNil ?_|refine pBlock ?_|refine pSkip ?_|refine pExit ?_|refine pRet ?_|refine pCond ?_|refine gNone ?_))
  intro z hz
  rw [i64_id (by omega)] at hz
  (repeat(first|refine pSeq ?_|refine pReg ?_|refine sCons ?_|refine sNil ?_|refine pBlock ?_|refine pSkip ?_|refine pExit ?_|refine pRet ?_|refine pCond ?_|refine gNone ?_))
  intro n hn
  (repeat(first|refine pSeq ?_|refine pReg ?_|refine sCons ?_|refine sNil ?_|refine pBlock ?_|refine pSkip ?_|refine pExit ?_|refine pRet ?_|refine pCond ?_|refine gNone ?_))
  intro z2 hz2
  rw [i64_id (by omega)] at hz2
  (repeat(first|refine pSeq ?_|refine pReg ?_|refine sCons ?_|refine sNil ?_|refine pBlock ?_|refine pSkip ?_|refine pExit ?_|refine pRet ?_|refine pCond ?_|refine gNone ?_))
  intro z3 hz3
  obtain rfl : z3 = ((l.count c + 1 : Nat) : Int) := by omega
  (repeat(first|refine pSeq ?_|refine pReg ?_|refine sCons ?_|refine sNil ?_|refine pBlock ?_|refine pSkip ?_|refine pExit ?_|refine pRet ?_|refine pCond ?_|refine gNone ?_))
  refine ⟨by omega, ?_⟩
  intro m k hm hk cs hcs
  obtain rfl : m = l.count c + 1 := by omega
  obtain rfl : k = l.count c + 1 := by omega
  rw [repeat_str] at hcs
  subst hcs
  (repeat(first|refine pSeq ?_|refine pReg ?_|refine sCons ?_|refine sNil ?_|refine pBlock ?_|refine pSkip ?_|refine pExit ?_|refine pRet ?_|refine pCond ?_|refine gNone ?_))
  intro z4 hz4
  rw [i64_id (by omega)] at hz4
  obtain rfl : z4 = ((l.count c : Nat) : Int) := by omega
  (repeat(first|refine pSeq ?_|refine pReg ?_|refine sCons ?_|refine sNil ?_|refine pBlock ?_|refine pSkip ?_|refine pExit ?_|refine pRet ?_|refine pCond ?_|refine gNone ?_))
  refine pLoop (MW.head good (fun x : PIt => x.rest.count c) (fun x => splitF c l = x.done ++ splitF c x.rest ∧ x.rest.length ≤ l.length ∧ l.count c = x.done.length + x.rest.count c ∧ Chg s x.s [] ∧ s.next < x.s.next ∧ lookH x.s.heap s.next = some (.cells (strV x.done ++ List.replicate (x.rest.count c + 1) (str [])) tS false false))
    (fun x => [(0, str x.rest), (1, str [c]), (2, .int .i64 0), (3, .int .i64 (l.count c : Nat)), (9, .slice (some ⟨s.next, 0, none⟩) (l.count c + 1) (l.count c + 1)), (10, .int .i64 x.done.length)]) (fun x => x.s) ⟨[], l, _⟩ ⟨rfl, Nat.le_refl _, by simp, .new _, Nat.lt_succ_self _, lkH⟩ (Wk.same ⟨rfl, rfl, rfl, rfl, rfl, rfl, trivial⟩) ?_)
  intro ⟨done, rest, s1⟩ ⟨h1, h2, h3, c1, h4, h5⟩
  dsimp only at h1 h2 h3 c1 h4 h5 ⊢
  (repeat(first|refine pSeq ?_|refine pReg ?_|refine sCons ?_|refine sNil ?_|refine pBlock ?_|refine pSkip ?_|refine pExit ?_|refine pRet ?_|refine pCond ?_|refine gNone ?_))
  intro q hq
  by_cases hlt : 0 < rest.count c
  · obtain rfl : q = true := by rw [hq]; simp <;> omega
    obtain ⟨f, r, rfl, hf⟩ := List.eq_append_cons_of_mem (List.count_pos_iff.1 hlt)
    have hfc : f.count c = 0 := List.count_eq_zero.2 hf
    have hcount : (f ++ c :: r).count c = r.count c + 1 := by rw [List.count_append, List.count_cons_self, hfc]; omega
    have hlen : (f ++ c :: r).length = f.length + 1 + r.length := by simp; omega
    (repeat(first|refine pSeq ?_|refine pReg ?_|refine sCons ?_|refine sNil ?_|refine pBlock ?_|refine pSkip ?_|refine pExit ?_|refine pRet ?_|refine pCond ?_|refine gNone ?_))
    refine (index1_w (by simp)).mono fun v s1 q => ?_
    obtain ⟨rfl, rfl⟩ := q
    rw [index_first hf]
    rw [split_first hf] at h1
    (repeat(first|refine pSeq ?_|refine pReg ?_|refine sCons ?_|refine sNil ?_|refine pBlock ?_|refine pSkip ?_|refine pExit ?_|refine pRet ?_|refine pCond ?_|refine gNone ?_))
    intro q hq; obtain rfl : q = false := (by rw [hq]; simp <;> omega); (repeat(first|refine pSeq ?_|refine pReg ?_|refine sCons ?_|refine sNil ?_|refine pBlock ?_|refine pSkip ?_|refine pExit ?_|refine pRet ?_|refine pCond ?_|refine gNone ?_))
    intro z hz
    rw [i64_id (by omega)] at hz
    (repeat(first|refine pSeq ?_|refine pReg ?_|refine sCons ?_|refine sNil ?_|refine pBlock ?_|refine pSkip ?_|refine pExit ?_|refine pRet ?_|refine pCond ?_|refine gNone ?_))
    refine ⟨by omega, ?_⟩
    intro m hm g hg
    obtain rfl : m = f.length := by omega
    have eg : g = f := by rw [hg]; simp
    clear hg
    subst eg
    (repeat(first|refine pSeq ?_|refine pReg ?_|refine sCons ?_|refine sNil ?_|refine pBlock ?_|refine pSkip ?_|refine pExit ?_|refine pRet ?_|refine pCond ?_|refine gNone ?_))
    refine ⟨by omega, ?_⟩
    intro m hm o ho
    obtain rfl : m = done.length := by omega
    (repeat(first|refine pSeq ?_|refine pReg ?_|refine sCons ?_|refine sNil ?_|refine pBlock ?_|refine pSkip ?_|refine pExit ?_|refine pRet ?_|refine pCond ?_|refine gNone ?_))
    refine st_abs (cs' := strV (done ++ [g]) ++ List.replicate (r.count c + 1) (str [])) rfl rfl h5 h4 rfl ?_ fun s2 e2 c2 n2 => ?_
    · rw [ho, Nat.zero_add, Nat.mul_one]
      show setRow _ _ [_] = _
      rw [setRow_one (by rw [List.length_append, strV_len, List.length_replicate]; omega), hcount, set_row]
    (repeat(first|refine pSeq ?_|refine pReg ?_|refine sCons ?_|refine sNil ?_|refine pBlock ?_|refine pSkip ?_|refine pExit ?_|refine pRet ?_|refine pCond ?_|refine gNone ?_))
    intro n hn
    (repeat(first|refine pSeq ?_|refine pReg ?_|refine sCons ?_|refine sNil ?_|refine pBlock ?_|refine pSkip ?_|refine pExit ?_|refine pRet ?_|refine pCond ?_|refine gNone ?_))
    intro z2 hz2
    have hn1 : n = 1 := by rw [hn]; rfl
    rw [hn1, i64_id (by omega)] at hz2
    (repeat(first|refine pSeq ?_|refine pReg ?_|refine sCons ?_|refine sNil ?_|refine pBlock ?_|refine pSkip ?_|refine pExit ?_|refine pRet ?_|refine pCond ?_|refine gNone ?_))
    refine ⟨by omega, ?_⟩
    intro m hm r2 hr2
    obtain rfl : m = g.length + 1 := by omega
    have er : r2 = r := by
      rw [hr2, List.take_of_length_le (by simp <;> omega)]
      rw [show g ++ c :: r = (g ++ [c]) ++ r by simp, show g.length + 1 = (g ++ [c]).length by simp, List.drop_left]
    clear hr2
    subst er
    (repeat(first|refine pSeq ?_|refine pReg ?_|refine sCons ?_|refine sNil ?_|refine pBlock ?_|refine pSkip ?_|refine pExit ?_|refine pRet ?_|refine pCond ?_|refine gNone ?_))
    intro z3 hz3
    rw [i64_id (by omega)] at hz3
    obtain rfl : z3 = (((done ++ [g]).length : Nat) : Int) := by simp; omega
    (repeat(first|refine pSeq ?_|refine pReg ?_|refine sCons ?_|refine sNil ?_|refine pBlock ?_|refine pSkip ?_|refine pExit ?_|refine pRet ?_|refine pCond ?_|refine gNone ?_))
    refine ⟨⟨done ++ [g], r2, s2⟩, ⟨by rw [h1]; simp, by show r2.length ≤ l.length; omega, by show l.count c = (done ++ [g]).length + r2.count c; simp; omega, c1.fresh c2 (by simp), by show s.next < s2.next; omega, e2⟩, by show r2.count c < (g ++ c :: r2).count c; omega, Wk.same ⟨rfl, rfl, rfl, rfl, rfl, rfl, trivial⟩⟩
  · obtain rfl : q = false := by rw [hq]; simp <;> omega
    have h0 : rest.count c = 0 := by omega
    rw [split_last h0] at h1
    rw [h0, Nat.add_zero] at h3
    rw [h0] at h5
    (repeat(first|refine pSeq ?_|refine pReg ?_|refine sCons ?_|refine sNil ?_|refine pBlock ?_|refine pSkip ?_|refine pExit ?_|refine pRet ?_|refine pCond ?_|refine gNone ?_))
    refine ⟨by omega, ?_⟩
    intro m hm o ho
    obtain rfl : m = done.length := by omega
    (repeat(first|refine pSeq ?_|refine pReg ?_|refine sCons ?_|refine sNil ?_|refine pBlock ?_|refine pSkip ?_|refine pExit ?_|refine pRet ?_|refine pCond ?_|refine gNone ?_))
    refine st_abs (cs' := strV (done ++ [rest])) rfl rfl h5 h4 rfl ?_ fun s2 e2 c2 n2 => ?_
    · rw [show o = done.length by omega]
      show setRow _ _ [_] = _
      rw [setRow_one (by rw [List.length_append, strV_len, List.length_replicate]; omega)]
      exact congrArg some ((set_row done rest 0).trans (by simp [strV]))
    (repeat(first|refine pSeq ?_|refine pReg ?_|refine sCons ?_|refine sNil ?_|refine pBlock ?_|refine pSkip ?_|refine pExit ?_|refine pRet ?_|refine pCond ?_|refine gNone ?_))
    intro z hz
    rw [i64_id (by omega)] at hz
    (repeat(first|refine pSeq ?_|refine pReg ?_|refine sCons ?_|refine sNil ?_|refine pBlock ?_|refine pSkip ?_|refine pExit ?_|refine pRet ?_|refine pCond ?_|refine gNone ?_))
    refine slL_pre (m := l.count c + 1) rfl rfl e2 (by omega) (Nat.le_refl _) ?_
    (repeat(first|refine pSeq ?_|refine pReg ?_|refine sCons ?_|refine sNil ?_|refine pBlock ?_|refine pSkip ?_|refine pExit ?_|refine pRet ?_|refine pCond ?_|refine gNone ?_))
    refine ⟨_, _, by rw [split_len]; rfl, ⟨s.next, _, _, _, _, rfl, by omega, e2, fun i x hx => ?_⟩, c1.fresh c2 (by simp), by simp [blkOf], by rw [split_len]; exact Nat.le_refl _, ⟨_, _, rfl, e2⟩⟩
    rw [h1] at hx
    simp only [strV, List.getElem?_map, hx]
    rfl

theorem split_w {s : SS} {l : List UInt8} {c : UInt8} (hl : l.length ≤ 1000000) : CallW pr n_strings_genSplit [str l, str [c], .int .i64 0, .int .i64 (-1)] s fun v s' => ∃ base cap, v = .slice base (splitF c l).length cap ∧ StrsAt s' base (splitF c l) ∧ Chg s s' [] ∧ (∀ id ∈ blkOf base, s.next ≤ id) ∧ (splitF c l).length ≤ cap := by
  refine (split_f hl).mono fun v s1 q => ?_
  obtain ⟨base, cap, rfl, h1, c1, h2, h3, -⟩ := q
  exact ⟨base, cap, rfl, h1, c1, h2, h3⟩

theorem Split_f {s : SS} {l : List UInt8} {c : UInt8} (hl : l.length ≤ 1000000) : CallW pr n_text_Split [str l, .int .u8 c.toNat] s fun v s' => ∃ base cap, v = .slice base (splitF c l).length cap ∧ StrsAt s' base (splitF c l) ∧ Chg s s' [] ∧ (∀ id ∈ blkOf base, s.next ≤ id) ∧ (splitF c l).length ≤ cap ∧ Full s' base := by
  refine CallW.run good ok_text_Split (by simp) rfl ?_
  (repeat(first|refine pSeq ?_|refine pReg ?_|refine sCons ?_|refine sNil ?_|refine pRet ?_|refine gNone ?_))
  refine toStr_Rdb rfl (rdb_lit (l := [c]) lkH (Nat.lt_succ_self _)) ?_
  (repeat(first|refine pSeq ?_|refine pReg ?_|refine sCons ?_|refine sNil ?_|refine pRet ?_|refine gNone ?_))
  refine (show CallW pr n_strings_Split [str l, str [c]] _ fun v s' => ∃ base cap, v = .slice base (splitF c l).length cap ∧ StrsAt s' base (splitF c l) ∧ Chg s s' [] ∧ (∀ id ∈ blkOf base, s.next ≤ id) ∧ (splitF c l).length ≤ cap ∧ Full s' base from ?_).mono fun v s1 q => ?_
  · refine CallW.run good ok_strings_Split (by simp) rfl ?_
    (repeat(first|refine pSeq ?_|refine pReg ?_|refine sCons ?_|refine sNil ?_|refine pRet ?_|refine gNone ?_))
    refine (split_f hl).mono fun v s1 q => ?_
    obtain ⟨base, cap, rfl, h1, c1, h2⟩ := q
    (repeat(first|refine pSeq ?_|refine pReg ?_|refine sCons ?_|refine sNil ?_|refine pRet ?_|refine gNone ?_))
    exact ⟨base, cap, rfl, h1, (Chg.new []).nil c1, fun id hid => Nat.le_trans (Nat.le_succ _) (h2.1 id hid), h2.2⟩
  obtain ⟨base, cap, rfl, h1, c1, h2⟩ := q
  (repeat(first|refine pSeq ?_|refine pReg ?_|refine sCons ?_|refine sNil ?_|refine pRet ?_|refine gNone ?_))
  exact ⟨base, cap, rfl, h1, c1, h2⟩

theorem Split_w {s : SS} {l : List UInt8} {c : UInt8} (hl : l.length ≤ 1000000) : CallW pr n_text_Split [str l, .int .u8 c.toNat] s fun v s' => ∃ base cap, v = .slice base (splitF c l).length cap ∧ StrsAt s' base (splitF c l) ∧ Chg s s' [] ∧ (∀ id ∈ blkOf base, s.next ≤ id) ∧ (splitF c l).length ≤ cap := by
  refine (Split_f hl).mono fun v s1 q => ?_
  obtain ⟨base, cap, rfl, h1, c1, h2, h3, -⟩ := q
  exact ⟨base, cap, rfl, h1, c1, h2, h3⟩

structure PIt2 where
  i : Nat
  f : Nat
  done : List (List UInt8)
  s : SS
  W : Option Addr
  cw : Nat

/-- Behind so many bytes: what stands since the last byte to part at, and all behind it. -/
theorem sp_step {c : UInt8} {l : List UInt8} {f i : Nat} (hf : f ≤ i) (hi : i ≤ l.length) (h : c ∉ (l.drop f).take (i - f)) :
    (∀ x, l[i]? = some x → x = c → splitF c (l.drop f) = (l.drop f).take (i - f) :: splitF c (l.drop (i + 1))) ∧ (i = l.length → splitF c (l.drop f) = [l.drop f]) := by
  constructor
  · intro x hx hxc
    subst hxc
    have e : l.drop f = (l.drop f).take (i - f) ++ x :: l.drop (i + 1) := by
      conv => lhs; rw [← List.take_append_drop (i - f) (l.drop f)]
      rw [List.drop_drop, show f + (i - f) = i by omega, drop_next hx]
    conv => lhs; rw [e]
    exact split_first h
  · intro he
    rw [List.take_of_length_le (by simp; omega)] at h
    exact split_last (List.count_eq_zero.2 h)

theorem rsplit_w {s : SS} {l : List UInt8} {c : UInt8} (hl : l.length ≤ 1000000) : CallW pr n_ref04_Split [str l, .int .u8 c.toNat] s fun v s' => ∃ base cap, v = .slice base (splitF c l).length cap ∧ StrsAt s' base (splitF c l) ∧ Chg s s' [] ∧ ∀ id ∈ blkOf base, s.next ≤ id := by
  refine CallW.run good ok_ref04_Split (by simp) rfl ?_
  (repeat(first|refine pSeq ?_|refine pReg ?_|refine sCons ?_|refine sNil ?_|refine pBlock ?_|refine pSkip ?_|refine pExit ?_|refine pRet ?_|refine pCond ?_|refine gNone ?_))
  refine pLoop (MW.head good (fun x : PIt2 => l.length - x.i) (fun x => x.f ≤ x.i ∧ x.i ≤ l.length ∧ x.done.length ≤ x.i ∧ c ∉ (l.drop x.f).take (x.i - x.f) ∧ splitF c l = x.done ++ splitF c (l.drop x.f) ∧ Chg s x.s [] ∧ OwnR tS x.s x.W x.cw x.done.length (strV x.done) ∧ ∀ i ∈ blkOf x.W, s.next ≤ i)
    (fun x => [(0, str l), (1, .int .u8 c.toNat), (5, .slice x.W x.done.length x.cw), (6, .int .i64 x.f), (7, .int .i64 x.i)]) (fun x => x.s) ⟨0, 0, [], s, none, 0⟩ ⟨Nat.le_refl _, Nat.zero_le _, Nat.le_refl _, by simp, rfl, .refl _ _, ⟨rfl, rfl, rfl⟩, by simp [blkOf]⟩ (Wk.same ⟨rfl, rfl, rfl, rfl, rfl, trivial⟩) ?_)
  intro ⟨i, f, done, s1, W, cw⟩ ⟨hfi, hil, hd, hno, h1, c1, hW, hB⟩
  dsimp only at hfi hil hd hno h1 c1 hW hB ⊢
  obtain ⟨st1, st2⟩ := sp_step hfi hil hno
  (repeat(first|refine pSeq ?_|refine pReg ?_|refine sCons ?_|refine sNil ?_|refine pBlock ?_|refine pSkip ?_|refine pExit ?_|refine pRet ?_|refine pCond ?_|refine gNone ?_))
  intro n hn
  (repeat(first|refine pSeq ?_|refine pReg ?_|refine sCons ?_|refine sNil ?_|refine pBlock ?_|refine pSkip ?_|refine pExit ?_|refine pRet ?_|refine pCond ?_|refine gNone ?_))
  intro q hq
  by_cases hlt : i < l.length
  · obtain rfl : q = true := by rw [hq]; simp <;> omega
    obtain ⟨x, hx⟩ : ∃ x, l[i]? = some x := ⟨_, List.getElem?_eq_getElem hlt⟩
    (repeat(first|refine pSeq ?_|refine pReg ?_|refine sCons ?_|refine sNil ?_|refine pBlock ?_|refine pSkip ?_|refine pExit ?_|refine pRet ?_|refine pCond ?_|refine gNone ?_))
    refine ⟨by omega, ?_⟩
    intro m hm
    obtain rfl : m = i := by omega
    refine ⟨x, hx, ?_⟩
    (repeat(first|refine pSeq ?_|refine pReg ?_|refine sCons ?_|refine sNil ?_|refine pBlock ?_|refine pSkip ?_|refine pExit ?_|refine pRet ?_|refine pCond ?_|refine gNone ?_))
    intro q hq
    by_cases hxc : x = c
    · obtain rfl : q = true := by rw [hq]; simp [hxc]
      rw [st1 x hx hxc] at h1
      (repeat(first|refine pSeq ?_|refine pReg ?_|refine sCons ?_|refine sNil ?_|refine pBlock ?_|refine pSkip ?_|refine pExit ?_|refine pRet ?_|refine pCond ?_|refine gNone ?_))
      refine ⟨by omega, ?_⟩
      intro m1 hm1
      refine ⟨by omega, ?_⟩
      intro m2 hm2 g hg
      obtain rfl : m1 = m := by omega
      obtain rfl : m2 = f := by omega
      (repeat(first|refine pSeq ?_|refine pReg ?_|refine sCons ?_|refine sNil ?_|refine pBlock ?_|refine pSkip ?_|refine pExit ?_|refine pRet ?_|refine pCond ?_|refine gNone ?_))
      refine appR (h := OwnR.chg (c := Chg.new []) hW (by simp)) (size := 1) (by rw [strV_len, Nat.mul_one]) (by omega) rfl rfl lkH rfl rfl fun s2 o2 c2 n2 => ?_
      (repeat(first|refine pSeq ?_|refine pReg ?_|refine sCons ?_|refine sNil ?_|refine pBlock ?_|refine pSkip ?_|refine pExit ?_|refine pRet ?_|refine pCond ?_|refine gNone ?_))
      intro z hz
      rw [i64_id (by omega)] at hz
      obtain rfl : z = ((m1 + 1 : Nat) : Int) := by omega
      (repeat(first|refine pSeq ?_|refine pReg ?_|refine sCons ?_|refine sNil ?_|refine pBlock ?_|refine pSkip ?_|refine pExit ?_|refine pRet ?_|refine pCond ?_|refine gNone ?_))
      intro z hz
      rw [i64_id (by omega)] at hz
      obtain rfl : z = ((m1 + 1 : Nat) : Int) := by omega
      (repeat(first|refine pSeq ?_|refine pReg ?_|refine sCons ?_|refine sNil ?_|refine pBlock ?_|refine pSkip ?_|refine pExit ?_|refine pRet ?_|refine pCond ?_|refine gNone ?_))
      have := c1.next
      refine ⟨⟨m1 + 1, m1 + 1, done ++ [g], s2, some ⟨s1.next + 1, 0, none⟩, 0⟩, ⟨Nat.le_refl _, hlt, by simp; omega, by simp, by rw [h1, hg]; simp, c1.fresh ((Chg.new []).nil c2) hB, ?_, ?_⟩, by show l.length - (m1 + 1) < l.length - m1; omega, Wk.same ⟨rfl, rfl, ?_, rfl, rfl, trivial⟩⟩
      · show OwnR tS s2 _ 0 (done ++ [g]).length (strV (done ++ [g]))
        rw [List.length_append]
        simp only [strV, List.map_append]
        exact o2
      · intro i hi
        simp only [blkOf, List.mem_singleton] at hi
        omega
      · show some _ = some _
        rw [List.length_append]
        rfl
    · obtain rfl : q = false := by rw [hq]; simp; exact fun e => hxc (UInt8.toNat_inj.1 (by omega))
      (repeat(first|refine pSeq ?_|refine pReg ?_|refine sCons ?_|refine sNil ?_|refine pBlock ?_|refine pSkip ?_|refine pExit ?_|refine pRet ?_|refine pCond ?_|refine gNone ?_))
      intro z hz
      rw [i64_id (by omega)] at hz
      obtain rfl : z = ((m + 1 : Nat) : Int) := by omega
      (repeat(first|refine pSeq ?_|refine pReg ?_|refine sCons ?_|refine sNil ?_|refine pBlock ?_|refine pSkip ?_|refine pExit ?_|refine pRet ?_|refine pCond ?_|refine gNone ?_))
      refine ⟨⟨m + 1, f, done, s1, W, cw⟩, ⟨by show f ≤ m + 1; omega, hlt, by show done.length ≤ m + 1; omega, ?_, h1, c1, hW, hB⟩, by show l.length - (m + 1) < l.length - m; omega, Wk.same ⟨rfl, rfl, rfl, rfl, rfl, trivial⟩⟩
      show c ∉ (l.drop f).take (m + 1 - f)
      rw [show m + 1 - f = (m - f) + 1 by omega, take_next (c := x) (by rw [List.getElem?_drop, show f + (m - f) = m by omega]; exact hx)]
      simp only [List.mem_append, List.mem_singleton, not_or]
      exact ⟨hno, fun e => hxc e.symm⟩
  · obtain rfl : q = false := by rw [hq]; simp <;> omega
    rw [st2 (by omega)] at h1
    (repeat(first|refine pSeq ?_|refine pReg ?_|refine sCons ?_|refine sNil ?_|refine pBlock ?_|refine pSkip ?_|refine pExit ?_|refine pRet ?_|refine pCond ?_|refine gNone ?_))
    refine ⟨by omega, ?_⟩
    intro m2 hm2 g hg
    obtain rfl : m2 = f := by omega
    have eg : g = l.drop m2 := by rw [hg, List.take_of_length_le (by simp)]
    clear hg
    subst eg
    (repeat(first|refine pSeq ?_|refine pReg ?_|refine sCons ?_|refine sNil ?_|refine pBlock ?_|refine pSkip ?_|refine pExit ?_|refine pRet ?_|refine pCond ?_|refine gNone ?_))
    refine appR (h := OwnR.chg (c := Chg.new []) hW (by simp)) (size := 1) (by rw [strV_len, Nat.mul_one]) (by omega) rfl rfl lkH rfl rfl fun s2 o2 c2 n2 => ?_
    (repeat(first|refine pSeq ?_|refine pReg ?_|refine sCons ?_|refine sNil ?_|refine pBlock ?_|refine pSkip ?_|refine pExit ?_|refine pRet ?_|refine pCond ?_|refine gNone ?_))
    obtain ⟨-, -, o3, g, o4, o5⟩ := o2
    have := c1.next
    refine ⟨_, _, by rw [h1, List.length_append]; rfl, ⟨s1.next + 1, _, _, _, _, rfl, o3, o4, fun i x hx => ?_⟩, c1.fresh ((Chg.new []).nil c2) hB, ?_⟩
    · rw [h1] at hx
      rw [show strV done ++ [str (l.drop m2)] = strV (done ++ [l.drop m2]) by simp [strV]]
      simp only [strV, List.getElem?_map, hx]
      rfl
    · intro i hi
      simp only [blkOf, List.mem_singleton] at hi
      omega
theorem StrsAt.at {s : SS} {base : Option Addr} {ls : List (List UInt8)} (h : StrsAt s base ls) : ∃ b, base = some ⟨b, 0, none⟩ ∧ ∃ cs t g r, lookH s.heap b = some (.cells cs t g r) ∧ ∀ (i : Nat) x, ls[i]? = some x → cs[i]? = some (str x) := by
  obtain ⟨b, cs, t, g, r, h1, h2, h3, h4⟩ := h
  exact ⟨b, h1, cs, t, g, r, h3, h4⟩

theorem ldS_is {P : Program} {T : TL} {s : SS} {K : RR → Prop} {x : Operand} {b off : Nat} {cs : List Value} {t : TypeId} {g r : Bool} {l : List UInt8} (hx : opd T s.gl x = some (.pointer (some ⟨b, off, none⟩))) (hb : lookH s.heap b = some (.cells cs t g r)) (hc : cs[off]? = some (str l))
    (h : K (.val (str l))) : wN P (.ldS x) T s K := by
  simp only [wN, hx, hb]
  exact ⟨l, hc, h⟩

theorem idx_no {c : UInt8} : ∀ {l : List UInt8}, c ∉ l → Lib.indexByte l c = -1
  | [], _ => rfl
  | x :: l, h => by
    have h1 : (x == c) = false := by simp; exact fun e => h (by simp [e])
    rw [Lib.indexByte, h1, idx_no (l := l) fun q => h (by simp [q])]
    rfl
end Go.Vf.S
