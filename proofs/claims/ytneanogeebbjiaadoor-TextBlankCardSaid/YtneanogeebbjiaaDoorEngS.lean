import Derived.Test.YtneanogeebbjiaaDoorEngR
/- The machine of plain blocks, by rows: what is shown of an operation holds of it. -/
namespace Go.Vf
open Go.RowKit
set_option linter.unusedVariables false
set_option linter.unusedSimpArgs false
section
variable {P : Program} {T : TL} {s : SS} {K : RR → Prop}

theorem opd_ok {x : Operand} {v : Value} (hc : okC x = true) (h : opd T s.gl x = some v) : operand (toTr T) s.st x = some v := by
  cases x with
  | tmp t => simp only [operand, toTr_get]; exact h
  | const c => simp only [okC] at hc; simp only [opd] at h; simp only [operand, hc, cond_true]; exact h
  | global g => exact h
  | func f => exact h

theorem opds_ok : ∀ {l : List Operand} {vs : List Value}, okCs l = true → opds T s.gl l = some vs → operands (toTr T) s.st l = some vs
  | [], vs, _, h => h
  | x :: r, vs, hc, h => by
    simp only [okCs, Bool.and_eq_true] at hc
    simp only [opds] at h
    split at h
    · cases h
    · rename_i v hv
      split at h
      · cases h
      · rename_i l hl
        cases h
        simp only [operands, opd_ok hc.1 hv, opds_ok hc.2 hl]

theorem opdO_ok {x : Option Operand} {v : Option Value} (hc : okO x = true) (h : opdO T s.gl x = some v) : opt (toTr T) s.st x = some v := by
  cases x with
  | none => exact h
  | some x =>
    simp only [opdO] at h
    split at h
    · cases h
    · rename_i v hv
      cases h
      simp only [opt, opd_ok hc hv]

theorem beqL_dec : ∀ (a b : List UInt8), beqL a b = decide (a = b)
  | [], [] => rfl
  | [], b :: y => rfl
  | a :: x, [] => rfl
  | a :: x, b :: y => by
    simp only [beqL]
    rcases beq_cases a.toNat b.toNat with ⟨h, hb⟩ | ⟨h, hb⟩
    · rw [hb, cond_true, beqL_dec x y]
      have : a = b := UInt8.toNat_inj.1 h
      simp [this]
    · rw [hb, cond_false]
      have : a ≠ b := fun e => h (by rw [e])
      simp [this]

theorem wInt_ok {op : BinOp} {k : IntKind} {a b : Int} {K : Value → Prop} (h : wInt op k a b K) : ∃ v, intBin op k a b = some v ∧ K v := by
  cases op <;> simp only [wInt] at h <;> simp only [intBin] <;> first
    | exact ⟨_, rfl, h _ rfl⟩
    | exact ⟨_, if_neg h.1, h.2 _ rfl⟩
    | exact h.elim
    | exact ⟨_, rfl, h _ (Bool.eq_iff_iff.2 (by simp))⟩

theorem wStr_ok {op : BinOp} {a b : List UInt8} {K : Value → Prop} (h : wStr op a b K) : ∃ v, strBin op ⟨⟨a⟩⟩ ⟨⟨b⟩⟩ = some v ∧ K v := by
  cases op with
  | add =>
    refine ⟨_, ?_, h.2 _ rfl⟩
    have : Nat.ble (a.length + b.length) 4294967296 = true := by rw [Nat.ble_eq]; exact h.1
    simp only [strBin, this, cond_true]
  | eql => exact ⟨_, rfl, h _ (beqL_dec a b)⟩
  | neq => exact ⟨_, rfl, h _ (by simp only [beqL_dec]; by_cases e : a = b <;> simp [e])⟩
  | lss => exact ⟨_, rfl, h _ rfl⟩
  | leq => exact ⟨_, rfl, h _ rfl⟩
  | gtr => exact ⟨_, rfl, h _ rfl⟩
  | geq => exact ⟨_, rfl, h _ rfl⟩
  | _ => exact h.elim

theorem eqKind_inv {t : TypeId} {e : EqK} (h : eqKind P t = e) (he : e ≠ .none) : (e = .bool ∧ P.underlying t = some .bool) ∨ (e = .ptr ∧ ∃ a, P.underlying t = some (.pointer a)) ∨ (e = .slice ∧ ∃ a, P.underlying t = some (.slice a)) ∨
    (e = .map ∧ ∃ a b, P.underlying t = some (.map a b)) ∨ (e = .func ∧ ∃ a b c, P.underlying t = some (.func a b c)) := by
  unfold eqKind at h
  split at h <;> rename_i hu <;> subst h <;> simp_all

theorem wEql_ok {t : TypeId} {x y : Value} {c : Bool} (h : wEql (eqKind P t) x y = some c) : eqlOther P t x y = some c := by
  generalize he : eqKind P t = e at h
  have hne : e ≠ .none := fun q => by subst q; simp [wEql] at h
  unfold wEql at h
  unfold eqlOther
  rcases eqKind_inv he hne with ⟨rfl, hu⟩ | ⟨rfl, a, hu⟩ | ⟨rfl, a, hu⟩ | ⟨rfl, a, b, hu⟩ | ⟨rfl, a, b, d, hu⟩ <;> rw [hu] <;> split at h <;> first
    | contradiction
    | exact h

theorem wBin_ok {op : BinOp} {t : TypeId} {x y : Value} {K : Value → Prop} (h : wBin op (eqKind P t) x y K) : ∃ v, binV P op t x y = some v ∧ K v := by
  unfold wBin at h
  split at h
  · rename_i k a k' b
    have main : ∀ (q : (match decide (k = k') with | true => wInt op k a b K | false => False)), ∃ v, (if k = k' then intBin op k a b else none) = some v ∧ K v := by
      intro q
      split at q
      · rename_i hk
        have hk := of_decide_eq_true hk
        obtain ⟨v, h1, h2⟩ := wInt_ok q
        exact ⟨v, by rw [if_pos hk]; exact h1, h2⟩
      · exact q.elim
    cases op with
    | shl => exact ⟨_, by simp only [binV, shiftBin]; rw [if_neg (by omega)], h.2 _ rfl⟩
    | shr => exact ⟨_, by simp only [binV, shiftBin]; rw [if_neg (by omega)], h.2 _ rfl⟩
    | _ => exact main h
  · rename_i a b
    obtain ⟨v, h1, h2⟩ := wStr_ok h
    refine ⟨v, ?_, h2⟩
    cases op <;> first | exact h1 | exact (h : False).elim
  · rename_i hx hy
    split at h
    · rename_i c hc
      refine ⟨_, ?_, h _ rfl⟩
      have := wEql_ok hc
      unfold binV
      split
      · rename_i e; cases e
      · rename_i e; cases e
      · exact (hx _ _ _ _ rfl rfl).elim
      · exact (hy _ _ rfl rfl).elim
      · rw [this]; rfl
      · rename_i e _ _; cases e
      · simp_all
    · rename_i c hc
      refine ⟨_, ?_, h _ rfl⟩
      have := wEql_ok hc
      unfold binV
      split
      · rename_i e; cases e
      · rename_i e; cases e
      · exact (hx _ _ _ _ rfl rfl).elim
      · exact (hy _ _ rfl rfl).elim
      · rename_i e _ _; cases e
      · rw [this]; rfl
      · simp_all
    · exact h.elim

theorem wUn_ok {op : UnOp} {x : Value} {K : Value → Prop} (h : wUn op x K) : ∃ v, unV op x = some v ∧ K v := by
  unfold wUn at h
  split at h
  · exact ⟨_, rfl, h _ rfl⟩
  · exact wInt_ok h
  · exact ⟨_, rfl, h _ rfl⟩
  · exact h.elim

theorem wIdx_ok {v : Value} {len : Nat} {K : Nat → Prop} (h : wIdx v len K) : ∃ n, idx v len = some n ∧ K n := by
  unfold wIdx at h
  split at h
  · rename_i k n
    obtain ⟨⟨h1, h2⟩, h3⟩ := h
    obtain ⟨m, rfl⟩ := Int.eq_ofNat_of_zero_le h1
    refine ⟨m, ?_, h3 m rfl⟩
    have : Nat.blt m len = true := by rw [Nat.blt_eq]; omega
    show (bif Nat.blt m len then some m else none) = some m
    rw [this]; rfl
  · exact h.elim

theorem wBnd_ok {v : Option Value} {d most : Nat} {K : Nat → Prop} (h : wBnd v d most K) : ∃ n, bound v d most = some n ∧ K n := by
  unfold wBnd at h
  split at h
  · exact ⟨_, rfl, h⟩
  · rename_i k n
    obtain ⟨⟨h1, h2⟩, h3⟩ := h
    obtain ⟨m, rfl⟩ := Int.eq_ofNat_of_zero_le h1
    refine ⟨m, ?_, h3 m rfl⟩
    have : Nat.ble m most = true := by rw [Nat.ble_eq]; omega
    show (bif Nat.ble m most then some m else none) = some m
    rw [this]; rfl
  · exact h.elim

theorem addL (b off n : Nat) : (⟨b, off, none⟩ : Addr).add n = ⟨b, off + n, none⟩ := by
  unfold Addr.add
  by_cases h : n = 0
  · subst h; simp
  · rw [if_neg h]

theorem loadRow_L {b off n : Nat} {c : List Value} {e : TypeId} {g r : Bool} (h : lookH s.heap b = some (.cells c e g r)) : loadRow s.st ⟨b, off, none⟩ n = takeN n (c.drop off) := by
  simp only [loadRow, Option.isSome_none, cond_false, SS.get, h]
theorem loadCell_L {b off : Nat} {c : List Value} {e : TypeId} {g r : Bool} (h : lookH s.heap b = some (.cells c e g r)) : loadCell s.st ⟨b, off, none⟩ = c[off]? := by
  simp only [loadCell, Option.isSome_none, cond_false, SS.get, h]
theorem growOf_L {b off : Nat} {c : List Value} {e : TypeId} {g r : Bool} (h : lookH s.heap b = some (.cells c e g r)) : growOf s.st ⟨b, off, none⟩ = some (g, e) := by
  simp only [growOf, SS.get, h]
theorem storeRow_L {b off : Nat} {c c' vs : List Value} {e : TypeId} {g : Bool} (h : lookH s.heap b = some (.cells c e g false)) (hs : setRow c off vs = some c') :
    storeRow s.st ⟨b, off, none⟩ vs = some (SS.st { s with heap := (b, some (.cells c' e g false)) :: s.heap }) := by
  simp only [storeRow, Option.isSome_none, cond_false, SS.get, h, hs]
  rfl

theorem layM_ok {P : Program} {fields : Array Field} : ∀ {ps : List (Nat × Operand)} {l : List (Nat × Nat × Operand)} {vs : List (Nat × Nat × Value)} {c c' : List Value}, placesS P fields ps = some l → opdPs T s.gl l = some vs → layM c vs = some c' →
    ∃ ws, partsOf (toTr T) s.st ps = some ws ∧ layAt (fun i => match fields[i]? with | none => none | some f => match sizeB P f.type with | none => none | some n => some (f.offset, n)) c ws = some c'
  | [], l, vs, c, c', h1, h2, h3 => by
    simp only [placesS] at h1; cases h1
    simp only [opdPs] at h2; cases h2
    simp only [layM] at h3
    exact ⟨[], rfl, h3⟩
  | (i, x) :: r, l, vs, c, c', h1, h2, h3 => by
    simp only [placesS] at h1
    split at h1
    · cases h1
    · rename_i f hf
      split at h1
      · rename_i n l1 hn hl1
        cases hx : okC x with
        | false => simp only [hx, cond_false] at h1; cases h1
        | true =>
          simp only [hx, cond_true] at h1; cases h1
          simp only [opdPs] at h2
          split at h2
          · cases h2
          · rename_i v hv
            split at h2
            · cases h2
            · rename_i vs1 hvs1
              cases h2
              simp only [layM] at h3
              cases hb : Nat.beq (flat v).length n with
              | false => simp only [hb, cond_false] at h3; cases h3
              | true =>
                simp only [hb, cond_true] at h3
                split at h3
                · cases h3
                · rename_i c1 hc1
                  obtain ⟨ws, q1, q2⟩ := layM_ok hl1 hvs1 h3
                  refine ⟨(i, v) :: ws, ?_, ?_⟩
                  · simp only [partsOf, opd_ok hx hv, q1]
                  · simp only [layAt, hf, hn, hb, cond_true, hc1]
                    exact q2
      · cases h1

theorem layA_ok {n : Nat} : ∀ {ps : List (Nat × Operand)} {l : List (Nat × Nat × Operand)} {vs : List (Nat × Nat × Value)} {c c' : List Value}, placesA n ps = some l → opdPs T s.gl l = some vs → layM c vs = some c' →
    ∃ ws, partsOf (toTr T) s.st ps = some ws ∧ layAt (fun i => some (i * n, n)) c ws = some c'
  | [], l, vs, c, c', h1, h2, h3 => by
    simp only [placesA] at h1; cases h1
    simp only [opdPs] at h2; cases h2
    simp only [layM] at h3
    exact ⟨[], rfl, h3⟩
  | (i, x) :: r, l, vs, c, c', h1, h2, h3 => by
    simp only [placesA] at h1
    split at h1
    · rename_i l1 hl1
      cases hx : okC x with
      | false => simp only [hx, cond_false] at h1; cases h1
      | true =>
        simp only [hx, cond_true] at h1; cases h1
        simp only [opdPs] at h2
        split at h2
        · cases h2
        · rename_i v hv
          split at h2
          · cases h2
          · rename_i vs1 hvs1
            cases h2
            simp only [layM] at h3
            cases hb : Nat.beq (flat v).length n with
            | false => simp only [hb, cond_false] at h3; cases h3
            | true =>
              simp only [hb, cond_true] at h3
              split at h3
              · cases h3
              · rename_i c1 hc1
                obtain ⟨ws, q1, q2⟩ := layA_ok hl1 hvs1 h3
                refine ⟨(i, v) :: ws, ?_, ?_⟩
                · simp only [partsOf, opd_ok hx hv, q1]
                · simp only [layAt, hb, cond_true, hc1]
                  exact q2
    · cases h1

theorem bytesOf_map : ∀ (l : List UInt8), bytesOf (bytesV l) = some l
  | [] => rfl
  | b :: l => by
    have := bytesOf_map l
    simp only [bytesV] at this
    simp only [bytesV, List.map_cons, bytesOf, this]
    congr 2
    simp


theorem srcS {size n : Nat} {v : Value} {new : List Value} {KK : Nat → List Value → Prop} (h : wSrc s size v KK) : ∃ n new, srcLen v = some n ∧ srcCells s.st size n v = some new ∧ KK n new := by
  unfold wSrc at h
  split at h
  · exact ⟨_, _, rfl, rfl, h⟩
  · rename_i b off m _
    split at h
    · rename_i c _ _ _ hc
      obtain ⟨nw, h1, h2⟩ := h
      exact ⟨m, nw, rfl, by simp only [srcCells, loadRow_L hc]; exact h1, h2⟩
    · exact h.elim
  · rename_i l
    refine ⟨l.length, _, rfl, ?_, h _ rfl⟩
    simp only [srcCells]
    rw [List.take_of_length_le (Nat.le_refl _)]
    rfl
  · exact h.elim

theorem srcN {size dl : Nat} {v : Value} {KK : Nat → List Value → Prop} (h : wSrcN s size dl v KK) : ∃ sl new, srcLen v = some sl ∧ srcCells s.st size (min sl dl) v = some new ∧ KK (min sl dl) new := by
  unfold wSrcN at h
  split at h
  · exact ⟨_, _, rfl, rfl, h⟩
  · rename_i b off m _
    split at h
    · rename_i c _ _ _ hc
      obtain ⟨nw, h1, h2⟩ := h
      exact ⟨m, nw, rfl, by simp only [srcCells, loadRow_L hc]; exact h1, h2⟩
    · exact h.elim
  · rename_i l
    exact ⟨l.length, _, rfl, rfl, h _ rfl⟩
  · exact h.elim

theorem wAppB_ok {e t t' : TypeId} {ts : List TypeId} {i : TypeInfo} {z v : Value} {base : Option Addr} {len cap n : Nat} {new : List Value} (hu : P.underlying t = some (.slice e)) (hi : P.info? e = some i) (hz : zeroB P e = some z) (hfz : Nat.beq (flat z).length i.size = true)
    (happ : appended P s.st i.size e (some t') v = some (new, n)) (h : wAppB s e i.size i.bytes base len cap n new K) : ∃ r : RR, appendV P s.st (t :: t' :: ts) [.slice base len cap, v] = some r.toN ∧ K r := by
      obtain ⟨⟨b1, b2, b3, b4⟩, h⟩ := h
      have e1 : Nat.ble ((len + n) * i.bytes) 140737488355328 = true := by rw [Nat.ble_eq]; exact b1
      have e2 : Nat.ble (len + n) 4294967296 = true := by rw [Nat.ble_eq]; exact b2
      have e3 : Nat.beq new.length (n * i.size) = true := by rw [Nat.beq_eq]; exact b3
      simp only [appendV, hu, hi, hz, happ, e1, e2, e3, hfz, b4, Bool.and_self, cond_true]
      cases base with
      | none =>
        simp only
        rcases Nat.lt_or_ge cap (len + n) with q | q
        · have qb : Nat.ble (len + n) cap = false := by rw [← Bool.not_eq_true, Nat.ble_eq]; omega
          obtain ⟨h0, h1⟩ := h.2 q
          subst h0
          simp only [qb, cond_false, Nat.beq_refl, cond_true]
          refine ⟨_, ?_, h1 _ rfl⟩
          simp only [Nat.zero_add]
          rfl
        · have qb : Nat.ble (len + n) cap = true := by rw [Nat.ble_eq]; omega
          obtain ⟨h0, h1⟩ := h.1 q
          subst h0
          simp only [qb, cond_true, Nat.beq_refl]
          exact ⟨_, rfl, h1⟩
      | some a =>
        obtain ⟨b, off, sp⟩ := a
        cases sp with
        | some _ => exact h.elim
        | none =>
        simp only at h
        split at h
        · rename_i c t1 ro hc
          simp only [SS.get, hc]
          rcases Nat.lt_or_ge cap (len + n) with q | q
          · have qb : Nat.ble (len + n) cap = false := by rw [← Bool.not_eq_true, Nat.ble_eq]; omega
            obtain ⟨old, h1, h2⟩ := h.2 q
            simp only [qb, cond_false, loadRow_L hc, h1]
            exact ⟨_, rfl, h2 _ _ rfl rfl⟩
          · have qb : Nat.ble (len + n) cap = true := by rw [Nat.ble_eq]; omega
            obtain ⟨hro, c', h1, h2⟩ := h.1 q
            subst hro
            simp only [qb, cond_true, addL, storeRow_L hc h1]
            exact ⟨_, rfl, h2 _ rfl⟩
        · rename_i c t1 ro hc
          simp only [SS.get, hc]
          rcases Nat.eq_zero_or_pos n with q | q
          · subst q
            simp only [Nat.beq_refl, cond_true]
            exact ⟨_, rfl, h.1 rfl⟩
          · have qb : Nat.beq n 0 = false := beqF (by omega)
            obtain ⟨hro, ht, old, h1, h2⟩ := h.2 q
            subst hro; subst ht
            simp only [qb, cond_false, loadRow_L hc, h1, Nat.beq_refl, Bool.not_true, Bool.or_self]
            exact ⟨_, rfl, h2 _ _ rfl rfl⟩
        · exact h.elim

theorem wApp_ok {x y : Operand} {t t' : TypeId} {ts : List TypeId} {args : Array Operand} {argTypes : Array TypeId} {m : MOp} (hargs : args.toList = [x, y]) (htys : argTypes.toList = t :: t' :: ts) (hx : okC x = true) (hy : okC y = true)
    (hm : (match P.underlying t, P.underlying t' with
      | some (.slice e), some (.slice e') => (match P.info? e, zeroB P e, P.info? e' with
        | some i, some z, some _ => bif Nat.beq (flat z).length i.size then some (MOp.app e i.size i.bytes x y) else none
        | _, _, _ => none)
      | some (.slice e), some .string => (match P.info? e, zeroB P e with
        | some i, some z => bif Nat.beq (flat z).length i.size then some (.app e i.size i.bytes x y) else none
        | _, _ => none)
      | some (.slice e), some (.int _) => (match P.info? e, zeroB P e with
        | some i, some z => bif Nat.beq (flat z).length i.size then some (.appZ e i.size i.bytes (flat z) x y) else none
        | _, _ => none)
      | _, _ => some (.gen (.call { callee := .builtin .append, args := args, argTypes := argTypes }))) = some m) (h : wN P m T s K) :
    ∃ r : RR, aOp P (toTr T) s.st (.call { callee := .builtin .append, args := args, argTypes := argTypes }) = some r.toN ∧ K r := by
  have go : ∀ {base : Option Addr} {len cap : Nat} {v : Value}, opd T s.gl x = some (.slice base len cap) → opd T s.gl y = some v → aOp P (toTr T) s.st (.call { callee := .builtin .append, args := args, argTypes := argTypes }) = appendV P s.st argTypes.toList [.slice base len cap, v] := by
    intro base len cap v hp hv
    simp only [aOp, hargs, operands, opd_ok hx hp, opd_ok hy hv]
  have main : ∀ {e : TypeId} {u : TypeDesc} {i : TypeInfo} {z : Value}, P.underlying t = some (.slice e) → P.underlying t' = some u → (∀ k, u ≠ .int k) → P.info? e = some i → zeroB P e = some z → Nat.beq (flat z).length i.size = true →
      wN P (.app e i.size i.bytes x y) T s K → ∃ r : RR, aOp P (toTr T) s.st (.call { callee := .builtin .append, args := args, argTypes := argTypes }) = some r.toN ∧ K r := by
    intro e u i z hu hu' hne hi hz hfz h
    simp only [wN] at h
    split at h
    · rename_i base len cap v hp hv
      obtain ⟨n, new, s1, s2, h⟩ := srcS (n := 0) (new := []) h
      have happ : appended P s.st i.size e (some t') v = some (new, n) := by
        simp only [appended, hu']
        cases u with
        | int k => exact absurd rfl (hne k)
        | _ => simp only [s1, s2]
      rw [go hp hv, htys]
      exact wAppB_ok hu hi hz hfz happ h
    · exact h.elim
  have zeros : ∀ {e : TypeId} {k : IntKind} {i : TypeInfo} {z : Value}, P.underlying t = some (.slice e) → P.underlying t' = some (.int k) → P.info? e = some i → zeroB P e = some z → Nat.beq (flat z).length i.size = true →
      wN P (.appZ e i.size i.bytes (flat z) x y) T s K → ∃ r : RR, aOp P (toTr T) s.st (.call { callee := .builtin .append, args := args, argTypes := argTypes }) = some r.toN ∧ K r := by
    intro e k i z hu hu' hi hz hfz h
    simp only [wN] at h
    split at h
    · rename_i base len cap q v hp hv
      obtain ⟨⟨h0, h1⟩, h⟩ := h
      obtain ⟨n, rfl⟩ := Int.eq_ofNat_of_zero_le h0
      rw [go hp hv, htys]
      refine wAppB_ok hu hi hz hfz ?_ (h n rfl _ rfl)
      have : Nat.ble n 1073741824 = true := by rw [Nat.ble_eq]; omega
      simp only [appended, hu', Int.ofNat_eq_natCast, hz, hfz, this, cond_true]
    · exact h.elim
  split at hm
  · rename_i e e' hu hu'
    split at hm
    · rename_i i z _ hi hz _
      cases hb : Nat.beq (flat z).length i.size with
      | false => simp [hb] at hm
      | true =>
        simp only [hb, cond_true, Option.some.injEq] at hm; subst hm
        exact main hu hu' (fun k q => by cases q) hi hz hb h
    · cases hm
  · rename_i e hu hu'
    split at hm
    · rename_i i z hi hz
      cases hb : Nat.beq (flat z).length i.size with
      | false => simp [hb] at hm
      | true =>
        simp only [hb, cond_true, Option.some.injEq] at hm; subst hm
        exact main hu hu' (fun k q => by cases q) hi hz hb h
    · cases hm
  · rename_i e k hu hu'
    split at hm
    · rename_i i z hi hz
      cases hb : Nat.beq (flat z).length i.size with
      | false => simp [hb] at hm
      | true =>
        simp only [hb, cond_true, Option.some.injEq] at hm; subst hm
        exact zeros hu hu' hi hz hb h
    · cases hm
  · cases hm; exact h

theorem aggB_int {t : TypeId} {b : Bool} (h : aggB P t = some b) : ∃ u, P.underlying t = some u := by
  unfold aggB at h
  split at h
  · cases h
  · rename_i hu; exact ⟨_, hu⟩
  · rename_i hu; exact ⟨_, hu⟩
  · rename_i u _ _ hu; exact ⟨u, hu⟩

theorem wrap_shl (k : IntKind) (a : Int) (n : Nat) : k.wrap (a * 2 ^ min n k.bits) = k.wrap (a * 2 ^ n) := by
  rcases Nat.le_total n k.bits with h | h
  · rw [Nat.min_eq_left h]
  · rw [Nat.min_eq_right h]
    have e : (a * 2 ^ n : Int) % 2 ^ k.bits = 0 := by
      rw [show n = k.bits + (n - k.bits) from by omega, Int.pow_add, ← Int.mul_assoc, Int.mul_right_comm]
      exact Int.mul_emod_left _ _
    have e' : (a * 2 ^ k.bits : Int) % 2 ^ k.bits = 0 := Int.mul_emod_left _ _
    unfold IntKind.wrap
    rw [e, e']

/-- What is shown of an operation holds of it. -/
theorem wN_ok {op : Op} {m : MOp} (hm : cOp P op = some m) (h : wN P m T s K) : ∃ r : RR, aOp P (toTr T) s.st op = some r.toN ∧ K r := by
  unfold cOp at hm
  split at hm
  · -- move
    rename_i x
    cases hx : okC x with
    | false => simp [hx] at hm
    | true =>
      simp only [hx, cond_true, Option.some.injEq] at hm; subst hm
      simp only [wN] at h
      split at h
      · rename_i v hv
        exact ⟨_, by simp only [aOp, opd_ok hx hv]; rfl, h⟩
      · exact h.elim
  · -- assign
    rename_i x
    cases hx : okC x with
    | false => simp [hx] at hm
    | true =>
      simp only [hx, cond_true, Option.some.injEq] at hm; subst hm
      simp only [wN] at h
      split at h
      · rename_i v hv
        exact ⟨_, by simp only [aOp, opd_ok hx hv]; rfl, h⟩
      · exact h.elim
  · -- pick
    rename_i c a b
    cases hx : okC c && okC a && okC b with
    | false => simp [hx] at hm
    | true =>
      simp only [hx, cond_true, Option.some.injEq] at hm; subst hm
      simp only [Bool.and_eq_true] at hx
      simp only [wN] at h
      split at h
      · rename_i hc
        split at h
        · rename_i v hv
          exact ⟨_, by simp only [aOp, opd_ok hx.1.1 hc, opd_ok hx.1.2 hv]; rfl, h⟩
        · exact h.elim
      · rename_i hc
        split at h
        · rename_i v hv
          exact ⟨_, by simp only [aOp, opd_ok hx.1.1 hc, opd_ok hx.2 hv]; rfl, h⟩
        · exact h.elim
      · exact h.elim
  · -- shl by a constant
    rename_i t x k' n _
    cases hx : okC x with
    | false => simp [hx] at hm
    | true =>
      simp only [hx, cond_true, Option.some.injEq] at hm; subst hm
      simp only [wN] at h
      split at h
      · rename_i k a ha
        refine ⟨RR.val (.int k (k.wrap (a * 2 ^ n))), ?_, h _ rfl⟩
        have e : operand (toTr T) s.st (.const (.int k' (Int.ofNat n))) = some (.int k' (Int.ofNat n)) := rfl
        simp only [aOp, opd_ok hx ha, e, binV, shiftBin]
        rw [if_neg (by simp)]
        simp only [Option.map_some, RR.toN, Option.some.injEq, ANext.val.injEq, Value.int.injEq, true_and]
        rw [show (Int.ofNat n).toNat = n from rfl]
        exact wrap_shl k a n
      · exact h.elim
  · -- shr by a constant
    rename_i t x k' n _
    cases hx : okC x with
    | false => simp [hx] at hm
    | true =>
      simp only [hx, cond_true, Option.some.injEq] at hm; subst hm
      simp only [wN] at h
      split at h
      · rename_i k a ha
        split at h
        · rename_i hb
          refine ⟨RR.val (.int k (a.fdiv (2 ^ n))), ?_, h _ rfl⟩
          have e : operand (toTr T) s.st (.const (.int k' (Int.ofNat n))) = some (.int k' (Int.ofNat n)) := rfl
          simp only [aOp, opd_ok hx ha, e, binV, shiftBin]
          rw [if_neg (by simp)]
          simp only [Option.map_some, RR.toN, Option.some.injEq, ANext.val.injEq, Value.int.injEq, true_and]
          rw [Nat.ble_eq] at hb
          rw [show (Int.ofNat n).toNat = n from rfl, Nat.min_eq_left hb]
        · exact h.elim
      · exact h.elim
  · -- binOp
    rename_i o t x y _ _ _
    cases hx : okC x && okC y with
    | false => simp [hx] at hm
    | true =>
      simp only [hx, cond_true, Option.some.injEq] at hm; subst hm
      simp only [Bool.and_eq_true] at hx
      simp only [wN] at h
      split at h
      · rename_i a b ha hb
        obtain ⟨v, h1, h2⟩ := wBin_ok h
        exact ⟨_, by simp only [aOp, opd_ok hx.1 ha, opd_ok hx.2 hb, h1]; rfl, h2⟩
      · exact h.elim
  · -- unOp
    rename_i o t x
    cases hx : okC x with
    | false => simp [hx] at hm
    | true =>
      simp only [hx, cond_true, Option.some.injEq] at hm; subst hm
      simp only [wN] at h
      split at h
      · rename_i a ha
        obtain ⟨v, h1, h2⟩ := wUn_ok h
        exact ⟨_, by simp only [aOp, opd_ok hx ha, h1]; rfl, h2⟩
      · exact h.elim
  · -- convert
    rename_i a b x
    cases hx : okC x with
    | false => simp [hx] at hm
    | true =>
      simp only [hx, cond_true] at hm
      split at hm
      · rename_i k hu hu'
        cases hm
        simp only [wN] at h
        split at h
        · rename_i k' n hn
          refine ⟨_, ?_, h _ rfl⟩
          simp only [aOp, opd_ok hx hn, convertV, hu, hu']
          rfl
        · exact h.elim
      · rename_i e hu hu'
        split at hm
        · rename_i he
          cases hm
          simp only [wN] at h
          split at h
          · rename_i hn
            refine ⟨_, ?_, h⟩
            simp only [aOp, opd_ok hx hn, convertV, hu, hu', he]
            rfl
          · rename_i bl off len _ hn
            split at h
            · rename_i c _ _ _ hc
              obtain ⟨l, h1, h2⟩ := h
              refine ⟨_, ?_, h2⟩
              simp only [aOp, opd_ok hx hn, convertV, hu, hu', he, loadRow_L hc, h1, bytesOf_map]
              rfl
            · exact h.elim
          · exact h.elim
        · cases hm; exact h
      · rename_i e _ hu hu'
        split at hm
        · rename_i he hab
          cases hm
          simp only [wN] at h
          split at h
          · rename_i bl off len cap hn
            split at h
            · rename_i c t hc
              refine ⟨_, ?_, h⟩
              simp only [aOp, opd_ok hx hn, convertV, hu, hu', he, hab, cond_true, SS.get, hc]
              rfl
            · exact h.elim
          · exact h.elim
        · cases hm; exact h
      · rename_i e hu hu'
        split at hm
        · rename_i i he hi
          cases hz : Nat.beq i.size 1 with
          | false => simp only [hz, cond_false] at hm; cases hm; exact h
          | true =>
            simp only [hz, cond_true] at hm; cases hm
            simp only [wN] at h
            split at h
            · rename_i l hn
              refine ⟨_, ?_, h.2⟩
              have hb : Nat.ble (ByteArray.size ⟨⟨l⟩⟩) 1073741824 = true := by rw [Nat.ble_eq]; exact h.1
              simp only [aOp, opd_ok hx hn, convertV, hu, hu', he, hi, hz, hb, cond_true]
              rfl
            · exact h.elim
        · cases hm; exact h
      · cases hm; exact h
  · -- load
    rename_i t x
    cases hx : okC x with
    | false => simp [hx] at hm
    | true =>
      simp only [hx, cond_true] at hm
      split at hm
      · cases hm
      · rename_i hag
        split at hm
        · cases hm
        · rename_i n hn
          cases hm
          simp only [wN] at h
          split at h
          · rename_i b off hp
            split at h
            · rename_i c _ _ _ hc
              obtain ⟨l, h1, h2⟩ := h
              exact ⟨_, by simp only [aOp, opd_ok hx hp, hag, hn, loadRow_L hc, h1]; rfl, h2⟩
            · exact h.elim
          · exact h.elim
      · rename_i hag
        have key : ∀ {b off : Nat} {c : List Value} {e : TypeId} {g r : Bool} {v : Value}, opd T s.gl x = some (.pointer (some ⟨b, off, none⟩)) → lookH s.heap b = some (.cells c e g r) → c[off]? = some v → aOp P (toTr T) s.st (.load t x) = some (RR.val v).toN := by
          intro b off c e g r v hp hc hv
          simp only [aOp, opd_ok hx hp, hag, loadCell_L hc, hv]; rfl
        split at hm <;> cases hm <;> simp only [wN] at h <;> split at h <;> first
          | exact h.elim
          | (rename_i hp
             split at h
             · rename_i hc
               obtain ⟨v, h1, h2⟩ := h
               exact ⟨_, key hp hc h1, h2⟩
             · exact h.elim)
  · -- store
    rename_i t a x
    cases hx : okC a && okC x with
    | false => simp [hx] at hm
    | true =>
      simp only [hx, cond_true] at hm
      simp only [Bool.and_eq_true] at hx
      split at hm
      · cases hm
      · rename_i n hn
        cases hm
        simp only [wN] at h
        split at h
        · rename_i b off v hp hv
          split at h
          · rename_i c e g hc
            split at h
            · rename_i hf
              obtain ⟨c', h1, h2⟩ := h
              refine ⟨_, ?_, h2⟩
              simp only [aOp, opd_ok hx.1 hp, opd_ok hx.2 hv, hn, hf, cond_true, storeRow_L hc h1]
              rfl
            · exact h.elim
          · exact h.elim
        · exact h.elim
  · -- fieldAddr
    rename_i t x f
    cases hx : okC x with
    | false => simp [hx] at hm
    | true =>
      simp only [hx, cond_true] at hm
      split at hm
      · rename_i fields hu
        split at hm
        · rename_i fd hfd
          split at hm
          · rename_i n hn
            cases hm
            simp only [wN] at h
            split at h
            · rename_i b off hp
              refine ⟨_, ?_, h⟩
              simp only [aOp, opd_ok hx hp, hu, hfd, Option.isSome_none, cond_false, hn, addL]
              rfl
            · exact h.elim
          · cases hm
        · cases hm
      · cases hm
  · -- field
    rename_i t x f
    cases hx : okC x with
    | false => simp [hx] at hm
    | true =>
      simp only [hx, cond_true] at hm
      split at hm
      · rename_i fields hu
        split at hm
        · rename_i fd hfd
          split at hm
          · cases hm
          · rename_i hag
            split at hm
            · cases hm
            · rename_i n hn
              cases hm
              simp only [wN] at h
              split at h
              · rename_i cs hp
                split at h
                · rename_i l hl
                  exact ⟨_, by simp only [aOp, opd_ok hx hp, hu, hfd, partB, hag, hn, hl]; rfl, h⟩
                · exact h.elim
              · exact h.elim
          · rename_i hag
            cases hm
            simp only [wN] at h
            split at h
            · rename_i cs hp
              split at h
              · rename_i l hl
                exact ⟨_, by simp only [aOp, opd_ok hx hp, hu, hfd, partB, hag, hl]; rfl, h⟩
              · exact h.elim
            · exact h.elim
        · cases hm
      · cases hm
  · -- indexAddr
    rename_i t x i
    cases hx : okC x && okC i with
    | false => simp [hx] at hm
    | true =>
      simp only [hx, cond_true] at hm
      simp only [Bool.and_eq_true] at hx
      split at hm
      · rename_i e hu
        cases hz : sizeB P e with
        | none => simp [hz] at hm
        | some z =>
          simp only [hz, Option.map_some, Option.some.injEq] at hm; subst hm
          simp only [wN] at h
          split at h
          · rename_i b off len _ iv hp hi
            obtain ⟨n, h1, h2⟩ := wIdx_ok h
            exact ⟨_, by simp only [aOp, opd_ok hx.1 hp, opd_ok hx.2 hi, hu, h1, hz, addL]; rfl, h2 _ rfl⟩
          · exact h.elim
      · rename_i n e hu
        cases hz : sizeB P e with
        | none => simp [hz] at hm
        | some z =>
          simp only [hz, Option.map_some, Option.some.injEq] at hm; subst hm
          simp only [wN] at h
          split at h
          · rename_i b off iv hp hi
            obtain ⟨n, h1, h2⟩ := wIdx_ok h
            exact ⟨_, by simp only [aOp, opd_ok hx.1 hp, opd_ok hx.2 hi, hu, h1, hz, addL]; rfl, h2 _ rfl⟩
          · exact h.elim
      · cases hm
  · -- index
    rename_i t x i
    cases hx : okC x && okC i with
    | false => simp [hx] at hm
    | true =>
      simp only [hx, cond_true] at hm
      simp only [Bool.and_eq_true] at hx
      split at hm
      · rename_i hu
        cases hm
        simp only [wN] at h
        split at h
        · rename_i l iv hp hi
          obtain ⟨n, h1, c, h2, h3⟩ := wIdx_ok h
          refine ⟨_, ?_, h3⟩
          have h1' : idx iv (ByteArray.size ⟨⟨l⟩⟩) = some n := h1
          simp only [aOp, opd_ok hx.1 hp, opd_ok hx.2 hi, hu, h1', h2]
          rfl
        · exact h.elim
      · cases hm; exact h
  · -- extract
    rename_i x i
    cases hx : okC x with
    | false => simp [hx] at hm
    | true =>
      simp only [hx, cond_true, Option.some.injEq] at hm; subst hm
      simp only [wN] at h
      split at h
      · rename_i vs hp
        split at h
        · rename_i v hv
          exact ⟨_, by simp only [aOp, opd_ok hx hp, hv]; rfl, h⟩
        · exact h.elim
      · exact h.elim
  · -- alloc
    rename_i e
    cases hz : zeroB P e with
    | none => simp [hz] at hm
    | some z =>
      simp only [hz, Option.map_some, Option.some.injEq] at hm; subst hm
      simp only [wN] at h
      exact ⟨_, by simp only [aOp, hz]; rfl, h⟩
  · -- box
    rename_i e x
    cases hx : okC x && (P.info? e).isSome with
    | false => simp [hx] at hm
    | true =>
      simp only [hx, cond_true, Option.some.injEq] at hm; subst hm
      simp only [Bool.and_eq_true] at hx
      simp only [wN] at h
      obtain ⟨i, hi⟩ := Option.isSome_iff_exists.1 hx.2
      split at h
      · rename_i v hv
        exact ⟨_, by simp only [aOp, opd_ok hx.1 hv, hi]; rfl, h⟩
      · exact h.elim
  · -- build
    rename_i t parts
    split at hm
    · rename_i z fields hz hu
      cases ha : (fields.toList.all fun f => (sizeB P f.type).isSome) with
      | false => simp [ha] at hm
      | true =>
        simp only [ha, cond_true] at hm
        cases hp : placesS P fields parts.toList with
        | none => simp [hp] at hm
        | some l =>
          simp only [hp, Option.map_some, Option.some.injEq] at hm; subst hm
          simp only [wN] at h
          split at h
          · rename_i vs hvs
            split at h
            · rename_i c hc
              obtain ⟨ws, q1, q2⟩ := layM_ok hp hvs hc
              refine ⟨_, ?_, h⟩
              simp only [aOp, hz, q1, hu, ha, Bool.not_true, cond_false]
              split
              · rename_i e; exact absurd (e.symm.trans q2) (by simp)
              · rename_i c1 e
                have := e.symm.trans q2
                cases this
                rfl
            · exact h.elim
          · exact h.elim
    · rename_i z n e hz hu
      split at hm
      · cases hm
      · rename_i n hn
        cases hp : placesA n parts.toList with
        | none => simp [hp] at hm
        | some l =>
          simp only [hp, Option.map_some, Option.some.injEq] at hm; subst hm
          simp only [wN] at h
          split at h
          · rename_i vs hvs
            split at h
            · rename_i c hc
              obtain ⟨ws, q1, q2⟩ := layA_ok hp hvs hc
              refine ⟨_, ?_, h⟩
              simp only [aOp, hz, q1, hu, hn, q2]
              rfl
            · exact h.elim
          · exact h.elim
    · cases hm
  · -- buildSlice
    rename_i t len parts
    split at hm
    · rename_i e hu
      split at hm
      · rename_i i z hi hz
        cases hb : (Nat.ble (len * i.size) 16777216 && Nat.beq (flat z).length i.size && Nat.blt 0 i.size) with
        | false => simp only [hb, cond_false] at hm; cases hm
        | true =>
          simp only [hb, cond_true] at hm
          cases hp : placesA i.size parts.toList with
          | none => simp [hp] at hm
          | some l =>
            simp only [hp, Option.map_some, Option.some.injEq] at hm; subst hm
            simp only [wN] at h
            split at h
            · rename_i vs hvs
              split at h
              · rename_i c hc
                obtain ⟨ws, q1, q2⟩ := layA_ok hp hvs hc
                refine ⟨_, ?_, h⟩
                simp only [aOp, hu, q1, hi, hz, hb, cond_true, q2]
                rfl
              · exact h.elim
            · exact h.elim
      · cases hm
    · cases hm
  · -- makeSlice
    rename_i t l c
    cases hx : okC l && okC c with
    | false => simp [hx] at hm
    | true =>
      simp only [hx, cond_true] at hm
      simp only [Bool.and_eq_true] at hx
      split at hm
      · rename_i e hu
        split at hm
        · rename_i i z hi hz
          cases hb : Nat.beq (flat z).length i.size with
          | false => simp [hb] at hm
          | true =>
            simp only [hb, cond_true, Option.some.injEq] at hm; subst hm
            simp only [wN] at h
            split at h
            · rename_i k1 lv k2 cv hl hc
              obtain ⟨⟨h1, h2, h3, h4⟩, h⟩ := h
              obtain ⟨m, rfl⟩ := Int.eq_ofNat_of_zero_le h1
              obtain ⟨n, rfl⟩ := Int.eq_ofNat_of_zero_le (show 0 ≤ cv by omega)
              refine ⟨_, ?_, h m n rfl rfl _ rfl⟩
              have e1 : Nat.ble m n = true := by rw [Nat.ble_eq]; omega
              have e2 : Nat.ble (i.bytes * n) 140737488355328 = true := by rw [Nat.ble_eq]; exact Int.ofNat_le.1 (by rw [Int.natCast_mul]; exact h3)
              have e3 : Nat.ble n 1073741824 = true := by rw [Nat.ble_eq]; omega
              have hl' : operand (toTr T) s.st l = some (.int k1 (Int.ofNat m)) := opd_ok hx.1 hl
              have hc' : operand (toTr T) s.st c = some (.int k2 (Int.ofNat n)) := opd_ok hx.2 hc
              simp only [aOp, hl', hc', hu, hi, hz, e1, e2, e3, hb, Bool.and_self, cond_true]
              rfl
            · exact h.elim
        · cases hm
      · cases hm
  · -- slice
    rename_i t x lo hi mx
    cases hx : okC x && okO lo && okO hi with
    | false => simp [hx] at hm
    | true =>
      simp only [hx, cond_true] at hm
      simp only [Bool.and_eq_true] at hx
      have o0 : opt (toTr T) s.st none = some none := rfl
      split at hm
      · cases hm; exact h
      · split at hm
        · rename_i hu
          cases hm
          simp only [wN] at h
          split at h
          · rename_i l vl vh hp h1 h2
            obtain ⟨b, q1, q2⟩ := wBnd_ok h
            obtain ⟨a, q3, q4⟩ := wBnd_ok q2
            refine ⟨_, ?_, q4 _ rfl⟩
            have q1' : bound vh (ByteArray.size ⟨⟨l⟩⟩) (ByteArray.size ⟨⟨l⟩⟩) = some b := q1
            simp only [aOp, opd_ok hx.1.1 hp, opdO_ok hx.1.2 h1, opdO_ok hx.2 h2, o0, sliceV, hu, q1', q3]
            rfl
          · exact h.elim
        · rename_i e hu
          cases hz : sizeB P e with
          | none => simp [hz] at hm
          | some z =>
            simp only [hz, Option.map_some, Option.some.injEq] at hm; subst hm
            simp only [wN] at h
            split at h
            · rename_i len cap vl vh hp h1 h2
              obtain ⟨b, q1, q2⟩ := wBnd_ok h
              obtain ⟨a, q3, q4⟩ := wBnd_ok q2
              refine ⟨_, ?_, q4⟩
              have : bound none cap cap = some cap := rfl
              have mk : mxOk none vh = true := rfl
              simp only [aOp, opd_ok hx.1.1 hp, opdO_ok hx.1.2 h1, opdO_ok hx.2 h2, o0, sliceV, hu, hz, mk, cond_true, this, q1, q3]
              rfl
            · rename_i bl off len cap vl vh hp h1 h2
              split at h
              · rename_i c t' g _ hc
                split at h
                · obtain ⟨hz', h⟩ := h
                  obtain ⟨b, q1, q2⟩ := wBnd_ok h
                  obtain ⟨a, q3, q4⟩ := wBnd_ok q2
                  refine ⟨_, ?_, q4 _ _ rfl rfl⟩
                  simp only [aOp, opd_ok hx.1.1 hp, opdO_ok hx.1.2 h1, opdO_ok hx.2 h2, o0, sliceV, hu, hz, growOf_L hc, hz', Nat.beq_refl, cond_true, q1, q3, addL]
                  rfl
                · obtain ⟨b, q1, q2⟩ := wBnd_ok h
                  obtain ⟨a, q3, q4⟩ := wBnd_ok q2
                  refine ⟨_, ?_, q4 _ _ _ rfl rfl rfl⟩
                  have : bound none cap cap = some cap := rfl
                  have mk : mxOk none vh = true := rfl
                  simp only [aOp, opd_ok hx.1.1 hp, opdO_ok hx.1.2 h1, opdO_ok hx.2 h2, o0, sliceV, hu, hz, growOf_L hc, mk, cond_true, this, q1, q3, addL]
                  rcases beq_cases cap a with ⟨e, he⟩ | ⟨e, he⟩
                  · rw [he, if_pos e]; rfl
                  · rw [he, if_neg e]; rfl
              · exact h.elim
            · exact h.elim
        · rename_i n e hu
          cases hz : sizeB P e with
          | none => simp [hz] at hm
          | some z =>
            simp only [hz, Option.map_some, Option.some.injEq] at hm; subst hm
            simp only [wN] at h
            split at h
            · rename_i bl off vl vh hp h1 h2
              split at h
              · rename_i c t' _ hc
                obtain ⟨b, q1, q2⟩ := wBnd_ok h
                obtain ⟨a, q3, q4⟩ := wBnd_ok q2
                refine ⟨_, ?_, q4 _ _ _ rfl rfl rfl⟩
                have : bound none n n = some n := rfl
                have mk : mxOk none vh = true := rfl
                simp only [aOp, opd_ok hx.1.1 hp, opdO_ok hx.1.2 h1, opdO_ok hx.2 h2, o0, sliceV, hu, hz, growOf_L hc, mk, cond_true, this, q1, q3, addL]
                rcases beq_cases n a with ⟨e, he⟩ | ⟨e, he⟩
                · rw [he, if_pos e]; rfl
                · rw [he, if_neg e]; rfl
              · exact h.elim
            · exact h.elim
        · cases hm
  · -- builtins
    rename_i b args argTypes
    split at hm
    · -- len
      rename_i x t ts hargs htys
      cases hx : okC x with
      | false => simp [hx] at hm
      | true =>
        simp only [hx, cond_true] at hm
        split at hm
        · rename_i hu
          cases hm
          simp only [wN] at h
          split at h
          · rename_i l hp
            refine ⟨_, ?_, h _ rfl⟩
            simp only [aOp, hargs, htys, operands, opd_ok hx hp, lenV, hu]
            rfl
          · exact h.elim
        · rename_i e hu
          cases hm
          simp only [wN] at h
          split at h
          · rename_i n _ hp
            refine ⟨_, ?_, h⟩
            simp only [aOp, hargs, htys, operands, opd_ok hx hp, lenV, hu]
            rfl
          · exact h.elim
        · cases hm; exact h
    · -- min
      rename_i x y hargs
      cases hx : okC x && okC y with
      | false => simp [hx] at hm
      | true =>
        simp only [hx, cond_true, Option.some.injEq] at hm; subst hm
        simp only [Bool.and_eq_true] at hx
        simp only [wN] at h
        split at h
        · rename_i k a k' b hp hq
          refine ⟨RR.val (.int k (min a b)), ?_, h _ rfl⟩
          simp only [aOp, hargs, operands, opd_ok hx.1 hp, opd_ok hx.2 hq, foldV, max2V, cond_false, Option.map_some, RR.toN, Option.some.injEq, ANext.val.injEq, Value.int.injEq, true_and]
          split <;> omega
        · exact h.elim
    · -- max
      rename_i x y hargs
      cases hx : okC x && okC y with
      | false => simp [hx] at hm
      | true =>
        simp only [hx, cond_true, Option.some.injEq] at hm; subst hm
        simp only [Bool.and_eq_true] at hx
        simp only [wN] at h
        split at h
        · rename_i k a k' b hp hq
          refine ⟨RR.val (.int k (max a b)), ?_, h _ rfl⟩
          simp only [aOp, hargs, operands, opd_ok hx.1 hp, opd_ok hx.2 hq, foldV, max2V, cond_true, Option.map_some, RR.toN, Option.some.injEq, ANext.val.injEq, Value.int.injEq, true_and]
          split <;> omega
        · exact h.elim
    · -- append
      rename_i x y t t' ts hargs htys
      cases hx : okC x && okC y with
      | false => simp [hx] at hm
      | true =>
        simp only [hx, cond_true] at hm
        simp only [Bool.and_eq_true] at hx
        exact wApp_ok hargs htys hx.1 hx.2 hm h
    · -- copy
      rename_i x y t ts hargs htys
      cases hx : okC x && okC y with
      | false => simp [hx] at hm
      | true =>
        simp only [hx, cond_true] at hm
        simp only [Bool.and_eq_true] at hx
        split at hm
        · rename_i e hu
          cases hz : sizeB P e with
          | none => rw [hz] at hm; cases hm
          | some z =>
            rw [hz] at hm; cases hm
            simp only [wN] at h
            split at h
            · rename_i base dl cap v hp hv
              obtain ⟨sl, new, s1, s2, h1, h2⟩ := srcN h
              have hmin : Nat.min sl dl = min sl dl := rfl
              simp only [aOp, hargs, operands, opd_ok hx.1 hp, opd_ok hx.2 hv, htys, copyV, hu, s1, hz, hmin, s2]
              rcases Nat.eq_zero_or_pos (min sl dl) with q | q
              · have qb : Nat.beq (min sl dl) 0 = true := by rw [q]; rfl
                simp only [qb, cond_true]
                cases base with
                | none => exact ⟨_, rfl, h1 q⟩
                | some a => exact ⟨_, rfl, h1 q⟩
              · have qb : Nat.beq (min sl dl) 0 = false := beqF (by omega)
                obtain ⟨ha, h2⟩ := h2 q
                simp only [qb, cond_false, ha, cond_true]
                split at h2
                · rename_i b off
                  split at h2
                  · rename_i c e' g hc
                    obtain ⟨c', q1, q2⟩ := h2
                    simp only [storeRow_L hc q1]
                    exact ⟨_, rfl, q2⟩
                  · exact h2.elim
                · exact h2.elim
            · exact h.elim
        · cases hm; exact h
    · cases hm; exact h
  · -- a function called by its name
    rename_i f args tys
    cases hx : okCs args.toList with
    | false => simp [hx] at hm
    | true =>
      simp only [hx, cond_true] at hm
      split at hm
      · rename_i fn hfn
        cases hb : fn.body.isSome with
        | false => simp [hb] at hm
        | true =>
          simp only [hb, cond_true, Option.some.injEq] at hm; subst hm
          simp only [wN] at h
          split at h
          · rename_i l hl
            refine ⟨_, ?_, h⟩
            simp only [aOp, operand, opds_ok hx hl, callV, hfn, hb, cond_true, List.nil_append, List.append_nil]
            rfl
          · exact h.elim
      · cases hm
  · -- a check for nil
    rename_i x
    cases hx : okC x with
    | false => simp [hx] at hm
    | true =>
      simp only [hx, cond_true, Option.some.injEq] at hm; subst hm
      simp only [wN] at h
      split at h
      · rename_i a hp
        exact ⟨_, by simp only [aOp, opd_ok hx hp]; rfl, h⟩
      · exact h.elim
  · cases hm; exact h

end
end Go.Vf
