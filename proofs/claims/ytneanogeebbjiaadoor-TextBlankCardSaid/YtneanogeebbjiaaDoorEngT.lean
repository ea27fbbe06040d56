import Derived.Test.YtneanogeebbjiaaDoorEngS
/- The machine of plain blocks, by rows: what is shown of code holds of it. -/
namespace Go.Vf
open Go.RowKit
set_option linter.unusedVariables false
set_option linter.unusedSimpArgs false
section
variable {P : Program} {nt k : Nat} {T : TL} {s s' : SS} {ops : Array Oper}

theorem wG_ok {o : Oper} {mo : MOper} {run skip : Prop} (hm : cOper P nt ops o = some mo) (h : wG T mo.grd run skip) :
    mo.dst = o.dst ∧ dstOk nt o.dst = true ∧ cOp' P o.op = some mo.op ∧ ((want ops (toTr T) o = some true ∧ run) ∨ (want ops (toTr T) o = some false ∧ skip)) := by
  unfold cOper at hm
  cases hd : dstOk nt o.dst with
  | false => simp [hd] at hm
  | true =>
    simp only [hd, cond_true] at hm
    split at hm
    · cases hm
    · rename_i m hop
      split at hm
      · rename_i hg
        cases hm
        exact ⟨rfl, rfl, hop, .inl ⟨by simp only [want, hg], h⟩⟩
      · rename_i j b hg
        split at hm
        · rename_i g hj
          split at hm
          · rename_i d hgd
            cases hm
            refine ⟨rfl, rfl, hop, ?_⟩
            simp only [wG] at h
            simp only [want, hg, hj, hgd, toTr_get]
            split at h
            · rename_i c hc
              rw [hc]
              cases c <;> cases b <;> first
                | exact .inl ⟨rfl, h⟩
                | exact .inr ⟨rfl, h⟩
            · rename_i hc
              rw [hc]
              exact .inr ⟨rfl, h⟩
            · exact h.elim
          · cases hm
        · cases hm

theorem OpW.mono {P : Program} {op : Op} {T : TL} {s : SS} {K K1 : Value → SS → Prop} (h : OpW P op T s K) (hq : ∀ v s, K v s → K1 v s) : OpW P op T s K1 :=
  let ⟨a, b, q, r⟩ := h
  ⟨a, b, hq _ _ q, r⟩

theorem cOp_cases {op : Op} {m : MOp} (hm : cOp' P op = some m) : m = .raw op ∨ (cOp P op = some m ∧ m.isRaw = false) := by
  unfold cOp' at hm
  split at hm
  · cases hm; exact .inl rfl
  · split at hm
    · rename_i m' hm'
      split at hm
      · cases hm
      · rename_i hr
        cases hm
        exact .inr ⟨hm', hr⟩
    · cases hm
theorem wN_ok' {op : Op} {m : MOp} {K : RR → Prop} (hm : cOp' P op = some m) (h : wN P m T s K) : ∃ r : RR, aOp P (toTr T) s.st op = some r.toN ∧ K r := by
  rcases cOp_cases hm with rfl | ⟨hm, -⟩
  · exact h.elim
  · exact wN_ok hm h

/-- What stands at an operation's place in a row that is in order. -/
def stepP (P : Program) (m : MOp) (d : Option Tmp) (l : List MOper) (T : TL) (s : SS) (Q : TL → SS → Prop) : Prop :=
  match m with
  | .raw op => OpW P op T s fun v s' => Box (wSeq P l (putL T d v) s' Q)
  | m => wN P m T s fun r => match r with
    | .val v => Box (wSeq P l (putL T d v) s Q)
    | .new b v => Box (wSeq P l (putL T d (v s.next)) { s with heap := (s.next, some b) :: s.heap, next := s.next + 1 } Q)
    | .eff v s' => Box (wSeq P l (putL T d v) s' Q)
    | .call f args => CallW P f args s fun v s' => Box (wSeq P l (putL T d v) s' Q)

theorem stepP_not {m : MOp} {d : Option Tmp} {l : List MOper} {T : TL} {s : SS} {Q : TL → SS → Prop} (hm : m.isRaw = false) : stepP P m d l T s Q = wN P m T s fun r => match r with
    | .val v => Box (wSeq P l (putL T d v) s Q)
    | .new b v => Box (wSeq P l (putL T d (v s.next)) { s with heap := (s.next, some b) :: s.heap, next := s.next + 1 } Q)
    | .eff v s' => Box (wSeq P l (putL T d v) s' Q)
    | .call f args => CallW P f args s fun v s' => Box (wSeq P l (putL T d v) s' Q) := by
  cases m <;> first | rfl | cases hm

theorem none_ok (P : Program) : CallerOk P fun _ _ _ => none := fun _ _ _ _ _ h => by cases h

theorem wSeq_ok (G : Good P) {R : TL → SS → Prop} : ∀ {l : List Oper} {ms : List MOper} {T : TL} {s : SS}, cSeq P nt ops l = some ms → wSeq P ms T s R → WS P nt k ops l T s R
  | [], ms, T, s, hm, h => by
    simp only [cSeq] at hm; cases hm
    exact WS.nil h
  | o :: l, ms, T, s, hm, h => by
    simp only [cSeq] at hm
    split at hm
    · rename_i mo ml h1 h2
      cases hm
      obtain ⟨e1, e2, e3, q | q⟩ := wG_ok h1 h
      · obtain ⟨qw, qr⟩ := q
        replace qr : stepP P mo.op mo.dst ml T s R := qr
        rcases cOp_cases e3 with e4 | ⟨e4, e5⟩
        · rw [e4, e1] at qr
          exact WS.raw qw e2 (OpW.mono qr fun v s1 hh => wSeq_ok G h2 hh.out)
        rw [stepP_not e5] at qr
        obtain ⟨r, hr, hk⟩ := wN_ok e4 qr
        rw [e1] at hk
        cases r with
        | val v => exact WS.op G qw e2 (v := v) (s' := s) ⟨_, none_ok P, by rw [hr]; rfl⟩ (wSeq_ok G h2 hk.out)
        | new b v => exact WS.op G qw e2 (v := v s.next) (s' := { s with heap := (s.next, some b) :: s.heap, next := s.next + 1 }) ⟨_, none_ok P, by rw [hr]; rfl⟩ (wSeq_ok G h2 hk.out)
        | eff v s1 => exact WS.op G qw e2 (v := v) (s' := s1) ⟨_, none_ok P, by rw [hr]; rfl⟩ (wSeq_ok G h2 hk.out)
        | call f args => exact WS.call G qw e2 hr (hk.mono fun v s1 hh => wSeq_ok G h2 hh.out)
      · obtain ⟨qw, qr⟩ := q
        rw [e1] at qr
        exact WS.off qw e2 (wSeq_ok G h2 qr.out)
    · cases hm

/-! ### Open regions -/

theorem loadRow_keep {s s' : ASt} (hk : ∀ id b, s.heap.get id = some b → s'.heap.get id = some b) {a : Addr} {n : Nat} {l : List Value} (h : loadRow s a n = some l) : loadRow s' a n = some l := by
  unfold loadRow at h ⊢
  cases hs : a.spot.isSome with
  | true => simp [hs] at h
  | false =>
    simp only [hs, cond_false] at h ⊢
    split at h
    · rename_i hb
      rw [hk _ _ hb]; exact h
    · cases h

theorem loadCell_keep {s s' : ASt} (hk : ∀ id b, s.heap.get id = some b → s'.heap.get id = some b) {a : Addr} {v : Value} (h : loadCell s a = some v) : loadCell s' a = some v := by
  unfold loadCell at h ⊢
  cases hs : a.spot.isSome with
  | true => simp [hs] at h
  | false =>
    simp only [hs, cond_false] at h ⊢
    split at h
    · rename_i hb
      rw [hk _ _ hb]; exact h
    · cases h

theorem growOf_keep {s s' : ASt} (hk : ∀ id b, s.heap.get id = some b → s'.heap.get id = some b) {a : Addr} {v : Bool × TypeId} (h : growOf s a = some v) : growOf s' a = some v := by
  unfold growOf at h ⊢
  split at h
  · rename_i hb
    rw [hk _ _ hb]; exact h
  · cases h

theorem sliceV_keep {s s' : ASt} (hk : ∀ id b, s.heap.get id = some b → s'.heap.get id = some b) {t : TypeId} {x v : Value} {lo hi mx : Option Value} (h : sliceV P s t x lo hi mx = some v) : sliceV P s' t x lo hi mx = some v := by
  unfold sliceV at h ⊢
  split at h
  · exact h
  · exact h
  · split at h
    · rename_i hg hz
      rw [growOf_keep hk hg, hz]; exact h
    · rename_i hg hz
      rw [growOf_keep hk hg, hz]; exact h
    · cases h
  · split at h
    · rename_i hg hz
      rw [growOf_keep hk hg, hz]; exact h
    · cases h
  · cases h

theorem convertV_keep {s s' : ASt} (hk : ∀ id b, s.heap.get id = some b → s'.heap.get id = some b) {a b : TypeId} {x v : Value} (h : convertV P s a b x = some (.val v)) : convertV P s' a b x = some (.val v) := by
  unfold convertV at h ⊢
  split at h
  · exact h
  · exact h
  · exact h
  · exact h
  · split at h
    · split at h
      · cases h
      · rename_i hl
        rw [loadRow_keep hk hl]; exact h
    · cases h
  · simp only [Bool.cond_eq_ite] at h
    repeat' (first | (cases h; done) | split at h)
  · cases h

theorem lenV_keep {s s' : ASt} (hk : ∀ id b, s.heap.get id = some b → s'.heap.get id = some b) {tys : List TypeId} {vs : List Value} {v : Value} (h : lenV P s tys vs = some v) : lenV P s' tys vs = some v := by
  unfold lenV at h ⊢
  split at h
  · split at h
    · exact h
    · exact h
    · exact h
    · exact h
    · split at h
      · rename_i hb
        rw [hk _ _ hb]; exact h
      · cases h
    · exact h
    · cases h
  · cases h

theorem capV_keep {s s' : ASt} (hk : ∀ id b, s.heap.get id = some b → s'.heap.get id = some b) {tys : List TypeId} {vs : List Value} {v : Value} (h : capV P s tys vs = some v) : capV P s' tys vs = some v := by
  unfold capV at h ⊢
  split at h
  · split at h
    · exact h
    · exact h
    · split at h
      · rename_i hb
        rw [growOf_keep hk hb]; exact h
      · cases h
    · cases h
  · cases h

/-- What reads tells the same where more is known. -/
theorem aOp_keep {s s' : ASt} {T : ATmp} (hg : s'.gl = s.gl) (hk : ∀ id b, s.heap.get id = some b → s'.heap.get id = some b) {op : Op} (hc : cls op ≠ 3) {v : Value} (h : aOp P T s op = some (.val v)) : aOp P T s' op = some (.val v) := by
  by_cases h0 : cls op = 0
  · rw [aOp_pure hg h0]; exact h
  cases op <;> first
    | exact absurd rfl hc
    | exact absurd rfl h0
    | skip
  case alloc e =>
    simp only [aOp] at h; split at h <;> cases h
  case box e x =>
    simp only [aOp] at h; split at h <;> cases h
  case buildSlice t len ps =>
    simp only [aOp] at h
    split at h
    · split at h
      · rename_i i z _ _
        cases hb : (Nat.ble (len * i.size) 16777216 && Nat.beq (flat z).length i.size && Nat.blt 0 i.size) with
        | false => simp only [hb, cond_false] at h; cases h
        | true => simp only [hb, cond_true] at h; split at h <;> cases h
      · cases h
    · cases h
  case load t x =>
    simp only [aOp, operand_gl hg] at h ⊢
    split at h
    · rename_i ad hx
      split at h
      · cases h
      · split at h
        · cases h
        · split at h
          · cases h
          · rename_i hl
            rw [loadRow_keep hk hl]; exact h
      · cases hl : loadCell s ad with
        | none => rw [hl] at h; cases h
        | some u => rw [loadCell_keep hk hl]; rw [hl] at h; exact h
    · cases h
  case convert a b x =>
    simp only [aOp, operand_gl hg] at h ⊢
    split at h
    · exact convertV_keep hk h
    · cases h
  case makeMap t r =>
    cases r with
    | none => simp only [aOp] at h; cases h
    | some r => simp only [aOp] at h; cases h
  case makeSlice t l c =>
    simp only [aOp] at h
    split at h
    · split at h
      · simp only [Bool.cond_eq_ite] at h
        split at h <;> cases h
      · cases h
    · cases h
  case slice t x lo hi mx =>
    have o : ∀ y, opt T s' y = opt T s y := fun y => by cases y <;> simp only [opt, operand_gl hg]
    simp only [aOp, operand_gl hg, o] at h ⊢
    split at h
    · rename_i v1 l1 h1 m1 _ _ _ _
      cases hl : sliceV P s t v1 l1 h1 m1 with
      | none => rw [hl] at h; cases h
      | some u => rw [sliceV_keep hk hl]; rw [hl] at h; exact h
    · cases h
  case call c =>
    obtain ⟨callee, args, tys⟩ := c
    cases callee with
    | value f => exact absurd rfl hc
    | invoke r n => exact absurd rfl hc
    | builtin b =>
      cases b <;> first
        | exact absurd rfl hc
        | exact absurd rfl h0
        | skip
      case len =>
        simp only [aOp, operands_gl hg] at h ⊢
        split at h
        · cases h
        · rename_i vs _
          cases hl : lenV P s tys.toList vs with
          | none => rw [hl] at h; cases h
          | some u => rw [lenV_keep hk hl]; rw [hl] at h; exact h
      case cap =>
        simp only [aOp, operands_gl hg] at h ⊢
        split at h
        · cases h
        · rename_i vs _
          cases hl : capV P s tys.toList vs with
          | none => rw [hl] at h; cases h
          | some u => rw [capV_keep hk hl]; rw [hl] at h; exact h

theorem Keep.get (h : Keep s s') : ∀ id b, s.st.heap.get id = some b → s'.st.heap.get id = some b := fun id b hb => by rw [SS.get] at hb ⊢; exact h.2 id b hb

theorem quiet_op {s : ASt} {T : ATmp} {op : Op} (hc : cls op ≠ 3) {nx : ANext} (h : aOp P T s op = some nx) : (∃ v, nx = .val v) ∨ (∃ b v, nx = .new b v) := by
  have mv : ∀ {x : Option Value}, x.map ANext.val = some nx → (∃ v, nx = .val v) ∨ (∃ b v, nx = .new b v) := by
    intro x hx
    cases x with
    | none => cases hx
    | some v => cases hx; exact .inl ⟨v, rfl⟩
  cases op <;> first
    | exact absurd rfl hc
    | skip
  case makeMap t r =>
    cases r with
    | none => simp only [aOp] at h; cases h; exact .inr ⟨_, _, rfl⟩
    | some r => simp only [aOp] at h; cases h
  case convert a b x =>
    simp only [aOp] at h
    have hc' : Nat.beq a b = false := by
      simp only [cls] at hc
      cases hb : Nat.beq a b with
      | false => rfl
      | true => rw [hb] at hc; exact absurd rfl hc
    split at h
    · unfold convertV at h
      simp only [hc', cond_false] at h
      repeat' (first | (cases h; done) | (cases h; exact .inl ⟨_, rfl⟩) | (cases h; exact .inr ⟨_, _, rfl⟩) | (simp only [Bool.cond_eq_ite] at h; split at h) | split at h)
    · cases h
  case call c =>
    obtain ⟨callee, args, tys⟩ := c
    cases callee with
    | value f => exact absurd rfl hc
    | invoke r n => exact absurd rfl hc
    | builtin b =>
      cases b <;> first
        | exact absurd rfl hc
        | (simp only [aOp] at h
           repeat' (first | (cases h; done) | exact mv h | split at h))
  all_goals
    simp only [aOp] at h
    repeat' (first | (cases h; done) | exact mv h | (cases h; exact .inl ⟨_, rfl⟩) | (cases h; exact .inr ⟨_, _, rfl⟩) | (simp only [Bool.cond_eq_ite] at h; split at h) | split at h)

theorem again_keep (h : Keep s s') {r : Rec} (hc : cls r.o ≠ 3) (ha : Again P s.st r) : Again P s'.st r := by
  obtain ⟨o, T, v, nb, lo, hi⟩ := r
  cases nb with
  | none => exact aOp_keep (s := s.st) (s' := s'.st) (show s'.st.gl = s.st.gl from h.1) h.get hc ha
  | some x => exact h.get _ _ ha

theorem Keep.refl : Keep s s := ⟨rfl, fun _ _ h => h⟩

theorem Keep.new {b : ABlk} (hn : lookH s.heap s.next = none) : Keep s { s with heap := (s.next, some b) :: s.heap, next := s.next + 1 } :=
  ⟨rfl, fun id b' h => by
    simp only [lookH]
    rcases beq_cases s.next id with ⟨e, he⟩ | ⟨e, he⟩
    · subst e; rw [hn] at h; cases h
    · rw [he]; exact h⟩

theorem fin_ok {op : Op} {r : RR} {v : Value} {s1 : ASt} (hr : aOp P (toTr T) s.st op = some r.toN) (hf : fin (fun _ _ _ => none) s.st (some r.toN) = some (v, s1)) : FinOk P s.st (aOp P (toTr T) s.st op) v s1 :=
  ⟨_, none_ok P, by rw [hr]; exact hf⟩

/-- A call's answer, of which only one is asked for. -/
theorem call_ok {f : FuncId} {args : List Value} {v : Value} {s1 : ASt} (h : CallOk P f args s.st v s1) {op : Op} (hr : aOp P (toTr T) s.st op = some (.enter f args)) : FinOk P s.st (aOp P (toTr T) s.st op) v s1 := by
  classical
  refine ⟨fun f' args' s' => if f' = f ∧ args' = args ∧ s' = s.st then some (v, s1) else none, fun f' args' s' v' s1' hh => ?_, ?_⟩
  · simp only at hh
    split at hh
    · rename_i e
      obtain ⟨rfl, rfl, rfl⟩ := e
      cases hh
      exact h
    · cases hh
  · rw [hr]
    show (if f = f ∧ args = args ∧ s.st = s.st then some (v, s1) else none) = some (v, s1)
    rw [if_pos ⟨rfl, rfl, rfl⟩]

theorem no_map {x : Option Value} {b : ABlk} {v : Nat → Value} (h : x.map ANext.val = some (.new b v)) : False := by
  cases x <;> cases h

/-- What needs nothing but its operands lays no block. -/
theorem quiet0 {s : ASt} {T : ATmp} {op : Op} (hc : cls op = 0) {b : ABlk} {v : Nat → Value} (h : aOp P T s op = some (.new b v)) : False := by
  cases op <;> first
    | (cases hc; done)
    | skip
  case convert a b x =>
    simp only [cls] at hc
    cases hb : Nat.beq a b <;> rw [hb] at hc <;> cases hc
  case call c =>
    obtain ⟨callee, args, tys⟩ := c
    cases callee with
    | builtin bb =>
      cases bb <;> first
        | (cases hc; done)
        | skip
      all_goals
        simp only [aOp] at h
        repeat' (first | (cases h; done) | exact no_map h | split at h)
    | value f => cases hc
    | _ => cases hc
  all_goals
    simp only [aOp, Bool.cond_eq_ite] at h
    repeat' (first | (cases h; done) | exact no_map h | split at h)

/-- A thing that waits, by what is noted of it. -/
def Stands (P : Program) (r : Rec) : PRec → Prop
  | .rd hi m T v => hi = r.hi ∧ ∀ s' : SS, (wN P m T s' fun x => x = .val v) → Again P s'.st r
  | .nw hi id b => hi = r.hi ∧ ∀ s' : SS, lookH s'.heap id = some b → Again P s'.st r

theorem Agn.again {k : Nat} {r : Rec} (hk : k < r.hi) : ∀ {pd : List PRec}, Agn P k s' pd → (∃ p ∈ pd, Stands P r p) → Again P s'.st r
  | [], _, ⟨p, hp, _⟩ => by cases hp
  | q :: pd, h, ⟨p, hp, hs⟩ => by
    rcases List.mem_cons.1 hp with rfl | hp2
    · cases p with
      | rd hi m T v => exact hs.2 s' (h.1 (by rw [hs.1]; exact hk))
      | nw hi id b => exact hs.2 s' (h.1 (by rw [hs.1]; exact hk))
    · cases q with
      | rd hi m T v => exact Agn.again hk h.2 ⟨p, hp2, hs⟩
      | nw hi id b => exact Agn.again hk h.2 ⟨p, hp2, hs⟩

theorem wRow_ok {pl : Plan} {R : TL → SS → Prop} : ∀ {row : List Nat} {j : Nat} {his : List Nat} {ms : List ROp} {pd : List PRec} {rs : List Rec} {T : TL} {s : SS}, cRow P nt ops pl row j his = some ms → wRow P ms pd T s R →
    (∀ r ∈ rs, r.hi ∈ his ∧ cls r.o ≠ 3 ∧ (j ≤ r.hi → Again P s.st r) ∧ (j < r.hi → ∃ p ∈ pd, Stands P r p)) → rRow P nt ops pl row j rs (toTr T) s.st fun T' s' => ∃ T1 s1, T' = toTr T1 ∧ s' = SS.st s1 ∧ R T1 s1
  | [], j, his, ms, pd, rs, T, s, hm, h, hr => by
    simp only [cRow] at hm; cases hm
    exact ⟨fun r hh _ a => (hr r hh).2.2.1 a, T, s, rfl, rfl, h⟩
  | i :: row, j, his, ms, pd, rs, T, s, hm, h, hr => by
    simp only [cRow] at hm
    split at hm
    · cases hm
    · rename_i o ho
      split at hm
      · cases hm
      · rename_i mo hmo
        cases h3 : Nat.beq (cls o.op) 3 with
        | true =>
          simp only [h3, cond_true] at hm
          split at hm
          · cases hm
          · rename_i ml hml
            cases hm
            have keep : ∀ {s' : SS}, wKeep P (his.any fun h => Nat.blt j h) j pd s s' → ∀ r ∈ rs, r.hi ∈ his ∧ cls r.o ≠ 3 ∧ (j + 1 ≤ r.hi → Again P s'.st r) ∧ (j + 1 < r.hi → ∃ p ∈ pd, Stands P r p) := by
              intro s' hk r hh
              obtain ⟨q1, q2, q3, q4⟩ := hr r hh
              refine ⟨q1, q2, fun q => ?_, fun q => q4 (by omega)⟩
              cases ha : his.any fun h => Nat.blt j h with
              | true =>
                rw [ha] at hk
                rcases hk with hk | hk
                · exact again_keep hk q2 (q3 (by omega))
                · exact Agn.again (by omega) hk (q4 (by omega))
              | false =>
                have := List.any_eq_false.1 ha r.hi q1
                rw [Nat.blt_eq] at this
                omega
            obtain ⟨e1, e2, e3, q | q⟩ := wG_ok hmo h
            · obtain ⟨qw, qr⟩ := q
              obtain ⟨r, hrr, hk⟩ := wN_ok' e3 qr
              rw [e1] at hk
              refine ⟨o, true, ho, qw, ?_⟩
              rw [h3]
              refine ⟨fun r hh _ a => (hr r hh).2.2.1 a, ?_⟩
              have wide : ∀ {s' : SS} {p : PRec} {b : Bool}, Keep s s' → ∀ r ∈ rs, r.hi ∈ his ∧ cls r.o ≠ 3 ∧ (j + 1 ≤ r.hi → Again P s'.st r) ∧ (j + 1 < r.hi → ∃ q ∈ (match b with | true => p :: pd | false => pd), Stands P r q) := by
                intro s' p b hk r hh
                obtain ⟨q1, q2, q3, q4⟩ := hr r hh
                refine ⟨q1, q2, fun q => again_keep hk q2 (q3 (by omega)), fun q => ?_⟩
                obtain ⟨x, hx, hs⟩ := q4 (by omega)
                refine ⟨x, ?_, hs⟩
                cases b with
                | true => exact List.mem_cons_of_mem _ hx
                | false => exact hx
              cases r with
              | val v => exact ⟨v, s.st, _, fin_ok hrr rfl, putT_L e2 v, wRow_ok hml hk.out (wide .refl)⟩
              | new b v =>
                simp only at hk
                split at hk
                · rename_i hn
                  exact ⟨v s.next, SS.st { s with heap := (s.next, some b) :: s.heap, next := s.next + 1 }, _, fin_ok hrr rfl, putT_L e2 _, wRow_ok hml hk.out (wide (.new hn))⟩
                · exact hk.elim
              | eff v s1 => exact ⟨v, s1.st, _, fin_ok hrr rfl, putT_L e2 v, wRow_ok hml hk.2.out (keep hk.1)⟩
              | call f args =>
                obtain ⟨v, s1, ⟨c2, c3⟩, c1⟩ := hk
                exact ⟨v, s1.st, _, call_ok c1 hrr, putT_L e2 v, wRow_ok hml c3.out (keep c2)⟩
            · obtain ⟨qw, qr⟩ := q
              rw [e1] at qr
              refine ⟨o, false, ho, qw, ?_⟩
              rw [h3]
              exact ⟨fun r hh _ a => (hr r hh).2.2.1 a, _, putT_L e2 _, wRow_ok hml qr.out fun r hh => ⟨(hr r hh).1, (hr r hh).2.1, fun a => (hr r hh).2.2.1 (by omega), fun a => (hr r hh).2.2.2 (by omega)⟩⟩
        | false =>
          have hcls : cls o.op ≠ 3 := fun e => by rw [e] at h3; cases h3
          simp only [h3, cond_false] at hm
          -- what is noted of a thing that needs more than its operands
          have wide : ∀ {s' : SS} {p : PRec} {b : Bool}, Keep s s' → ∀ r ∈ rs, r.hi ∈ (hiOf pl.M i (dropN j pl.es) j :: his) ∧ cls r.o ≠ 3 ∧ (j ≤ r.hi → Again P s'.st r) ∧ (j < r.hi → ∃ q ∈ (match b with | true => p :: pd | false => pd), Stands P r q) := by
            intro s' p b hk r hh
            obtain ⟨q1, q2, q3, q4⟩ := hr r hh
            refine ⟨List.mem_cons_of_mem _ q1, q2, fun a => again_keep hk q2 (q3 a), fun q => ?_⟩
            obtain ⟨x, hx, hs⟩ := q4 q
            refine ⟨x, ?_, hs⟩
            cases b with
            | true => exact List.mem_cons_of_mem _ hx
            | false => exact hx
          cases h0 : Nat.beq (cls o.op) 0 with
          | true =>
            simp only [h0, cond_true] at hm
            split at hm
            · cases hm
            · rename_i ml hml
              cases hm
              obtain ⟨e1, e2, e3, q | q⟩ := wG_ok hmo h
              · obtain ⟨qw, qr⟩ := q
                obtain ⟨r, hrr, hk⟩ := wN_ok' e3 qr
                rw [e1] at hk
                refine ⟨o, true, ho, qw, ?_⟩
                rw [h3]
                cases r with
                | val v =>
                  refine .inl ⟨v, _, hrr, putT_L e2 v, wRow_ok hml hk.out fun r hh => ?_⟩
                  rw [h0] at hh
                  exact hr r hh
                | new b v => exact (quiet0 (Nat.eq_of_beq_eq_true h0) hrr).elim
                | eff v s1 =>
                  exfalso
                  rcases quiet_op hcls hrr with ⟨_, e⟩ | ⟨_, _, e⟩ <;> cases e
                | call f args =>
                  exfalso
                  rcases quiet_op hcls hrr with ⟨_, e⟩ | ⟨_, _, e⟩ <;> cases e
              · obtain ⟨qw, qr⟩ := q
                rw [e1] at qr
                refine ⟨o, false, ho, qw, ?_⟩
                rw [h3]
                exact ⟨_, putT_L e2 _, wRow_ok hml qr.out hr⟩
          | false =>
            simp only [h0, cond_false] at hm
            split at hm
            · cases hm
            · rename_i ml hml
              cases hm
              obtain ⟨e1, e2, e3, q | q⟩ := wG_ok hmo h
              · obtain ⟨qw, qr⟩ := q
                obtain ⟨r, hrr, hk⟩ := wN_ok' e3 (P := P) qr
                rw [e1] at hk
                refine ⟨o, true, ho, qw, ?_⟩
                rw [h3]
                cases r with
                | val v =>
                  refine .inl ⟨v, _, hrr, putT_L e2 v, wRow_ok hml hk.out fun r hh => ?_⟩
                  rw [h0] at hh
                  rcases List.mem_cons.1 hh with rfl | hh
                  · refine ⟨List.mem_cons_self .., hcls, fun _ => hrr, fun q => ⟨.rd (hiOf pl.M i (dropN j pl.es) j) mo.op T v, ?_, rfl, fun s' hw => ?_⟩⟩
                    · have q' : j < hiOf pl.M i (dropN j pl.es) j := q
                      have : Nat.blt j (hiOf pl.M i (dropN j pl.es) j) = true := by rw [Nat.blt_eq]; exact q'
                      rw [this]
                      exact List.mem_cons_self ..
                    · obtain ⟨x, hx, rfl⟩ := wN_ok' e3 hw
                      exact hx
                  · exact wide .refl r hh
                | new b v =>
                  simp only at hk
                  split at hk
                  · rename_i hn
                    refine .inr ⟨b, v, _, hrr, putT_L e2 _, wRow_ok (s := { s with heap := (s.next, some b) :: s.heap, next := s.next + 1 }) hml hk.out fun r hh => ?_⟩
                    rcases List.mem_cons.1 hh with rfl | hh
                    · refine ⟨?_, hcls, fun _ => ?_, fun q => ⟨.nw (hiOf pl.M i (dropN j pl.es) j) s.next b, ?_, rfl, fun s' hw => ?_⟩⟩
                      · exact List.mem_cons_self ..
                      · show (SS.st _).heap.get s.next = some b
                        rw [SS.get]
                        simp only [lookH, Nat.beq_refl, cond_true]
                      · have q' : j < hiOf pl.M i (dropN j pl.es) j := q
                        have : Nat.blt j (hiOf pl.M i (dropN j pl.es) j) = true := by rw [Nat.blt_eq]; exact q'
                        rw [this]
                        exact List.mem_cons_self ..
                      · show s'.st.heap.get s.next = some b
                        rw [SS.get]
                        exact hw
                    · exact wide (.new hn) r hh
                  · exact hk.elim
                | eff v s1 =>
                  exfalso
                  rcases quiet_op hcls hrr with ⟨_, e⟩ | ⟨_, _, e⟩ <;> cases e
                | call f args =>
                  exfalso
                  rcases quiet_op hcls hrr with ⟨_, e⟩ | ⟨_, _, e⟩ <;> cases e
              · obtain ⟨qw, qr⟩ := q
                rw [e1] at qr
                refine ⟨o, false, ho, qw, ?_⟩
                rw [h3]
                exact ⟨_, putT_L e2 _, wRow_ok hml qr.out fun r hh => ⟨List.mem_cons_of_mem _ (hr r hh).1, (hr r hh).2⟩⟩

theorem comp_ok (G : Good P) : ∀ {c : Code} {m : MC} {T : TL} {s : SS} {Q : AExit → TL → SS → Prop}, comp P nt c = some m → wp P nt k m T s Q → W P nt k c T s Q := by
  intro c
  induction c with
  | skip => intro m T s Q hm h; simp only [comp] at hm; cases hm; exact W.skip h
  | region id ops draw =>
    intro m T s Q hm h
    simp only [comp] at hm
    cases draw with
    | true =>
      simp only at hm
      cases hn : ops.toList.all noDefer with
      | false => rw [hn] at hm; cases hm
      | true =>
        rw [hn] at hm
        simp only [cond_true] at hm
        have hnd : ∀ (i : Nat) (o : Oper), ops[i]? = some o → ∀ c, o.op ≠ .defer c := fun i o ho =>
          noDefer_of (List.all_eq_true.1 hn o (List.mem_of_getElem? (i := i) (by simpa using ho)))
        split at hm
        · cases hm
        · rename_i pl hpl
          cases hr : cRow P nt ops pl pl.row 0 [] with
          | none => rw [hr] at hm; cases hm
          | some ms =>
            rw [hr] at hm; cases hm
            exact W.draw G hnd hpl (wRow_ok hr h (fun r hh => by cases hh))
    | false =>
      simp only at hm
      cases hr : cSeq P nt ops ops.toList with
      | none => rw [hr] at hm; cases hm
      | some ms =>
        rw [hr] at hm; cases hm
        exact W.region (wSeq_ok G hr h)
  | seq a b iha ihb =>
    intro m T s Q hm h
    simp only [comp] at hm
    split at hm
    · rename_i x y hx hy
      cases hm
      refine W.seq ((iha hx h).mono fun ex T s hh => ?_)
      cases ex with
      | normal => exact ihb hy hh.out
      | exit id => exact hh
      | ret => exact hh
    · cases hm
  | cond x a b iha ihb =>
    intro m T s Q hm h
    simp only [comp] at hm
    cases hx : okC x with
    | false => simp [hx] at hm
    | true =>
      simp only [hx, cond_true] at hm
      split at hm
      · rename_i ma mb ha hb
        cases hm
        simp only [wp] at h
        split at h
        · rename_i hv
          exact W.condT (opd_ok hx hv) (iha ha h.out)
        · rename_i hv
          exact W.condF (opd_ok hx hv) (ihb hb h.out)
        · exact h.elim
      · cases hm
  | block id c ih =>
    intro m T s Q hm h
    simp only [comp] at hm
    cases hc : comp P nt c with
    | none => rw [hc] at hm; cases hm
    | some mc =>
      rw [hc] at hm; cases hm
      refine W.block ((ih hc h).mono fun ex T s hh => ?_)
      cases ex with
      | normal => exact hh
      | ret => exact hh
      | exit i =>
        simp only at hh ⊢
        cases hb : Nat.beq i id with
        | true => rw [hb] at hh; exact hh
        | false => rw [hb] at hh; exact hh
  | loop c ih =>
    intro m T s Q hm h
    have hm' := hm
    simp only [comp] at hm'
    cases hc : comp P nt c with
    | none => rw [hc] at hm'; cases hm'
    | some mc =>
      rw [hc] at hm'; cases hm'
      exact h _ hm
  | exit id => intro m T s Q hm h; simp only [comp] at hm; cases hm; exact W.exit h
  | ret => intro m T s Q hm h; simp only [comp] at hm; cases hm; exact W.ret h
  | _ => intro m T s Q hm h; simp only [comp] at hm; cases hm

theorem resS_ok {P : Program} : ∀ {l : List ResultVar} {vs : List Value}, resS P T s l = some vs → resultL P (toTr T) s.st l = some vs
  | [], vs, h => h
  | .tmp t :: r, vs, h => by
    simp only [resS] at h
    split at h
    · rename_i v l hv hl
      cases h
      simp only [resultL, toTr_get, hv, resS_ok hl]
    · cases h
  | .cell a t :: r, vs, h => by
    simp only [resS] at h
    split at h
    · rename_i v l hv hl
      cases h
      simp only [resultL, hv, resS_ok hl]
    · cases h

/-- A call, by its function made ready. -/
theorem CallW.body (G : Good P) {f : FuncId} {m : MF} {args : List Value} {K : Value → SS → Prop} (hm : compF P f = some m) (hn : args.length ≤ m.nt) (h : wF P m args s K) : CallW P f args s K := by
  unfold compF at hm
  split at hm
  · cases hm
  · rename_i fn hfn
    split at hm
    · cases hm
    · rename_i c hc
      cases hx : comp P fn.ntmps c with
      | none => rw [hx] at hm; cases hm
      | some mc =>
        rw [hx] at hm; cases hm
        refine CallW.of hfn hc hn ((comp_ok G hx h.out).mono fun ex T s hh => ?_)
        cases ex with
        | exit id => exact hh.elim
        | normal =>
          simp only at hh
          split at hh
          · rename_i l hl
            exact ⟨trivial, l, resS_ok hl, hh⟩
          · exact hh.elim
        | ret =>
          simp only at hh
          split at hh
          · rename_i l hl
            exact ⟨trivial, l, resS_ok hl, hh⟩
          · exact hh.elim

/-- A loop, by what holds at its head. -/
theorem MW.loop (G : Good P) {mc : MC} {T : TL} {s : SS} {Q : AExit → TL → SS → Prop} {ι : Type} (μ : ι → Nat) (I : ι → Prop) (TV : ι → TL) (SV : ι → SS) (i0 : ι) (h0 : I i0) (hw : Wk P nt k T s (TV i0) (SV i0))
    (body : ∀ i, I i → Box (wp P nt k mc (TV i) (SV i) fun ex T' s' => match ex with
      | .normal => ∃ j, I j ∧ μ j < μ i ∧ Wk P nt k T' s' (TV j) (SV j)
      | .exit id => Q (.exit id) T' s'
      | .ret => Q .ret T' s')) : MW P nt k (.loop mc) T s Q := by
  intro c hc
  cases c <;> simp only [comp] at hc <;> first
    | (cases hc; done)
    | skip
  case loop c =>
    cases hx : comp P nt c with
    | none => rw [hx] at hc; cases hc
    | some m' =>
      rw [hx] at hc; cases hc
      refine W.loop μ I TV SV i0 h0 hw fun i hi => (comp_ok G hx (body i hi).out).mono fun ex T s hh => ?_
      cases ex with
      | normal => exact hh
      | exit id => exact hh
      | ret => exact hh
  all_goals
    repeat' (first | (cases hc; done) | (simp only [Bool.cond_eq_ite, Option.map_eq_some_iff] at hc; (first | (obtain ⟨_, _, e⟩ := hc; cases e) | skip)) | split at hc)

/-! ### Taking a state for another -/

def Sub (T' : TL) : TL → Prop
  | [] => True
  | (t, v) :: r => look T' t = some v ∧ Sub T' r

theorem Sub.look {T' : TL} : ∀ {T : TL}, Sub T' T → ∀ t v, look T t = some v → Go.Vf.look T' t = some v
  | [], _, t, v, h => by cases h
  | (k, x) :: r, hs, t, v, h => by
    simp only [Go.Vf.look] at h
    rcases beq_cases k t with ⟨e, he⟩ | ⟨e, he⟩
    · rw [he] at h; cases h; subst e; exact hs.1
    · rw [he] at h; exact Sub.look hs.2 t v h

def SubH (H' : List (Nat × Option ABlk)) : List (Nat × Option ABlk) → Prop
  | [] => True
  | (id, some b) :: r => lookH H' id = some b ∧ SubH H' r
  | (_, none) :: r => SubH H' r

theorem SubH.look {H' : List (Nat × Option ABlk)} : ∀ {H : List (Nat × Option ABlk)}, SubH H' H → ∀ id b, lookH H id = some b → lookH H' id = some b
  | [], _, t, v, h => by cases h
  | (k, some x) :: r, hs, t, v, h => by
    simp only [lookH] at h
    rcases beq_cases k t with ⟨e, he⟩ | ⟨e, he⟩
    · rw [he] at h; cases h; subst e; exact hs.1
    · rw [he] at h; exact SubH.look hs.2 t v h
  | (k, none) :: r, hs, t, v, h => by
    simp only [lookH] at h
    rcases beq_cases k t with ⟨e, he⟩ | ⟨e, he⟩
    · rw [he] at h; cases h
    · rw [he] at h; exact SubH.look (H := r) hs t v h

/-- Less is known. -/
theorem Wk.sub {T' : TL} {s' : SS} (hT : Sub T T') (hH : SubH s.heap s'.heap) (hn : s.next ≤ s'.next) (hg : s'.gl = s.gl) : Wk P nt k T s T' s' := by
  refine ⟨hn, hg, fun B w0 ρ w tmps H F => ⟨?_, ⟨F.1, fun t v ht => F.2 t v ?_⟩⟩⟩
  · refine H.same hg fun id e b _ hb => ?_
    rw [SS.get] at hb ⊢
    exact hH.look _ _ hb
  · rw [toTr_get] at ht ⊢
    exact hT.look _ _ ht


theorem SubH.refl (H : List (Nat × Option ABlk)) : ∀ id b, lookH H id = some b → lookH H id = some b := fun _ _ h => h

theorem Wk.same {T' : TL} (hT : Sub T T') : Wk P nt k T s T' s := by
  refine ⟨Nat.le_refl _, rfl, fun B w0 ρ w tmps H F => ⟨H, ⟨F.1, fun t v ht => F.2 t v ?_⟩⟩⟩
  rw [toTr_get] at ht ⊢
  exact hT.look _ _ ht


/-- Less is known, by what is looked up. -/
theorem Wk.less {T' : TL} {s' : SS} (hT : Sub T T') (hH : ∀ id b, lookH s'.heap id = some b → lookH s.heap id = some b) (hn : s.next ≤ s'.next) (hg : s'.gl = s.gl) : Wk P nt k T s T' s' := by
  refine ⟨hn, hg, fun B w0 ρ w tmps H F => ⟨?_, ⟨F.1, fun t v ht => F.2 t v ?_⟩⟩⟩
  · refine H.same hg fun id e b _ hb => ?_
    rw [SS.get] at hb ⊢
    exact hH _ _ hb
  · rw [toTr_get] at ht ⊢
    exact hT.look _ _ ht

theorem look_shadow {H : List (Nat × Option ABlk)} {k : Nat} {x y : Option ABlk} : ∀ id b, lookH ((k, x) :: H) id = some b → lookH ((k, x) :: (k, y) :: H) id = some b := by
  intro id b h
  simp only [lookH] at h ⊢
  rcases beq_cases k id with ⟨e, he⟩ | ⟨e, he⟩
  · rw [he] at h ⊢; exact h
  · rw [he] at h ⊢; simpa using h

end
end Go.Vf
