import Derived.Test.YtneanogeebbjiaaDoorEngU
/- The machine of plain blocks, by rows: one step at a time. -/
namespace Go.Vf
open Go.RowKit
set_option linter.unusedVariables false
section
variable {P : Program} {nt k : Nat} {T : TL} {s : SS} {R : TL → SS → Prop} {Q : AExit → TL → SS → Prop}

/-- What follows an operation, in the text's order. -/
def stepK (P : Program) (d : Option Tmp) (l : List MOper) (T : TL) (s : SS) (R : TL → SS → Prop) (r : RR) : Prop :=
  match r with
  | .val v => Box (wSeq P l (putL T d v) s R)
  | .new b v => Box (wSeq P l (putL T d (v s.next)) { s with heap := (s.next, some b) :: s.heap, next := s.next + 1 } R)
  | .eff v s' => Box (wSeq P l (putL T d v) s' R)
  | .call f args => CallW P f args s fun v s' => Box (wSeq P l (putL T d v) s' R)

/-- What follows an operation, in a row. -/
def rowK (P : Program) (m : MOp) (d : Option Tmp) (chk : Bool) (k : Nat) (l : List ROp) (pd : List PRec) (T : TL) (s : SS) (R : TL → SS → Prop) (r : RR) : Prop :=
  match r with
  | .val v => Box (wRow P l (pdV chk k m T v pd) (putL T d v) s R)
  | .new b v => (match lookH s.heap s.next with
    | none => Box (wRow P l (pdN chk k s.next b pd) (putL T d (v s.next)) { s with heap := (s.next, some b) :: s.heap, next := s.next + 1 } R)
    | some _ => False)
  | .eff v s' => wKeep P chk k pd s s' ∧ Box (wRow P l pd (putL T d v) s' R)
  | .call f args => CallW P f args s fun v s' => wKeep P chk k pd s s' ∧ Box (wRow P l pd (putL T d v) s' R)

def seqQ (P : Program) (nt k : Nat) (b : MC) (Q : AExit → TL → SS → Prop) (ex : AExit) (T : TL) (s : SS) : Prop :=
  match ex with
  | .normal => Box (wp P nt k b T s Q)
  | .exit id => Q (.exit id) T s
  | .ret => Q .ret T s

def blockQ (id : Nat) (Q : AExit → TL → SS → Prop) (ex : AExit) (T : TL) (s : SS) : Prop :=
  match ex with
  | .exit i => (match Nat.beq i id with
    | true => Q .normal T s
    | false => Q (.exit i) T s)
  | .normal => Q .normal T s
  | .ret => Q .ret T s

def regQ (Q : AExit → TL → SS → Prop) (T : TL) (s : SS) : Prop := Q .normal T s

def headQ (P : Program) (nt k : Nat) {ι : Type} (μ : ι → Nat) (I : ι → Prop) (TV : ι → TL) (SV : ι → SS) (i : ι) (Q : AExit → TL → SS → Prop) (ex : AExit) (T : TL) (s : SS) : Prop :=
  match ex with
  | .normal => ∃ j, I j ∧ μ j < μ i ∧ Wk P nt k T s (TV j) (SV j)
  | .exit id => Q (.exit id) T s
  | .ret => Q .ret T s

def runQ (P : Program) (res : List ResultVar) (K : Value → SS → Prop) (ex : AExit) (T : TL) (s : SS) : Prop :=
  match ex with
  | .exit _ => False
  | .normal => (match resS P T s res with
    | some l => K (one l) s
    | none => False)
  | .ret => (match resS P T s res with
    | some l => K (one l) s
    | none => False)

theorem sNil (h : R T s) : Box (wSeq P [] T s R) := ⟨h⟩
theorem wG_imp {T : TL} {g : Option (Tmp × Bool)} {a b c : Prop} (hab : a → b) (h : wG T g a c) : wG T g b c := by
  cases g with
  | none => exact hab h
  | some q =>
    obtain ⟨d, e⟩ := q
    simp only [wG] at h ⊢
    generalize look T d = v at h ⊢
    cases v with
    | none => exact h
    | some v => cases v with
      | bool f => cases f <;> cases e <;> first | exact hab h | exact h
      | _ => exact h
theorem sCons {d : Option Tmp} {g : Option (Tmp × Bool)} {m : MOp} {l : List MOper} (h : wG T g (wN P m T s (stepK P d l T s R)) (Box (wSeq P l (putL T d (.tuple #[])) s R))) : Box (wSeq P (⟨d, g, m⟩ :: l) T s R) := by
  refine ⟨?_⟩
  show wG T g (stepP P m d l T s R) _
  cases hm : m.isRaw with
  | true => cases m <;> first | (cases hm; done) | exact wG_imp (fun q => q.elim) h
  | false => rw [stepP_not hm]; exact h
/-- An operation with a rule of the world's own. -/
theorem sRaw {d : Option Tmp} {g : Option (Tmp × Bool)} {op : Op} {l : List MOper} (h : wG T g (OpW P op T s fun v s' => Box (wSeq P l (putL T d v) s' R)) (Box (wSeq P l (putL T d (.tuple #[])) s R))) : Box (wSeq P (⟨d, g, .raw op⟩ :: l) T s R) := ⟨h⟩
theorem rNil {pd : List PRec} (h : R T s) : Box (wRow P [] pd T s R) := ⟨h⟩
theorem rCons {d : Option Tmp} {g : Option (Tmp × Bool)} {m : MOp} {loud chk : Bool} {n : Nat} {l : List ROp} {pd : List PRec} (h : wG T g (wN P m T s (rowK P m d chk n l pd T s R)) (Box (wRow P l pd (putL T d (.tuple #[])) s R))) : Box (wRow P ((⟨d, g, m⟩, loud, chk, n) :: l) pd T s R) := ⟨h⟩
/-- Nothing waits. -/
theorem kNo {n : Nat} {pd : List PRec} {s' : SS} {p : Prop} (h : p) : wKeep P false n pd s s' ∧ p := ⟨trivial, h⟩
/-- What waits is told the same: nothing that was there has changed. -/
theorem kAll {n : Nat} {pd : List PRec} {s' : SS} {p : Prop} (hk : Keep s s') (h : p) : wKeep P true n pd s s' ∧ p := ⟨.inl hk, h⟩
/-- What waits is told the same: each thing by itself. -/
theorem kEach {n : Nat} {pd : List PRec} {s' : SS} {p : Prop} (hk : Agn P n s' pd) (h : p) : wKeep P true n pd s s' ∧ p := ⟨.inr hk, h⟩

theorem pSkip (h : Q .normal T s) : Box (wp P nt k .skip T s Q) := ⟨h⟩
theorem pReg {ops : List MOper} (h : Box (wSeq P ops T s (regQ Q))) : Box (wp P nt k (.reg ops) T s Q) := ⟨h.out⟩
theorem pRow {ops : List ROp} (h : Box (wRow P ops [] T s (regQ Q))) : Box (wp P nt k (.row ops) T s Q) := ⟨h.out⟩
theorem pSeq {a b : MC} (h : Box (wp P nt k a T s (seqQ P nt k b Q))) : Box (wp P nt k (.seq a b) T s Q) := ⟨h.out⟩
theorem pCond {x : Operand} {a b : MC} (h : match opd T s.gl x with
    | some (.bool true) => Box (wp P nt k a T s Q)
    | some (.bool false) => Box (wp P nt k b T s Q)
    | _ => False) : Box (wp P nt k (.cond x a b) T s Q) := ⟨h⟩
theorem pBlock {id : Nat} {c : MC} (h : Box (wp P nt k c T s (blockQ id Q))) : Box (wp P nt k (.block id c) T s Q) := ⟨h.out⟩
theorem pLoop {c : MC} (h : MW P nt k (.loop c) T s Q) : Box (wp P nt k (.loop c) T s Q) := ⟨h⟩
theorem pExit {id : Nat} (h : Q (.exit id) T s) : Box (wp P nt k (.exit id) T s Q) := ⟨h⟩
theorem CallW.run (G : Good P) {f : FuncId} {res : List ResultVar} {body : MC} {args : List Value} {K : Value → SS → Prop} (hm : compF P f = some ⟨nt, res, body⟩) (hn : args.length ≤ nt) (hk : s.next = k)
    (h : Box (wp P nt k body (argsL args 0) s (runQ P res K))) : CallW P f args s K := by
  subst hk
  refine CallW.body G hm hn ⟨?_⟩
  have e : runQ P res K = fun ex T s => match ex with
      | .exit _ => False
      | .normal | .ret => (match resS P T s res with
        | some l => K (one l) s
        | none => False) := by
    funext ex T s; cases ex <;> rfl
  exact e ▸ h.out
theorem MW.head (G : Good P) {mc : MC} {ι : Type} (μ : ι → Nat) (I : ι → Prop) (TV : ι → TL) (SV : ι → SS) (i0 : ι) (h0 : I i0) (hw : Wk P nt k T s (TV i0) (SV i0))
    (body : ∀ i, I i → Box (wp P nt k mc (TV i) (SV i) (headQ P nt k μ I TV SV i Q))) : MW P nt k (.loop mc) T s Q :=
  MW.loop G μ I TV SV i0 h0 hw fun i hi => ⟨(body i hi).out⟩
theorem pRet (h : Q .ret T s) : Box (wp P nt k .ret T s Q) := ⟨h⟩

theorem gNone {run skip : Prop} (h : run) : wG T none run skip := h
theorem gOn {d : Tmp} {b : Bool} {run skip : Prop} (h : look T d = some (.bool b)) (hr : run) : wG T (some (d, b)) run skip := by
  simp only [wG, h]
  cases b <;> exact hr
variable {K : RR → Prop}
theorem ldI_at {k : IntKind} {x : Operand} {b off : Nat} {c : List Value} {e : TypeId} {g r : Bool} {n : Int} (hx : opd T s.gl x = some (.pointer (some ⟨b, off, none⟩))) (hb : lookH s.heap b = some (.cells c e g r)) (hc : c[off]? = some (.int k n))
    (h : K (.val (.int k n))) : wN P (.ldI k x) T s K := by
  simp only [wN, hx, hb]
  exact ⟨n, hc, h⟩
theorem slL_open {z : Nat} {x : Operand} {lo hi : Option Operand} {b off len cap : Nat} {c : List Value} {e : TypeId} {r : Bool} {vl vh : Option Value} (hx : opd T s.gl x = some (.slice (some ⟨b, off, none⟩) len cap)) (hl : opdO T s.gl lo = some vl) (hh : opdO T s.gl hi = some vh)
    (hb : lookH s.heap b = some (.cells c e true r)) (hz : sizeB P e = some z) (h : wBnd vh len len fun h => wBnd vl 0 h fun a => ∀ o n, o = off + a * z → n = h - a → K (.val (.slice (some ⟨b, o, none⟩) n 0))) : wN P (.slL z x lo hi) T s K := by
  simp only [wN, hx, hl, hh, hb]
  exact ⟨hz, h⟩
theorem toStr_at {x : Operand} {b off len cap : Nat} {c : List Value} {e : TypeId} {g r : Bool} {l : List UInt8} (hx : opd T s.gl x = some (.slice (some ⟨b, off, none⟩) len cap)) (hb : lookH s.heap b = some (.cells c e g r)) (hc : takeN len (c.drop off) = some (bytesV l))
    (h : K (.val (.string ⟨⟨l⟩⟩))) : wN P (.toStr x) T s K := by
  simp only [wN, hx, hb]
  exact ⟨l, hc, h⟩
theorem st_at {x y : Operand} {b off : Nat} {c c' : List Value} {e : TypeId} {g : Bool} {q : IntKind} {n : Int} (hx : opd T s.gl x = some (.pointer (some ⟨b, off, none⟩))) (hy : opd T s.gl y = some (.int q n)) (hb : lookH s.heap b = some (.cells c e g false)) (hc : setRow c off [.int q n] = some c')
    (h : K (.eff (.tuple #[]) { s with heap := (b, some (.cells c' e g false)) :: s.heap })) : wN P (.st 1 x y) T s K := by
  simp only [wN, hx, hy, hb]
  exact ⟨c', hc, h⟩
end
end Go.Vf
