import Derived.Test.YtneanogeebbjiaaDoorEngQ
/- The machine of plain blocks, by rows: code made ready (its types looked up, its open regions in a row), and what is to be shown of it. -/
namespace Go.Vf
open Go.RowKit
set_option linter.unusedVariables false
set_option linter.unusedSimpArgs false

/-- Bytes as cells. -/
def bytesV (l : List UInt8) : List Value := l.map fun b => .int .u8 b.toNat

inductive EqK where
  | bool | ptr | slice | map | func | none

inductive MOp where
  | mov (x : Operand)
  | pick (c a b : Operand)
  | bin (op : BinOp) (e : EqK) (x y : Operand)
  | shlC (n : Nat) (x : Operand)
  | shrC (n : Nat) (x : Operand)
  | un (op : UnOp) (x : Operand)
  | toInt (k : IntKind) (x : Operand)
  | ldI (k : IntKind) (x : Operand)
  | ldB (x : Operand)
  | ldS (x : Operand)
  | ld1 (x : Operand)
  | ldN (n : Nat) (x : Operand)
  | st (n : Nat) (x y : Operand)
  | faddr (off : Nat) (x : Operand)
  | fld1 (off : Nat) (x : Operand)
  | fldN (off n : Nat) (x : Operand)
  | ixa (z : Nat) (x i : Operand)
  | ixaA (len z : Nat) (x i : Operand)
  | ixS (x i : Operand)
  | ext (x : Operand) (i : Nat)
  | lenS (x : Operand)
  | lenL (x : Operand)
  | alloc (elem : TypeId) (z : List Value)
  | box (elem : TypeId) (x : Operand)
  | agg (z : List Value) (ps : List (Nat × Nat × Operand))
  | mkS (elem : TypeId) (len : Nat) (z : List Value) (ps : List (Nat × Nat × Operand))
  | slS (x : Operand) (lo hi : Option Operand)
  | slL (z : Nat) (x : Operand) (lo hi : Option Operand)
  | slA (len z : Nat) (x : Operand) (lo hi : Option Operand)
  | toStr (x : Operand)
  | toBytes (elem : TypeId) (x : Operand)
  | app (elem : TypeId) (size bytes : Nat) (x y : Operand)
  | appZ (elem : TypeId) (size bytes : Nat) (z : List Value) (x y : Operand)
  | cpy (size : Nat) (x y : Operand)
  | nilC (x : Operand)
  | mm (mx : Bool) (x y : Operand)
  | mkN (elem : TypeId) (bytes : Nat) (z : List Value) (l c : Operand)
  | mark (x : Operand)
  | call (f : FuncId) (args : List Operand)
  | gen (op : Op)
  | raw (op : Op)

structure MOper where
  dst : Option Tmp
  grd : Option (Tmp × Bool)
  op : MOp

inductive MC where
  | skip
  | reg (ops : List MOper)
  | row (ops : List (MOper × Bool × Bool × Nat))
  | seq (a b : MC)
  | cond (x : Operand) (a b : MC)
  | block (id : Nat) (c : MC)
  | loop (c : MC)
  | exit (id : Nat)
  | ret

structure MF where
  nt : Nat
  res : List ResultVar
  body : MC

/-! ### Making ready -/

def okC : Operand → Bool
  | .const v => plainV v
  | _ => true

def okCs : List Operand → Bool
  | [] => true
  | x :: r => okC x && okCs r

def okO : Option Operand → Bool
  | none => true
  | some x => okC x

def eqKind (P : Program) (t : TypeId) : EqK :=
  match P.underlying t with
  | some .bool => .bool
  | some (.pointer _) => .ptr
  | some (.slice _) => .slice
  | some (.map _ _) => .map
  | some (.func _ _ _) => .func
  | _ => .none

def placesS (P : Program) (fields : Array Field) : List (Nat × Operand) → Option (List (Nat × Nat × Operand))
  | [] => some []
  | (i, x) :: r => match fields[i]? with
    | none => none
    | some f => match sizeB P f.type, placesS P fields r with
      | some n, some l => bif okC x then some ((f.offset, n, x) :: l) else none
      | _, _ => none

def placesA (n : Nat) : List (Nat × Operand) → Option (List (Nat × Nat × Operand))
  | [] => some []
  | (i, x) :: r => match placesA n r with
    | some l => bif okC x then some ((i * n, n, x) :: l) else none
    | none => none

def cOp (P : Program) (op : Op) : Option MOp :=
  match op with
  | .move x | .assign x => bif okC x then some (.mov x) else none
  | .pick c a b => bif okC c && okC a && okC b then some (.pick c a b) else none
  | .binOp .shl _ x (.const (.int _ (.ofNat n))) _ => bif okC x then some (.shlC n x) else none
  | .binOp .shr _ x (.const (.int _ (.ofNat n))) _ => bif okC x then some (.shrC n x) else none
  | .binOp op t x y _ => bif okC x && okC y then some (.bin op (eqKind P t) x y) else none
  | .unOp op _ x => bif okC x then some (.un op x) else none
  | .convert a b x =>
    bif okC x then
      match P.underlying a, P.underlying b with
      | some (.int _), some (.int k) => some (.toInt k x)
      | some (.slice e), some .string => (match P.underlying e with
        | some (.int .u8) => some (.toStr x)
        | _ => some (.gen op))
      | some (.slice e), some (.slice _) => (match P.underlying e, Nat.beq a b with
        | some (.int .u8), true => some (.mark x)
        | _, _ => some (.gen op))
      | some .string, some (.slice e) => (match P.underlying e, P.info? e with
        | some (.int .u8), some i => bif Nat.beq i.size 1 then some (.toBytes e x) else some (.gen op)
        | _, _ => some (.gen op))
      | _, _ => some (.gen op)
    else none
  | .load t x =>
    bif okC x then
      match aggB P t with
      | none => none
      | some true => (match sizeB P t with
        | none => none
        | some n => some (.ldN n x))
      | some false => match P.underlying t with
        | some (.int k) => some (.ldI k x)
        | some .bool => some (.ldB x)
        | some .string => some (.ldS x)
        | _ => some (.ld1 x)
    else none
  | .store t a x => bif okC a && okC x then (match sizeB P t with
    | none => none
    | some n => some (.st n a x)) else none
  | .fieldAddr t x f =>
    bif okC x then
      match P.underlying t with
      | some (.struct fields) => (match fields[f]? with
        | some fd => (match sizeB P fd.type with
          | some (_ + 1) => some (.faddr fd.offset x)
          | _ => none)
        | none => none)
      | _ => none
    else none
  | .field t x f =>
    bif okC x then
      match P.underlying t with
      | some (.struct fields) => (match fields[f]? with
        | some fd => (match aggB P fd.type with
          | none => none
          | some true => (match sizeB P fd.type with
            | none => none
            | some n => some (.fldN fd.offset n x))
          | some false => some (.fld1 fd.offset x))
        | none => none)
      | _ => none
    else none
  | .indexAddr t x i =>
    bif okC x && okC i then
      match P.underlying t with
      | some (.slice e) => (sizeB P e).map fun z => .ixa z x i
      | some (.array n e) => (sizeB P e).map fun z => .ixaA n z x i
      | _ => none
    else none
  | .index t x i =>
    bif okC x && okC i then
      match P.underlying t with
      | some .string => some (.ixS x i)
      | _ => some (.gen op)
    else none
  | .extract x i => bif okC x then some (.ext x i) else none
  | .alloc e => (zeroB P e).map fun z => .alloc e (flat z)
  | .box e x => bif okC x && (P.info? e).isSome then some (.box e x) else none
  | .build t parts => (match zeroB P t, P.underlying t with
    | some z, some (.struct fields) => bif fields.toList.all fun f => (sizeB P f.type).isSome then (placesS P fields parts.toList).map (.agg (flat z)) else none
    | some z, some (.array _ e) => (match sizeB P e with
      | none => none
      | some n => (placesA n parts.toList).map (.agg (flat z)))
    | _, _ => none)
  | .buildSlice t len parts => (match P.underlying t with
    | some (.slice e) => (match P.info? e, zeroB P e with
      | some i, some z => bif Nat.ble (len * i.size) 16777216 && Nat.beq (flat z).length i.size && Nat.blt 0 i.size then (placesA i.size parts.toList).map (.mkS e len (repeatL len (flat z))) else none
      | _, _ => none)
    | _ => none)
  | .makeSlice t l c =>
    bif okC l && okC c then
      match P.underlying t with
      | some (.slice e) => (match P.info? e, zeroB P e with
        | some i, some z => bif Nat.beq (flat z).length i.size then some (.mkN e i.bytes (flat z) l c) else none
        | _, _ => none)
      | _ => none
    else none
  | .slice t x lo hi mx =>
    bif okC x && okO lo && okO hi then
      match mx with
      | some _ => some (.gen op)
      | none => match P.underlying t with
        | some .string => some (.slS x lo hi)
        | some (.slice e) => (sizeB P e).map fun z => .slL z x lo hi
        | some (.array n e) => (sizeB P e).map fun z => .slA n z x lo hi
        | _ => none
    else none
  | .call { callee := .builtin b, args, argTypes } =>
    match b, args.toList, argTypes.toList with
    | .len, [x], t :: _ => bif okC x then
      (match P.underlying t with
      | some .string => some (.lenS x)
      | some (.slice _) => some (.lenL x)
      | _ => some (.gen op)) else none
    | .min, [x, y], _ => bif okC x && okC y then some (.mm false x y) else none
    | .max, [x, y], _ => bif okC x && okC y then some (.mm true x y) else none
    | .append, [x, y], t :: t' :: _ => bif okC x && okC y then
      (match P.underlying t, P.underlying t' with
      | some (.slice e), some (.slice e') => (match P.info? e, zeroB P e, P.info? e' with
        | some i, some z, some _ => bif Nat.beq (flat z).length i.size then some (.app e i.size i.bytes x y) else none
        | _, _, _ => none)
      | some (.slice e), some .string => (match P.info? e, zeroB P e with
        | some i, some z => bif Nat.beq (flat z).length i.size then some (.app e i.size i.bytes x y) else none
        | _, _ => none)
      | some (.slice e), some (.int _) => (match P.info? e, zeroB P e with
        | some i, some z => bif Nat.beq (flat z).length i.size then some (.appZ e i.size i.bytes (flat z) x y) else none
        | _, _ => none)
      | _, _ => some (.gen op)) else none
    | .copy, [x, y], t :: _ => bif okC x && okC y then
      (match P.underlying t with
      | some (.slice e) => (sizeB P e).map fun z => .cpy z x y
      | _ => some (.gen op)) else none
    | _, _, _ => some (.gen op)
  | .call { callee := .value (.func f), args, .. } => bif okCs args.toList then
    (match P.funcs[f]? with
    | some fn => bif fn.body.isSome then some (.call f args.toList) else none
    | none => none) else none
  | .nilCheck x => bif okC x then some (.nilC x) else none
  | _ => some (.gen op)

/-- Operations with a rule of the world's own. -/
def isRaw : Op → Bool
  | .insert .. => true
  | .mapUpdate .. => true
  | .lookup .. => true
  | .range .. => true
  | .next .. => true
  | .entry .. => true
  | _ => false

/-- A call of a function that has no text. -/
def isXtn (P : Program) : Op → Bool
  | .call { callee := .value (.func f), .. } => (match P.funcs[f]? with
    | some fn => fn.body.isNone
    | none => false)
  | _ => false

def MOp.isRaw : MOp → Bool
  | .raw _ => true
  | _ => false

def cOp' (P : Program) (op : Op) : Option MOp :=
  match Go.Vf.isRaw op || isXtn P op with
  | true => some (.raw op)
  | false => match cOp P op with
    | some m => (match m.isRaw with
      | true => none
      | false => some m)
    | none => none

def cOper (P : Program) (nt : Nat) (ops : Array Oper) (o : Oper) : Option MOper :=
  bif dstOk nt o.dst then
    match cOp' P o.op with
    | none => none
    | some m => match o.guard with
      | none => some ⟨o.dst, none, m⟩
      | some (j, b) => match ops[j]? with
        | some g => match g.dst with
          | some d => some ⟨o.dst, some (d, b), m⟩
          | none => none
        | none => none
  else none

def cSeq (P : Program) (nt : Nat) (ops : Array Oper) : List Oper → Option (List MOper)
  | [] => some []
  | o :: r => match cOper P nt ops o, cSeq P nt ops r with
    | some m, some l => some (m :: l)
    | _, _ => none

/-- A row's operation: whether it is loud; whether another one's wait is to be looked after (loud), whether it may wait itself (quiet); its number among the loud ones, or how long it may wait. -/
abbrev ROp := MOper × Bool × Bool × Nat

/-- k: how many loud ones stand ahead; his: how long the quiet ones ahead may wait. -/
def cRow (P : Program) (nt : Nat) (ops : Array Oper) (pl : Plan) : List Nat → Nat → List Nat → Option (List ROp)
  | [], _, _ => some []
  | i :: r, k, his => match ops[i]? with
    | none => none
    | some o => match cOper P nt ops o with
      | none => none
      | some m => bif Nat.beq (cls o.op) 3 then
          match cRow P nt ops pl r (k + 1) his with
          | none => none
          | some l => some ((m, true, his.any fun h => Nat.blt k h, k) :: l)
        else bif Nat.beq (cls o.op) 0 then
          match cRow P nt ops pl r k his with
          | none => none
          | some l => some ((m, false, false, 0) :: l)
        else match cRow P nt ops pl r k (hiOf pl.M i (dropN k pl.es) k :: his) with
          | none => none
          | some l => some ((m, false, Nat.blt k (hiOf pl.M i (dropN k pl.es) k), hiOf pl.M i (dropN k pl.es) k) :: l)

def comp (P : Program) (nt : Nat) : Code → Option MC
  | .skip => some .skip
  | .region _ ops draw => match draw with
    | true => bif ops.toList.all noDefer then (match plan ops with
      | none => none
      | some pl => (cRow P nt ops pl pl.row 0 []).map .row) else none
    | false => (cSeq P nt ops ops.toList).map .reg
  | .seq a b => match comp P nt a, comp P nt b with
    | some x, some y => some (.seq x y)
    | _, _ => none
  | .cond c a b => bif okC c then (match comp P nt a, comp P nt b with
    | some x, some y => some (.cond c x y)
    | _, _ => none) else none
  | .block id c => (comp P nt c).map (.block id)
  | .loop c => (comp P nt c).map .loop
  | .exit id => some (.exit id)
  | .ret => some .ret
  | _ => none

def compF (P : Program) (f : FuncId) : Option MF :=
  match P.funcs[f]? with
  | none => none
  | some fn => match fn.body with
    | none => none
    | some c => (comp P fn.ntmps c).map fun m => ⟨fn.ntmps, fn.results.toList, m⟩

/-! ### What is to be shown -/

/-- A thing to be shown, closed. -/
structure Box (p : Prop) : Prop where
  out : p

inductive RR where
  | val (v : Value)
  | new (b : ABlk) (v : Nat → Value)
  | eff (v : Value) (s : SS)
  | call (f : FuncId) (args : List Value)

def RR.toN : RR → ANext
  | .val v => .val v
  | .new b v => .new b v
  | .eff v s => .eff v s.st
  | .call f args => .enter f args

def opd (T : TL) (gl : Nat) : Operand → Option Value
  | .tmp t => look T t
  | .const v => some v
  | .global g => bif Nat.blt g gl then some (.pointer (some ⟨g, 0, none⟩)) else none
  | .func f => some (.func (.func f) #[] #[])

def opds (T : TL) (gl : Nat) : List Operand → Option (List Value)
  | [] => some []
  | x :: r => match opd T gl x with
    | none => none
    | some v => match opds T gl r with
      | none => none
      | some l => some (v :: l)

def opdPs (T : TL) (gl : Nat) : List (Nat × Nat × Operand) → Option (List (Nat × Nat × Value))
  | [] => some []
  | (o, n, x) :: r => match opd T gl x with
    | none => none
    | some v => match opdPs T gl r with
      | none => none
      | some l => some ((o, n, v) :: l)

def layM : List Value → List (Nat × Nat × Value) → Option (List Value)
  | c, [] => some c
  | c, (o, n, v) :: r => bif Nat.beq (flat v).length n then
      match setRow c o (flat v) with
      | none => none
      | some c' => layM c' r
    else none

def wInt (op : BinOp) (k : IntKind) (a b : Int) (K : Value → Prop) : Prop :=
  match op with
  | .add => ∀ z, z = k.wrap (a + b) → K (.int k z)
  | .sub => ∀ z, z = k.wrap (a - b) → K (.int k z)
  | .mul => ∀ z, z = k.wrap (a * b) → K (.int k z)
  | .quo => b ≠ 0 ∧ ∀ z, z = k.wrap (a.tdiv b) → K (.int k z)
  | .rem => b ≠ 0 ∧ ∀ z, z = a.tmod b → K (.int k z)
  | .and => ∀ z, z = k.wrap (BitVec.ofInt k.bits a &&& BitVec.ofInt k.bits b).toNat → K (.int k z)
  | .or => ∀ z, z = k.wrap (BitVec.ofInt k.bits a ||| BitVec.ofInt k.bits b).toNat → K (.int k z)
  | .xor => ∀ z, z = k.wrap (BitVec.ofInt k.bits a ^^^ BitVec.ofInt k.bits b).toNat → K (.int k z)
  | .andNot => ∀ z, z = k.wrap (BitVec.ofInt k.bits a &&& ~~~(BitVec.ofInt k.bits b)).toNat → K (.int k z)
  | .eql => ∀ c : Bool, c = decide (a = b) → K (.bool c)
  | .neq => ∀ c : Bool, c = decide (a ≠ b) → K (.bool c)
  | .lss => ∀ c : Bool, c = decide (a < b) → K (.bool c)
  | .leq => ∀ c : Bool, c = decide (a ≤ b) → K (.bool c)
  | .gtr => ∀ c : Bool, c = decide (b < a) → K (.bool c)
  | .geq => ∀ c : Bool, c = decide (b ≤ a) → K (.bool c)
  | _ => False

def wStr (op : BinOp) (a b : List UInt8) (K : Value → Prop) : Prop :=
  match op with
  | .add => a.length + b.length ≤ 4294967296 ∧ ∀ l, l = a ++ b → K (.string ⟨⟨l⟩⟩)
  | .eql => ∀ c : Bool, c = decide (a = b) → K (.bool c)
  | .neq => ∀ c : Bool, c = decide (a ≠ b) → K (.bool c)
  | .lss => ∀ c : Bool, c = lssL a b → K (.bool c)
  | .leq => ∀ c : Bool, c = (lssL a b || beqL a b) → K (.bool c)
  | .gtr => ∀ c : Bool, c = (!(lssL a b || beqL a b)) → K (.bool c)
  | .geq => ∀ c : Bool, c = (!(lssL a b)) → K (.bool c)
  | _ => False

/-- Equality of other things. -/
def wEql (e : EqK) (x y : Value) : Option Bool :=
  match e, x, y with
  | .bool, .bool a, .bool b => some (a == b)
  | .ptr, .pointer none, .pointer b => some b.isNone
  | .ptr, .pointer (some _), .pointer none => some false
  | .slice, .slice none _ _, .slice b _ _ => some b.isNone
  | .slice, .slice (some _) _ _, .slice none _ _ => some false
  | .map, .map none, .map b => some b.isNone
  | .map, .map (some _), .map none => some false
  | .func, .nilFunc, .nilFunc => some true
  | .func, .nilFunc, .func _ _ _ => some false
  | .func, .func _ _ _, .nilFunc => some false
  | _, _, _ => none

def wBin (op : BinOp) (e : EqK) (x y : Value) (K : Value → Prop) : Prop :=
  match x, y with
  | .int k a, .int k' b => (match op with
    | .shl => 0 ≤ b ∧ ∀ z, z = k.wrap (a * 2 ^ (min b.toNat k.bits)) → K (.int k z)
    | .shr => 0 ≤ b ∧ ∀ z, z = a.fdiv (2 ^ (min b.toNat k.bits)) → K (.int k z)
    | _ => match decide (k = k') with
      | true => wInt op k a b K
      | false => False)
  | .string ⟨⟨a⟩⟩, .string ⟨⟨b⟩⟩ => wStr op a b K
  | _, _ => match op, wEql e x y with
    | .eql, some c => ∀ d : Bool, d = c → K (.bool d)
    | .neq, some c => ∀ d : Bool, d = !c → K (.bool d)
    | _, _ => False

def wUn (op : UnOp) (x : Value) (K : Value → Prop) : Prop :=
  match op, x with
  | .neg, .int k n => ∀ z, z = k.wrap (0 - n) → K (.int k z)
  | .xor, .int k n => wInt .xor k (if k.signed then -1 else k.max) n K
  | .not, .bool b => ∀ c : Bool, c = !b → K (.bool c)
  | _, _ => False

def wIdx (v : Value) (len : Nat) (K : Nat → Prop) : Prop :=
  match v with
  | .int _ n => (0 ≤ n ∧ n < len) ∧ ∀ m : Nat, (m : Int) = n → K m
  | _ => False

def wBnd (v : Option Value) (dflt most : Nat) (K : Nat → Prop) : Prop :=
  match v with
  | none => K dflt
  | some (.int _ n) => (0 ≤ n ∧ n ≤ most) ∧ ∀ m : Nat, (m : Int) = n → K m
  | _ => False

def opdO (T : TL) (gl : Nat) : Option Operand → Option (Option Value)
  | none => some none
  | some x => match opd T gl x with
    | none => none
    | some v => some (some v)

/-- What an append takes. -/
def wSrc (s : SS) (size : Nat) (v : Value) (K : Nat → List Value → Prop) : Prop :=
  match v with
  | .slice none n _ => K n []
  | .slice (some ⟨b, off, none⟩) n _ => (match lookH s.heap b with
    | some (.cells c _ _ _) => ∃ new, takeN (n * size) (c.drop off) = some new ∧ K n new
    | _ => False)
  | .string ⟨⟨l⟩⟩ => ∀ new : List Value, new = bytesV l → K l.length new
  | _ => False

/-- What a copy takes. -/
def wSrcN (s : SS) (size dl : Nat) (v : Value) (K : Nat → List Value → Prop) : Prop :=
  match v with
  | .slice none n _ => K (min n dl) []
  | .slice (some ⟨b, off, none⟩) n _ => (match lookH s.heap b with
    | some (.cells c _ _ _) => ∃ new, takeN (min n dl * size) (c.drop off) = some new ∧ K (min n dl) new
    | _ => False)
  | .string ⟨⟨l⟩⟩ => ∀ new : List Value, new = bytesV (l.take (min l.length dl)) → K (min l.length dl) new
  | _ => False

/-- What an append does. -/
def wAppB (s : SS) (e : TypeId) (size bytes : Nat) (base : Option Addr) (len cap n : Nat) (new : List Value) (K : RR → Prop) : Prop :=
      ((len + n) * bytes ≤ 140737488355328 ∧ len + n ≤ 4294967296 ∧ new.length = n * size ∧ all1 new = true) ∧
      (match base with
      | none => (len + n ≤ cap → n = 0 ∧ K (.val (.slice none len cap))) ∧ (cap < len + n → len = 0 ∧ ∀ m, m = n → K (.eff (.slice (some ⟨s.next, 0, none⟩) m 0) { s with heap := (s.next, some (.cells new e true false)) :: s.heap, next := s.next + 1 }))
      | some ⟨b, off, none⟩ => (match lookH s.heap b with
        | some (.cells c t false ro) =>
          (len + n ≤ cap → ro = false ∧ ∃ c', setRow c (off + len * size) new = some c' ∧ ∀ m, m = len + n → K (.eff (.slice (some ⟨b, off, none⟩) m cap) { s with heap := (b, some (.cells c' t false false)) :: s.heap })) ∧
          (cap < len + n → ∃ old, takeN (len * size) (c.drop off) = some old ∧ ∀ m l, m = len + n → l = old ++ new → K (.eff (.slice (some ⟨s.next, 0, none⟩) m 0) { s with heap := (s.next, some (.cells l e true false)) :: s.heap, next := s.next + 1 }))
        | some (.cells c t true ro) => (n = 0 → K (.val (.slice (some ⟨b, off, none⟩) len cap))) ∧
          (0 < n → ro = false ∧ t = e ∧ ∃ old, takeN (len * size) (c.drop off) = some old ∧ ∀ m l, m = len + n → l = old ++ new → K (.eff (.slice (some ⟨s.next, 0, none⟩) m 0) { s with heap := (s.next, some (.cells l e true false)) :: (b, none) :: s.heap, next := s.next + 1 }))
        | _ => False)
      | _ => False)

def wN (P : Program) (m : MOp) (T : TL) (s : SS) (K : RR → Prop) : Prop :=
  match m with
  | .mov x => (match opd T s.gl x with
    | some v => K (.val v)
    | none => False)
  | .pick c a b => (match opd T s.gl c with
    | some (.bool true) => (match opd T s.gl a with
      | some v => K (.val v)
      | none => False)
    | some (.bool false) => (match opd T s.gl b with
      | some v => K (.val v)
      | none => False)
    | _ => False)
  | .bin op e x y => (match opd T s.gl x, opd T s.gl y with
    | some a, some b => wBin op e a b fun v => K (.val v)
    | _, _ => False)
  | .shlC n x => (match opd T s.gl x with
    | some (.int k a) => ∀ z, z = k.wrap (a * 2 ^ n) → K (.val (.int k z))
    | _ => False)
  | .shrC n x => (match opd T s.gl x with
    | some (.int k a) => (match Nat.ble n k.bits with
      | true => ∀ z, z = a.fdiv (2 ^ n) → K (.val (.int k z))
      | false => False)
    | _ => False)
  | .un op x => (match opd T s.gl x with
    | some a => wUn op a fun v => K (.val v)
    | none => False)
  | .toInt k x => (match opd T s.gl x with
    | some (.int _ n) => ∀ z, z = k.wrap n → K (.val (.int k z))
    | _ => False)
  | .ldI k x => (match opd T s.gl x with
    | some (.pointer (some ⟨b, off, none⟩)) => (match lookH s.heap b with
      | some (.cells c _ _ _) => ∃ n, c[off]? = some (.int k n) ∧ K (.val (.int k n))
      | _ => False)
    | _ => False)
  | .ldB x => (match opd T s.gl x with
    | some (.pointer (some ⟨b, off, none⟩)) => (match lookH s.heap b with
      | some (.cells c _ _ _) => ∃ d, c[off]? = some (.bool d) ∧ K (.val (.bool d))
      | _ => False)
    | _ => False)
  | .ldS x => (match opd T s.gl x with
    | some (.pointer (some ⟨b, off, none⟩)) => (match lookH s.heap b with
      | some (.cells c _ _ _) => ∃ l, c[off]? = some (.string ⟨⟨l⟩⟩) ∧ K (.val (.string ⟨⟨l⟩⟩))
      | _ => False)
    | _ => False)
  | .ld1 x => (match opd T s.gl x with
    | some (.pointer (some ⟨b, off, none⟩)) => (match lookH s.heap b with
      | some (.cells c _ _ _) => ∃ v, c[off]? = some v ∧ K (.val v)
      | _ => False)
    | _ => False)
  | .ldN n x => (match opd T s.gl x with
    | some (.pointer (some ⟨b, off, none⟩)) => (match lookH s.heap b with
      | some (.cells c _ _ _) => ∃ l, takeN n (c.drop off) = some l ∧ K (.val (.agg ⟨l⟩))
      | _ => False)
    | _ => False)
  | .st n x y => (match opd T s.gl x, opd T s.gl y with
    | some (.pointer (some ⟨b, off, none⟩)), some v => (match lookH s.heap b with
      | some (.cells c e g false) => (match Nat.beq (flat v).length n && all1 (flat v) with
        | true => ∃ c', setRow c off (flat v) = some c' ∧ K (.eff (.tuple #[]) { s with heap := (b, some (.cells c' e g false)) :: s.heap })
        | false => False)
      | _ => False)
    | _, _ => False)
  | .faddr f x => (match opd T s.gl x with
    | some (.pointer (some ⟨b, off, none⟩)) => K (.val (.pointer (some ⟨b, off + f, none⟩)))
    | _ => False)
  | .fld1 f x => (match opd T s.gl x with
    | some (.agg ⟨cs⟩) => (match cs[f]? with
      | some v => K (.val v)
      | none => False)
    | _ => False)
  | .fldN f n x => (match opd T s.gl x with
    | some (.agg ⟨cs⟩) => (match takeN n (cs.drop f) with
      | some l => K (.val (.agg ⟨l⟩))
      | none => False)
    | _ => False)
  | .ixa z x i => (match opd T s.gl x, opd T s.gl i with
    | some (.slice (some ⟨b, off, none⟩) len _), some iv => wIdx iv len fun m => ∀ o, o = off + m * z → K (.val (.pointer (some ⟨b, o, none⟩)))
    | _, _ => False)
  | .ixaA len z x i => (match opd T s.gl x, opd T s.gl i with
    | some (.pointer (some ⟨b, off, none⟩)), some iv => wIdx iv len fun m => ∀ o, o = off + m * z → K (.val (.pointer (some ⟨b, o, none⟩)))
    | _, _ => False)
  | .ixS x i => (match opd T s.gl x, opd T s.gl i with
    | some (.string ⟨⟨l⟩⟩), some iv => wIdx iv l.length fun m => ∃ c, l[m]? = some c ∧ K (.val (.int .u8 c.toNat))
    | _, _ => False)
  | .ext x i => (match opd T s.gl x with
    | some (.tuple ⟨vs⟩) => (match vs[i]? with
      | some v => K (.val v)
      | none => False)
    | _ => False)
  | .lenS x => (match opd T s.gl x with
    | some (.string ⟨⟨l⟩⟩) => ∀ n : Int, n = l.length → K (.val (.int .i64 n))
    | _ => False)
  | .lenL x => (match opd T s.gl x with
    | some (.slice _ n _) => K (.val (.int .i64 n))
    | _ => False)
  | .alloc e z => K (.new (.cells z e false false) fun id => .pointer (some ⟨id, 0, none⟩))
  | .box e x => (match opd T s.gl x with
    | some v => K (.new (.cells (flat v) e false false) fun id => .pointer (some ⟨id, 0, none⟩))
    | none => False)
  | .agg z ps => (match opdPs T s.gl ps with
    | some l => (match layM z l with
      | some c => K (.val (.agg ⟨c⟩))
      | none => False)
    | none => False)
  | .mkS e len z ps => (match opdPs T s.gl ps with
    | some l => (match layM z l with
      | some c => K (.new (.cells c e false false) fun id => .slice (some ⟨id, 0, none⟩) len len)
      | none => False)
    | none => False)
  | .slS x lo hi => (match opd T s.gl x, opdO T s.gl lo, opdO T s.gl hi with
    | some (.string ⟨⟨l⟩⟩), some lo, some hi => wBnd hi l.length l.length fun h => wBnd lo 0 h fun a => ∀ r, r = (l.drop a).take (h - a) → K (.val (.string ⟨⟨r⟩⟩))
    | _, _, _ => False)
  | .slL z x lo hi => (match opd T s.gl x, opdO T s.gl lo, opdO T s.gl hi with
    | some (.slice none len cap), some lo, some hi => wBnd hi len cap fun h => wBnd lo 0 h fun a => K (.val (.slice none (h - a) (cap - a)))
    | some (.slice (some ⟨b, off, none⟩) len cap), some lo, some hi => (match lookH s.heap b with
      | some (.cells _ t g _) => (match g with
        | true => sizeB P t = some z ∧ wBnd hi len len fun h => wBnd lo 0 h fun a => ∀ o n, o = off + a * z → n = h - a → K (.val (.slice (some ⟨b, o, none⟩) n 0))
        | false => wBnd hi len cap fun h => wBnd lo 0 h fun a => ∀ o n d, o = (if cap = a then off else off + a * z) → n = h - a → d = cap - a → K (.val (.slice (some ⟨b, o, none⟩) n d)))
      | _ => False)
    | _, _, _ => False)
  | .slA n z x lo hi => (match opd T s.gl x, opdO T s.gl lo, opdO T s.gl hi with
    | some (.pointer (some ⟨b, off, none⟩)), some lo, some hi => (match lookH s.heap b with
      | some (.cells _ _ false _) => wBnd hi n n fun h => wBnd lo 0 h fun a => ∀ o m d, o = (if n = a then off else off + a * z) → m = h - a → d = n - a → K (.val (.slice (some ⟨b, o, none⟩) m d))
      | _ => False)
    | _, _, _ => False)
  | .toStr x => (match opd T s.gl x with
    | some (.slice none _ _) => K (.val (.string ⟨⟨[]⟩⟩))
    | some (.slice (some ⟨b, off, none⟩) len _) => (match lookH s.heap b with
      | some (.cells c _ _ _) => ∃ l, takeN len (c.drop off) = some (bytesV l) ∧ K (.val (.string ⟨⟨l⟩⟩))
      | _ => False)
    | _ => False)
  | .toBytes e x => (match opd T s.gl x with
    | some (.string ⟨⟨l⟩⟩) => l.length ≤ 1073741824 ∧ K (.new (.cells (bytesV l) e true false) fun id => .slice (some ⟨id, 0, none⟩) l.length 0)
    | _ => False)
  | .app e size bytes x y => (match opd T s.gl x, opd T s.gl y with
    | some (.slice base len cap), some v => wSrc s size v fun n new => wAppB s e size bytes base len cap n new K
    | _, _ => False)
  | .appZ e size bytes z x y => (match opd T s.gl x, opd T s.gl y with
    | some (.slice base len cap), some (.int _ k) => (0 ≤ k ∧ k ≤ 1073741824) ∧ ∀ n : Nat, (n : Int) = k → ∀ new, new = repeatL n z → wAppB s e size bytes base len cap n new K
    | _, _ => False)
  | .cpy size x y => (match opd T s.gl x, opd T s.gl y with
    | some (.slice base dl _), some v => wSrcN s size dl v fun n new => (n = 0 → K (.val (.int .i64 n))) ∧ (0 < n → all1 new = true ∧ match base with
      | some ⟨b, off, none⟩ => (match lookH s.heap b with
        | some (.cells c e g false) => ∃ c', setRow c off new = some c' ∧ K (.eff (.int .i64 n) { s with heap := (b, some (.cells c' e g false)) :: s.heap })
        | _ => False)
      | _ => False)
    | _, _ => False)
  | .nilC x => (match opd T s.gl x with
    | some (.pointer (some a)) => K (.val (.pointer (some a)))
    | _ => False)
  | .mm mx x y => (match opd T s.gl x, opd T s.gl y with
    | some (.int k a), some (.int _ b) => (match mx with
      | true => ∀ z, z = max a b → K (.val (.int k z))
      | false => ∀ z, z = min a b → K (.val (.int k z)))
    | _, _ => False)
  | .mkN e bytes z l c => (match opd T s.gl l, opd T s.gl c with
    | some (.int _ l), some (.int _ c) => (0 ≤ l ∧ l ≤ c ∧ bytes * c ≤ 140737488355328 ∧ c ≤ 1073741824) ∧
      ∀ m n : Nat, (m : Int) = l → (n : Int) = c → ∀ cs, cs = repeatL n z → K (.new (.cells cs e false false) fun id => .slice (some ⟨id, 0, none⟩) m n)
    | _, _ => False)
  | .mark x => (match opd T s.gl x with
    | some (.slice (some ⟨b, off, none⟩) l c) => (match lookH s.heap b with
      | some (.cells _ _ false false) => K (.eff (.slice (some ⟨b, off, none⟩) l c) s)
      | _ => False)
    | _ => False)
  | .call f args => (match opds T s.gl args with
    | some l => K (.call f l)
    | none => False)
  | .gen op => ∃ r : RR, aOp P (toTr T) s.st op = some r.toN ∧ K r
  | .raw _ => False

/-- By an operation's guard. -/
def wG (T : TL) (g : Option (Tmp × Bool)) (run skip : Prop) : Prop :=
  match g with
  | none => run
  | some (d, b) => match look T d with
    | some (.bool c) => (match c, b with
      | true, true => run
      | false, false => run
      | true, false => skip
      | false, true => skip)
    | some (.tuple _) => skip
    | _ => False

def wSeq (P : Program) : List MOper → TL → SS → (TL → SS → Prop) → Prop
  | [], T, s, Q => Q T s
  | o :: l, T, s, Q => wG T o.grd
    (match o.op with
    | .raw op => OpW P op T s fun v s' => Box (wSeq P l (putL T o.dst v) s' Q)
    | m => wN P m T s fun r => match r with
      | .val v => Box (wSeq P l (putL T o.dst v) s Q)
      | .new b v => Box (wSeq P l (putL T o.dst (v s.next)) { s with heap := (s.next, some b) :: s.heap, next := s.next + 1 } Q)
      | .eff v s' => Box (wSeq P l (putL T o.dst v) s' Q)
      | .call f args => CallW P f args s fun v s' => Box (wSeq P l (putL T o.dst v) s' Q))
    (Box (wSeq P l (putL T o.dst (.tuple #[])) s Q))

def Keep (s s' : SS) : Prop := s'.gl = s.gl ∧ ∀ id b, lookH s.heap id = some b → lookH s'.heap id = some b

/-- What waits: what was read, and how; a block that was laid. -/
inductive PRec where
  | rd (hi : Nat) (m : MOp) (T : TL) (v : Value)
  | nw (hi id : Nat) (b : ABlk)

/-- What waits longer than to the loud one k is told the same at a state. -/
def Agn (P : Program) (k : Nat) (s : SS) : List PRec → Prop
  | [] => True
  | .rd hi m T v :: r => (k < hi → wN P m T s fun x => x = .val v) ∧ Agn P k s r
  | .nw hi id b :: r => (k < hi → lookH s.heap id = some b) ∧ Agn P k s r

def wKeep (P : Program) (chk : Bool) (k : Nat) (pd : List PRec) (s s' : SS) : Prop :=
  match chk with
  | true => Keep s s' ∨ Agn P k s' pd
  | false => True

def pdV (chk : Bool) (hi : Nat) (m : MOp) (T : TL) (v : Value) (pd : List PRec) : List PRec :=
  match chk with
  | true => .rd hi m T v :: pd
  | false => pd

def pdN (chk : Bool) (hi id : Nat) (b : ABlk) (pd : List PRec) : List PRec :=
  match chk with
  | true => .nw hi id b :: pd
  | false => pd

def wRow (P : Program) : List ROp → List PRec → TL → SS → (TL → SS → Prop) → Prop
  | [], _, T, s, Q => Q T s
  | (o, loud, chk, k) :: l, pd, T, s, Q => wG T o.grd
    (wN P o.op T s fun r => match r with
      | .val v => Box (wRow P l (pdV chk k o.op T v pd) (putL T o.dst v) s Q)
      | .new b v => (match lookH s.heap s.next with
        | none => Box (wRow P l (pdN chk k s.next b pd) (putL T o.dst (v s.next)) { s with heap := (s.next, some b) :: s.heap, next := s.next + 1 } Q)
        | some _ => False)
      | .eff v s' => wKeep P chk k pd s s' ∧ Box (wRow P l pd (putL T o.dst v) s' Q)
      | .call f args => CallW P f args s fun v s' => wKeep P chk k pd s s' ∧ Box (wRow P l pd (putL T o.dst v) s' Q))
    (Box (wRow P l pd (putL T o.dst (.tuple #[])) s Q))

def MW (P : Program) (nt k : Nat) (m : MC) (T : TL) (s : SS) (Q : AExit → TL → SS → Prop) : Prop :=
  ∀ c, comp P nt c = some m → W P nt k c T s Q

def wp (P : Program) (nt k : Nat) : MC → TL → SS → (AExit → TL → SS → Prop) → Prop
  | .skip, T, s, Q => Q .normal T s
  | .reg ops, T, s, Q => wSeq P ops T s fun T s => Q .normal T s
  | .row ops, T, s, Q => wRow P ops [] T s fun T s => Q .normal T s
  | .seq a b, T, s, Q => wp P nt k a T s fun ex T s => match ex with
    | .normal => Box (wp P nt k b T s Q)
    | .exit id => Q (.exit id) T s
    | .ret => Q .ret T s
  | .cond c a b, T, s, Q => (match opd T s.gl c with
    | some (.bool true) => Box (wp P nt k a T s Q)
    | some (.bool false) => Box (wp P nt k b T s Q)
    | _ => False)
  | .block id c, T, s, Q => wp P nt k c T s fun ex T s => match ex with
    | .exit i => (match Nat.beq i id with
      | true => Q .normal T s
      | false => Q (.exit i) T s)
    | .normal => Q .normal T s
    | .ret => Q .ret T s
  | .loop c, T, s, Q => MW P nt k (.loop c) T s Q
  | .exit id, T, s, Q => Q (.exit id) T s
  | .ret, T, s, Q => Q .ret T s

/-- A function's results. -/
def resS (P : Program) (T : TL) (s : SS) : List ResultVar → Option (List Value)
  | [] => some []
  | .tmp t :: r => (match look T t, resS P T s r with
    | some v, some l => some (v :: l)
    | _, _ => none)
  | .cell a t :: r => (match aOp P (toTr T) s.st (.load t (.tmp a)), resS P T s r with
    | some (.val v), some l => some (v :: l)
    | _, _ => none)

def wF (P : Program) (m : MF) (args : List Value) (s : SS) (K : Value → SS → Prop) : Prop :=
  Box (wp P m.nt s.next m.body (argsL args 0) s fun ex T s => match ex with
    | .exit _ => False
    | .normal | .ret => (match resS P T s m.res with
      | some l => K (one l) s
      | none => False))

end Go.Vf
