import Derived.Orders
import Derived.Below
import Derived.KernelRfl
/- The machine of plain blocks: what it is. (Its meaning: EngB and on.) -/
namespace Go.Vf

inductive Tr (α : Type) where
  | nil
  | node (v : Option α) (l r : Tr α)

theorem beqF {a b : Nat} (h : a ≠ b) : Nat.beq a b = false := by rw [← Bool.not_eq_true, Nat.beq_eq]; exact h

namespace Tr
variable {α : Type}
def get : Tr α → Nat → Option α
  | .nil, _ => none
  | .node v l r, k => bif Nat.beq k 0 then v else bif Nat.beq (k % 2) 1 then l.get (k / 2) else r.get (k / 2 - 1)

def set : Nat → Tr α → Nat → Option α → Tr α
  | 0, t, _, _ => t
  | d + 1, .nil, k, x => bif Nat.beq k 0 then .node x .nil .nil else bif Nat.beq (k % 2) 1 then .node none (set d .nil (k / 2) x) .nil else .node none .nil (set d .nil (k / 2 - 1) x)
  | d + 1, .node v l r, k, x => bif Nat.beq k 0 then .node x l r else bif Nat.beq (k % 2) 1 then .node v (set d l (k / 2) x) r else .node v l (set d r (k / 2 - 1) x)

def put (t : Tr α) (k : Nat) (x : α) : Tr α := set (k + 1) t k (some x)
def del (t : Tr α) (k : Nat) : Tr α := set (k + 1) t k none

theorem get_nil (k : Nat) : (Tr.nil : Tr α).get k = none := rfl

theorem get_set (d : Nat) : ∀ (t : Tr α) (k j : Nat) (x : Option α), k < d → (set d t k x).get j = if j = k then x else t.get j := by
  induction d with
  | zero => intro t k j x h; omega
  | succ d ih =>
    intro t k j x h
    have key : ∀ (l r : Tr α) (v : Option α), (bif Nat.beq k 0 then Tr.node x l r else bif Nat.beq (k % 2) 1 then .node v (set d l (k / 2) x) r else .node v l (set d r (k / 2 - 1) x)).get j = if j = k then x else (Tr.node v l r).get j := by
      intro l r v
      by_cases hk : k = 0
      · subst hk
        by_cases hj : j = 0
        · subst hj; simp [get]
        · simp [get, hj, beqF hj]
      · have hk' : Nat.beq k 0 = false := beqF hk
        by_cases hm : k % 2 = 1
        · simp only [hk', hm, cond_false]
          simp only [show Nat.beq 1 1 = true from rfl, cond_true, get]
          by_cases hj : j = 0
          · subst hj; simp [show (0 : Nat) ≠ k from fun e => hk e.symm]
          · have hj' : Nat.beq j 0 = false := beqF hj
            simp only [hj', cond_false]
            by_cases hjm : j % 2 = 1
            · simp only [hjm, show Nat.beq 1 1 = true from rfl, cond_true]
              rw [ih _ _ _ _ (by omega)]
              by_cases e : j = k
              · subst e; simp
              · simp [e, show ¬ j / 2 = k / 2 from by omega]
            · have : Nat.beq (j % 2) 1 = false := beqF hjm
              simp only [this, cond_false]
              simp [show j ≠ k from fun e => hjm (e ▸ hm)]
        · have hm' : Nat.beq (k % 2) 1 = false := beqF hm
          simp only [hk', hm', cond_false, get]
          by_cases hj : j = 0
          · subst hj; simp [show (0 : Nat) ≠ k from fun e => hk e.symm]
          · have hj' : Nat.beq j 0 = false := beqF hj
            simp only [hj', cond_false]
            by_cases hjm : j % 2 = 1
            · simp only [hjm, show Nat.beq 1 1 = true from rfl, cond_true]
              simp [show j ≠ k from fun e => hm (e ▸ hjm)]
            · have : Nat.beq (j % 2) 1 = false := beqF hjm
              simp only [this, cond_false]
              rw [ih _ _ _ _ (by omega)]
              by_cases e : j = k
              · subst e; simp
              · simp [e, show ¬ j / 2 - 1 = k / 2 - 1 from by omega]
    cases t with
    | nil =>
      have := key .nil .nil none
      simp only [set]
      rw [this]
      simp [get]
    | node v l r => exact key l r v

@[simp] theorem get_put (t : Tr α) (k j : Nat) (x : α) : (t.put k x).get j = if j = k then some x else t.get j := get_set _ _ _ _ _ (Nat.lt_succ_self k)
@[simp] theorem get_del (t : Tr α) (k j : Nat) : (t.del k).get j = if j = k then none else t.get j := get_set _ _ _ _ _ (Nat.lt_succ_self k)
end Tr

/-- The record of a range over a function: as the world's, but for whose it is and whose deferred calls it keeps; its slots as the machine has them. -/
structure ALoop where
  state : LoopState
  pending : Option Code
  nt : Nat
  tmps : Tr Value
  params : Array Tmp
  assign : Code
  body : Code

/-- A block: a row of cells (grow: how much room it has is open; ro: nobody writes it), or another thing. -/
inductive ABlk where
  | cells (c : List Value) (elem : TypeId) (grow ro : Bool)
  | map (es : List MapEntry) (clock : Nat)
  | siter (s : ByteArray) (pos : Nat)
  | miter (m since : Nat) (seen : List Nat) (stepped : Nat)
  | loop (r : ALoop)

structure ASt where
  heap : Tr ABlk
  next : Nat
  gl : Nat

abbrev ATmp := Tr Value

def isYield : Fn → Bool
  | .yield _ => true
  | _ => false

def plain1 : Value → Bool
  | .bool _ | .int _ _ | .float _ _ | .complex _ _ _ | .string _ | .pointer none | .slice none _ _ | .map none | .chan none | .nilFunc | .nilIface => true
  | .func fn a b => !isYield fn && a.isEmpty && b.isEmpty
  | _ => false

def plainV : Value → Bool
  | .agg cs => cs.toList.all plain1
  | .tuple cs => cs.toList.all plain1
  | .iface _ v => plain1 v
  | v => plain1 v

def operand (T : ATmp) (s : ASt) : Operand → Option Value
  | .tmp t => T.get t
  | .const v => bif plainV v then some v else none
  | .global g => bif Nat.blt g s.gl then some (.pointer (some ⟨g, 0, none⟩)) else none
  | .func f => some (.func (.func f) #[] #[])

def operands (T : ATmp) (s : ASt) : List Operand → Option (List Value)
  | [] => some []
  | x :: r => match operand T s x with
    | none => none
    | some v => match operands T s r with
      | none => none
      | some vs => some (v :: vs)

def aggB (P : Program) (t : TypeId) : Option Bool :=
  match P.underlying t with
  | none => none
  | some (.struct _) => some true
  | some (.array _ _) => some true
  | some _ => some false

def sizeB (P : Program) (t : TypeId) : Option Nat := (P.info? t).map (·.size)

/-- Cells of a block. -/
def ABlk.cellsOf : ABlk → Option (List Value)
  | .cells c _ _ _ => some c
  | _ => none

def takeN : Nat → List Value → Option (List Value)
  | 0, _ => some []
  | n + 1, v :: r => match takeN n r with
    | none => none
    | some l => some (v :: l)
  | _ + 1, [] => none

def loadRow (s : ASt) (a : Addr) (n : Nat) : Option (List Value) :=
  bif a.spot.isSome then none else
  match s.heap.get a.block with
  | some (.cells c _ _ _) => takeN n (c.drop a.off)
  | _ => none

def loadCell (s : ASt) (a : Addr) : Option Value :=
  bif a.spot.isSome then none else
  match s.heap.get a.block with
  | some (.cells c _ _ _) => c[a.off]?
  | _ => none

def setRow : List Value → Nat → List Value → Option (List Value)
  | c, 0, [] => some c
  | [], _, _ => none
  | _ :: c, 0, x :: xs => match setRow c 0 xs with
    | none => none
    | some r => some (x :: r)
  | y :: c, o + 1, xs => match setRow c o xs with
    | none => none
    | some r => some (y :: r)

def storeRow (s : ASt) (a : Addr) (vs : List Value) : Option ASt :=
  bif a.spot.isSome then none else
  match s.heap.get a.block with
  | some (.cells c e g false) => match setRow c a.off vs with
    | none => none
    | some c' => some { s with heap := s.heap.put a.block (.cells c' e g false) }
  | _ => none

/-- What an operation comes to. -/
inductive ANext where
  | val (v : Value)
  | new (b : ABlk) (v : Nat → Value)
  | eff (v : Value) (s : ASt)
  | enter (f : FuncId) (args : List Value)

def flat (v : Value) : List Value := v.cells.toList

def all1 : List Value → Bool
  | [] => true
  | .agg _ :: _ => false
  | .tuple _ :: _ => false
  | _ :: r => all1 r

def intBin (op : BinOp) (k : IntKind) (a b : Int) : Option Value :=
  match op with
  | .add => some (.int k (k.wrap (a + b)))
  | .sub => some (.int k (k.wrap (a - b)))
  | .mul => some (.int k (k.wrap (a * b)))
  | .quo => if b = 0 then none else some (.int k (k.wrap (a.tdiv b)))
  | .rem => if b = 0 then none else some (.int k (a.tmod b))
  | .and => some (.int k (k.wrap (BitVec.ofInt k.bits a &&& BitVec.ofInt k.bits b).toNat))
  | .or => some (.int k (k.wrap (BitVec.ofInt k.bits a ||| BitVec.ofInt k.bits b).toNat))
  | .xor => some (.int k (k.wrap (BitVec.ofInt k.bits a ^^^ BitVec.ofInt k.bits b).toNat))
  | .andNot => some (.int k (k.wrap (BitVec.ofInt k.bits a &&& ~~~(BitVec.ofInt k.bits b)).toNat))
  | .eql => some (.bool (a == b))
  | .neq => some (.bool (a != b))
  | .lss => some (.bool (decide (a < b)))
  | .leq => some (.bool (decide (a ≤ b)))
  | .gtr => some (.bool (decide (a > b)))
  | .geq => some (.bool (decide (a ≥ b)))
  | _ => none

def shiftBin (op : BinOp) (k : IntKind) (a b : Int) : Option Value :=
  if b < 0 then none else
  match op with
  | .shl => some (.int k (k.wrap (a * 2 ^ (min b.toNat k.bits))))
  | .shr => some (.int k (a.fdiv (2 ^ (min b.toNat k.bits))))
  | _ => none

def beqL : List UInt8 → List UInt8 → Bool
  | [], [] => true
  | a :: x, b :: y => bif Nat.beq a.toNat b.toNat then beqL x y else false
  | _, _ => false

def lssL : List UInt8 → List UInt8 → Bool
  | _, [] => false
  | [], _ :: _ => true
  | a :: x, b :: y => bif Nat.blt a.toNat b.toNat then true else bif Nat.beq a.toNat b.toNat then lssL x y else false

def strBin (op : BinOp) (x y : ByteArray) : Option Value :=
  let a := x.data.toList
  let b := y.data.toList
  match op with
  | .add => bif Nat.ble (a.length + b.length) 4294967296 then some (.string ⟨⟨a ++ b⟩⟩) else none
  | .eql => some (.bool (beqL a b))
  | .neq => some (.bool (!(beqL a b)))
  | .lss => some (.bool (lssL a b))
  | .leq => some (.bool (lssL a b || beqL a b))
  | .gtr => some (.bool (!(lssL a b || beqL a b)))
  | .geq => some (.bool (!(lssL a b)))
  | _ => none

/-- Equality of parts, by their own forms. -/
def eqPart : Value → Value → Option Bool
  | .int k a, .int k' b => if k = k' then some (a == b) else none
  | .bool a, .bool b => some (a == b)
  | .string a, .string b => some (beqL a.data.toList b.data.toList)
  | _, _ => none

def eqlOther (P : Program) (t : TypeId) (x y : Value) : Option Bool :=
  match P.underlying t, x, y with
  | some .bool, .bool a, .bool b => some (a == b)
  | some (.pointer _), .pointer none, .pointer b => some b.isNone
  | some (.pointer _), .pointer (some _), .pointer none => some false
  | some (.slice _), .slice none _ _, .slice b _ _ => some b.isNone
  | some (.slice _), .slice (some _) _ _, .slice none _ _ => some false
  | some (.map _ _), .map none, .map b => some b.isNone
  | some (.map _ _), .map (some _), .map none => some false
  | some (.func _ _ _), .nilFunc, .nilFunc => some true
  | some (.func _ _ _), .nilFunc, .func _ _ _ => some false
  | some (.func _ _ _), .func _ _ _, .nilFunc => some false
  | _, _, _ => none

def binV (P : Program) (op : BinOp) (t : TypeId) (x y : Value) : Option Value :=
  match op, x, y with
  | .shl, .int k a, .int _ b => shiftBin .shl k a b
  | .shr, .int k a, .int _ b => shiftBin .shr k a b
  | op, .int k a, .int k' b => if k = k' then intBin op k a b else none
  | op, .string a, .string b => strBin op a b
  | .eql, x, y => (eqlOther P t x y).map .bool
  | .neq, x, y => (eqlOther P t x y).map fun b => .bool (!b)
  | _, _, _ => none

def unV (op : UnOp) (x : Value) : Option Value :=
  match op, x with
  | .neg, .int k n => some (.int k (k.wrap (0 - n)))
  | .xor, .int k n => intBin .xor k (if k.signed then -1 else k.max) n
  | .not, .bool b => some (.bool (!b))
  | _, _ => none

/-- Parts laid into cells. -/
def layAt (place : Nat → Option (Nat × Nat)) : List Value → List (Nat × Value) → Option (List Value)
  | cells, [] => some cells
  | cells, (i, v) :: rest =>
    match place i with
    | none => none
    | some (off, size) =>
      bif Nat.beq (flat v).length size then
        match setRow cells off (flat v) with
        | none => none
        | some c => layAt place c rest
      else none

def partsOf (T : ATmp) (s : ASt) : List (Nat × Operand) → Option (List (Nat × Value))
  | [] => some []
  | (i, x) :: r => match operand T s x with
    | none => none
    | some v => match partsOf T s r with
      | none => none
      | some l => some ((i, v) :: l)

def zeroB (P : Program) (t : TypeId) : Option Value :=
  match P.info? t with
  | some i => match i.zero with
    | some v => bif plainV v then some v else none
    | none => none
  | none => none

def repeatL (n : Nat) (l : List Value) : List Value := Nat.rec [] (fun _ r => l ++ r) n

def partB (P : Program) (t : TypeId) (cs : List Value) (off : Nat) : Option Value :=
  match aggB P t with
  | none => none
  | some true =>
    match sizeB P t with
    | none => none
    | some n => match takeN n (cs.drop off) with
      | none => none
      | some l => some (.agg ⟨l⟩)
  | some false => cs[off]?

def toInt : Value → Option Int
  | .int _ n => some n
  | _ => none

/-- An index that must be below a length. -/
def idx (v : Value) (len : Nat) : Option Nat :=
  match v with
  | .int _ (.ofNat n) => bif Nat.blt n len then some n else none
  | _ => none

def bound (v : Option Value) (dflt most : Nat) : Option Nat :=
  match v with
  | none => some dflt
  | some (.int _ (.ofNat n)) => bif Nat.ble n most then some n else none
  | _ => none

def opt (T : ATmp) (s : ASt) : Option Operand → Option (Option Value)
  | none => some none
  | some x => match operand T s x with
    | none => none
    | some v => some (some v)

def growOf (s : ASt) (a : Addr) : Option (Bool × TypeId) :=
  match s.heap.get a.block with
  | some (.cells _ t g _) => some (g, t)
  | _ => none

def mxOk : Option Value → Option Value → Bool
  | some _, none => false
  | _, _ => true

def sliceV (P : Program) (s : ASt) (t : TypeId) (x : Value) (lo hi mx : Option Value) : Option Value :=
  match P.underlying t, x with
  | some .string, .string b =>
    match mx with
    | some _ => none
    | none =>
      match bound hi b.size b.size with
      | none => none
      | some h => match bound lo 0 h with
        | none => none
        | some l => some (.string ⟨⟨(b.data.toList.drop l).take (h - l)⟩⟩)
  | some (.slice e), .slice none len cap =>
    match sizeB P e with
    | none => none
    | some _ => bif mxOk mx hi then
      match bound mx cap cap with
      | none => none
      | some m => match bound hi len m with
        | none => none
        | some h => match bound lo 0 h with
          | none => none
          | some l => some (.slice none (h - l) (m - l))
      else none
  | some (.slice e), .slice (some a) len cap =>
    match growOf s a, sizeB P e with
    | some (false, _), some n =>
      bif mxOk mx hi then
        match bound mx cap cap with
        | none => none
        | some m => match bound hi len m with
          | none => none
          | some h => match bound lo 0 h with
            | none => none
            | some l => some (.slice (some (bif Nat.beq m l then a else a.add (l * n))) (h - l) (m - l))
      else none
    | some (true, t'), some n =>
      match mx, sizeB P t' with
      | none, some n' =>
        bif Nat.beq n n' then
          match bound hi len len with
          | none => none
          | some h => match bound lo 0 h with
            | none => none
            | some l => some (.slice (some (a.add (l * n))) (h - l) 0)
        else none
      | _, _ => none
    | _, _ => none
  | some (.array n e), .pointer (some a) =>
    match growOf s a, sizeB P e with
    | some (false, _), some z =>
      bif mxOk mx hi then
        match bound mx n n with
        | none => none
        | some m => match bound hi n m with
          | none => none
          | some h => match bound lo 0 h with
            | none => none
            | some l => some (.slice (some (bif Nat.beq m l then a else a.add (l * z))) (h - l) (m - l))
      else none
    | _, _ => none
  | _, _ => none

/-- The cells that an append or a copy takes. -/
def srcCells (s : ASt) (size n : Nat) : Value → Option (List Value)
  | .slice (some a) _ _ => loadRow s a (n * size)
  | .slice none _ _ => some []
  | .string b => some ((b.data.toList.take n).map fun c => .int .u8 c.toNat)
  | _ => none

def srcLen : Value → Option Nat
  | .slice _ n _ => some n
  | .string b => some b.size
  | _ => none

/-- What is appended, and how many. -/
def appended (P : Program) (s : ASt) (size : Nat) (elem : TypeId) (xType : Option TypeId) (x : Value) : Option (List Value × Nat) :=
  match xType with
  | none => none
  | some xt => match P.underlying xt with
    | some (.int _) =>
      match x with
      | .int _ (.ofNat n) =>
        bif Nat.ble n 1073741824 then
          match zeroB P elem with
          | none => none
          | some z => bif Nat.beq (flat z).length size then some (repeatL n (flat z), n) else none
        else none
      | _ => none
    | some _ => match srcLen x with
      | none => none
      | some n => match srcCells s size n x with
        | none => none
        | some l => some (l, n)
    | none => none

def appendV (P : Program) (s : ASt) (tys : List TypeId) (args : List Value) : Option ANext :=
  match tys, args with
  | sType :: xt :: _, sl :: x :: _ =>
    match P.underlying sType, sl with
    | some (.slice elem), .slice base len cap =>
      match P.info? elem, zeroB P elem with
      | some i, some z =>
        match appended P s i.size elem (some xt) x with
        | none => none
        | some (new, n) =>
          bif Nat.ble ((len + n) * i.bytes) 140737488355328 && Nat.ble (len + n) 4294967296 && Nat.beq new.length (n * i.size) && Nat.beq (flat z).length i.size && all1 new then
            match base with
            | none => bif Nat.ble (len + n) cap then (bif Nat.beq n 0 then some (.val (.slice none (len + n) cap)) else none)
              else bif Nat.beq len 0 then some (.eff (.slice (some ⟨s.next, 0, none⟩) (len + n) 0) { s with heap := s.heap.put s.next (.cells new elem true false), next := s.next + 1 }) else none
            | some a =>
              match s.heap.get a.block with
              | some (.cells _ e g ro) =>
                match g with
                | false =>
                  bif Nat.ble (len + n) cap then
                    match storeRow s (a.add (len * i.size)) new with
                    | none => none
                    | some s' => some (.eff (.slice (some a) (len + n) cap) s')
                  else match loadRow s a (len * i.size) with
                    | none => none
                    | some old => some (.eff (.slice (some ⟨s.next, 0, none⟩) (len + n) 0) { s with heap := s.heap.put s.next (.cells (old ++ new) elem true false), next := s.next + 1 })
                | true =>
                  bif Nat.beq n 0 then some (.val (.slice (some a) len cap)) else
                  match loadRow s a (len * i.size) with
                  | none => none
                  | some old => bif ro || !(Nat.beq e elem) then none else some (.eff (.slice (some ⟨s.next, 0, none⟩) (len + n) 0) { s with heap := (s.heap.del a.block).put s.next (.cells (old ++ new) elem true false), next := s.next + 1 })
              | _ => none
          else none
      | _, _ => none
    | _, _ => none
  | _, _ => none

def copyV (P : Program) (s : ASt) (tys : List TypeId) (args : List Value) : Option ANext :=
  match tys, args with
  | dType :: _, dst :: src :: _ =>
    match P.underlying dType, dst, srcLen src with
    | some (.slice elem), .slice base dLen _, some sLen =>
      match sizeB P elem with
      | none => none
      | some size =>
        let n := Nat.min sLen dLen
        match srcCells s size n src with
        | none => none
        | some l => match base with
          | none => bif Nat.beq n 0 then some (.val (.int .i64 n)) else none
          | some a => bif Nat.beq n 0 then some (.val (.int .i64 n)) else bif all1 l then match storeRow s a l with
            | none => none
            | some s' => some (.eff (.int .i64 n) s')
            else none
    | _, _, _ => none
  | _, _ => none

def lenV (P : Program) (s : ASt) (tys : List TypeId) (args : List Value) : Option Value :=
  match tys, args with
  | t :: _, x :: _ =>
    match P.underlying t, x with
    | some .string, .string b => some (.int .i64 b.size)
    | some (.array n _), _ => some (.int .i64 n)
    | some (.slice _), .slice _ n _ => some (.int .i64 n)
    | some (.map _ _), .map none => some (.int .i64 0)
    | some (.map _ _), .map (some r) => match s.heap.get r with
      | some (.map es _) => some (.int .i64 es.length)
      | _ => none
    | some (.pointer arr), _ => match P.underlying arr with
      | some (.array n _) => some (.int .i64 n)
      | _ => none
    | _, _ => none
  | _, _ => none

def capV (P : Program) (s : ASt) (tys : List TypeId) (args : List Value) : Option Value :=
  match tys, args with
  | t :: _, x :: _ =>
    match P.underlying t, x with
    | some (.array n _), _ => some (.int .i64 n)
    | some (.slice _), .slice none _ n => some (.int .i64 n)
    | some (.slice _), .slice (some a) _ n => match growOf s a with
      | some (false, _) => some (.int .i64 n)
      | _ => none
    | _, _ => none
  | _, _ => none

def max2V (mx : Bool) : Value → Value → Option Value
  | .int k x, .int _ y => some (.int k (bif mx then (if y > x then y else x) else (if y < x then y else x)))
  | _, _ => none

def foldV (mx : Bool) : Value → List Value → Option Value
  | x, [] => some x
  | x, y :: r => match max2V mx x y with
    | none => none
    | some z => foldV mx z r

def bytesOf : List Value → Option (List UInt8)
  | [] => some []
  | .int .u8 n :: r => match bytesOf r with
    | none => none
    | some l => some (UInt8.ofNat n.toNat :: l)
  | _ :: _ => none

def convertV (P : Program) (s : ASt) (src dst : TypeId) (x : Value) : Option ANext :=
  match P.underlying src, P.underlying dst, x with
  | some _, some (.int k), .int _ n => some (.val (.int k (k.wrap n)))
  | some .string, some .string, .string b => some (.val (.string b))
  | some .string, some (.slice e), .string b =>
    match P.underlying e with
    | some (.int .u8) => bif Nat.ble b.size 1073741824 then match P.info? e with
      | none => none
      | some i => bif Nat.beq i.size 1 then some (.new (.cells (b.data.toList.map fun c => .int .u8 c.toNat) e true false) fun id => .slice (some ⟨id, 0, none⟩) b.size 0) else none
      else none
    | _ => none
  | some (.slice e), some .string, .slice none _ _ =>
    match P.underlying e with
    | some (.int .u8) => some (.val (.string ⟨⟨[]⟩⟩))
    | _ => none
  | some (.slice e), some .string, .slice (some a) len _ =>
    match P.underlying e with
    | some (.int .u8) => match loadRow s a len with
      | none => none
      | some l => match bytesOf l with
        | none => none
        | some b => some (.val (.string ⟨⟨b⟩⟩))
    | _ => none
  | some (.slice e), some (.slice _), .slice (some a) len c =>
    match P.underlying e with
    | some (.int .u8) => bif Nat.beq src dst then (match s.heap.get a.block with
      | some (.cells _ _ false false) => some (.eff (.slice (some a) len c) s)
      | _ => none) else none
    | _ => none
  | _, _, _ => none

def callV (P : Program) (f : Value) (args : List Value) : Option ANext :=
  match f with
  | .func (.func g) first captured =>
    match P.funcs[g]? with
    | some fn => bif fn.body.isSome then some (.enter g (first.toList ++ args ++ captured.toList)) else none
    | none => none
  | _ => none

def aOp (P : Program) (T : ATmp) (s : ASt) (o : Op) : Option ANext :=
  match o with
  | .move x | .assign x => (operand T s x).map .val
  | .pick c a b => match operand T s c with
    | some (.bool true) => (operand T s a).map .val
    | some (.bool false) => (operand T s b).map .val
    | _ => none
  | .alloc elem => match zeroB P elem with
    | none => none
    | some z => some (.new (.cells (flat z) elem false false) fun id => .pointer (some ⟨id, 0, none⟩))
  | .box elem x => match operand T s x, P.info? elem with
    | some v, some _ => some (.new (.cells (flat v) elem false false) fun id => .pointer (some ⟨id, 0, none⟩))
    | _, _ => none
  | .build t parts =>
    match zeroB P t, partsOf T s parts.toList, P.underlying t with
    | some z, some ps, some (.struct fields) =>
      bif !(fields.toList.all fun f => (sizeB P f.type).isSome) then none else
      (match layAt (fun i => match fields[i]? with | none => none | some f => match sizeB P f.type with | none => none | some n => some (f.offset, n)) (flat z) ps with
       | none => none
       | some c => some (.val (.agg ⟨c⟩)))
    | some z, some ps, some (.array _ elem) =>
      (match sizeB P elem with
       | none => none
       | some n => match layAt (fun i => some (i * n, n)) (flat z) ps with
         | none => none
         | some c => some (.val (.agg ⟨c⟩)))
    | _, _, _ => none
  | .buildSlice t len parts =>
    match P.underlying t, partsOf T s parts.toList with
    | some (.slice elem), some ps =>
      (match P.info? elem, zeroB P elem with
       | some i, some z =>
         bif Nat.ble (len * i.size) 16777216 && Nat.beq (flat z).length i.size && Nat.blt 0 i.size then
           match layAt (fun j => some (j * i.size, i.size)) (repeatL len (flat z)) ps with
           | none => none
           | some c => some (.new (.cells c elem false false) fun id => .slice (some ⟨id, 0, none⟩) len len)
         else none
       | _, _ => none)
    | _, _ => none
  | .load t a => match operand T s a with
    | some (.pointer (some ad)) =>
      (match aggB P t with
      | none => none
      | some true =>
        match sizeB P t with
        | none => none
        | some n => match loadRow s ad n with
          | none => none
          | some l => some (.val (.agg ⟨l⟩))
      | some false => (loadCell s ad).map .val)
    | _ => none
  | .store t a x => match operand T s a, operand T s x, sizeB P t with
    | some (.pointer (some ad)), some v, some n =>
      (bif Nat.beq (flat v).length n && all1 (flat v) then
        match storeRow s ad (flat v) with
        | none => none
        | some s' => some (.eff (.tuple #[]) s')
      else none)
    | _, _, _ => none
  | .nilCheck x => match operand T s x with
    | some (.pointer (some a)) => some (.val (.pointer (some a)))
    | some (.func (.func f) a b) => some (.val (.func (.func f) a b))
    | some (.iface t v) => some (.val (.iface t v))
    | _ => none
  | .binOp op t x y _ => match operand T s x, operand T s y with
    | some a, some b => (binV P op t a b).map .val
    | _, _ => none
  | .unOp op _ x => match operand T s x with
    | some a => (unV op a).map .val
    | none => none
  | .convert a b x => match operand T s x with
    | some v => convertV P s a b v
    | none => none
  | .makeInterface t x => match P.underlying t, operand T s x with
    | some (.interface _), _ => none
    | some _, some v => some (.val (.iface t v))
    | _, _ => none
  | .makeFunc fn first captured => match operands T s first.toList, operands T s captured.toList with
    | some a, some b => bif isYield fn then none else some (.val (.func fn ⟨a⟩ ⟨b⟩))
    | _, _ => none
  | .makeMap _ none => some (.new (.map [] 0) fun id => .map (some id))
  | .makeSlice t l c => match P.underlying t, operand T s l, operand T s c with
    | some (.slice elem), some (.int _ (.ofNat l)), some (.int _ (.ofNat c)) =>
      (match P.info? elem, zeroB P elem with
       | some i, some z =>
         bif Nat.ble l c && Nat.ble (i.bytes * c) 140737488355328 && Nat.ble c 1073741824 && Nat.beq (flat z).length i.size then
           some (.new (.cells (repeatL c (flat z)) elem false false) fun id => .slice (some ⟨id, 0, none⟩) l c)
         else none
       | _, _ => none)
    | _, _, _ => none
  | .slice t x lo hi mx => match operand T s x, opt T s lo, opt T s hi, opt T s mx with
    | some v, some l, some h, some m => (sliceV P s t v l h m).map .val
    | _, _, _, _ => none
  | .fieldAddr t x f => match P.underlying t, operand T s x with
    | some (.struct fields), some (.pointer (some a)) =>
      (match fields[f]? with
       | some fd => bif a.spot.isSome then none else match sizeB P fd.type with
         | some (_ + 1) => some (.val (.pointer (some (a.add fd.offset))))
         | _ => none
       | none => none)
    | _, _ => none
  | .field t x f => match P.underlying t, operand T s x with
    | some (.struct fields), some (.agg cs) =>
      (match fields[f]? with
       | some fd => (partB P fd.type cs.toList fd.offset).map .val
       | none => none)
    | _, _ => none
  | .indexAddr t x ix => match P.underlying t, operand T s x, operand T s ix with
    | some (.slice elem), some (.slice (some a) len _), some i =>
      (match idx i len, sizeB P elem with
       | some n, some z => some (.val (.pointer (some (a.add (n * z)))))
       | _, _ => none)
    | some (.array len elem), some (.pointer (some a)), some i =>
      (match idx i len, sizeB P elem with
       | some n, some z => some (.val (.pointer (some (a.add (n * z)))))
       | _, _ => none)
    | _, _, _ => none
  | .index t x ix => match P.underlying t, operand T s x, operand T s ix with
    | some (.array len elem), some (.agg cs), some i =>
      (match idx i len, sizeB P elem with
       | some n, some z => (partB P elem cs.toList (n * z)).map .val
       | _, _ => none)
    | some .string, some (.string b), some i =>
      (match idx i b.size with
       | some n => match b.data.toList[n]? with
         | some c => some (.val (.int .u8 c.toNat))
         | none => none
       | none => none)
    | _, _, _ => none
  | .extract x i => match operand T s x with
    | some (.tuple vs) => (vs.toList[i]?).map .val
    | _ => none
  | .call { callee := .builtin b, args, argTypes } =>
    match operands T s args.toList with
    | none => none
    | some vs =>
      match b with
      | .append => appendV P s argTypes.toList vs
      | .copy => copyV P s argTypes.toList vs
      | .len => (lenV P s argTypes.toList vs).map .val
      | .cap => (capV P s argTypes.toList vs).map .val
      | .max => match vs with | x :: r => (foldV true x r).map .val | [] => none
      | .min => match vs with | x :: r => (foldV false x r).map .val | [] => none
      | _ => none
  | .call { callee := .value f, args, .. } =>
    match operand T s f, operands T s args.toList with
    | some fv, some vs => callV P fv vs
    | _, _ => none
  | _ => none

/-- 0: nothing but the operands; 1: it reads; 2: it lays a block; 3: anything. -/
def cls : Op → Nat
  | .move _ | .assign _ | .pick .. | .build .. | .nilCheck _ | .binOp .. | .unOp .. | .makeInterface .. | .makeFunc .. | .fieldAddr .. | .field .. | .indexAddr .. | .index .. | .extract .. => 0
  | .load .. | .slice .. => 1
  | .convert a b _ => bif Nat.beq a b then 3 else 1
  | .call { callee := .builtin .len, .. } | .call { callee := .builtin .cap, .. } => 1
  | .call { callee := .builtin .max, .. } | .call { callee := .builtin .min, .. } => 0
  | .alloc _ | .box .. | .buildSlice .. | .makeSlice .. | .makeMap .. => 2
  | _ => 3

/-- Whether an operation runs: none: it can't be told. -/
def want (ops : Array Oper) (T : ATmp) (o : Oper) : Option Bool :=
  match o.guard with
  | none => some true
  | some (j, b) => match ops[j]? with
    | none => some false
    | some g => match g.dst with
      | none => some false
      | some d => match T.get d with
        | some (.bool c) => some (c == b)
        | some (.tuple _) => some false
        | _ => none

/-- A value laid into a slot (nt: how many there are). -/
def putT (nt : Nat) (T : ATmp) (dst : Option Tmp) (v : Value) : Option ATmp :=
  match dst with
  | none => some T
  | some d => bif Nat.blt d nt then some (T.put d v) else none

abbrev Caller := FuncId → List Value → ASt → Option (Value × ASt)

/-- An operation's end: value and state. -/
def fin (call : Caller) (s : ASt) : Option ANext → Option (Value × ASt)
  | none => none
  | some (.val v) => some (v, s)
  | some (.new b v) => some (v s.next, { s with heap := s.heap.put s.next b, next := s.next + 1 })
  | some (.eff v s') => some (v, s')
  | some (.enter f args) => call f args s

/-- A region in its own order. -/
def aSeq (P : Program) (call : Caller) (nt : Nat) (ops : Array Oper) : List Oper → ATmp → ASt → Option (ATmp × ASt)
  | [], T, s => some (T, s)
  | o :: rest, T, s =>
    match want ops T o with
    | none => none
    | some false => match putT nt T o.dst (.tuple #[]) with
      | none => none
      | some T' => aSeq P call nt ops rest T' s
    | some true => match fin call s (aOp P T s o.op) with
      | none => none
      | some (v, s') => match putT nt T o.dst v with
        | none => none
        | some T' => aSeq P call nt ops rest T' s'

inductive AExit where
  | normal
  | exit (id : Nat)
  | ret

structure ARes where
  ex : AExit
  T : ATmp
  s : ASt


/-! ### A region whose order is open -/

def edgeMask (M : Tr Nat) : List Edge → Nat
  | [] => 0
  | e :: r => bif Region.binds .any e then ((1 <<< e.on) ||| (M.get e.on).getD 0) ||| edgeMask M r else edgeMask M r

def masks : List Oper → Nat → Tr Nat → Tr Nat
  | [], _, M => M
  | o :: r, i, M => masks r (i + 1) (M.put i (edgeMask M o.after.toList))

def maskAt (M : Tr Nat) (i : Nat) : Nat := (M.get i).getD 0

def effs : List Oper → Nat → List Nat
  | [], _ => []
  | o :: r, i => bif Nat.beq (cls o.op) 3 then i :: effs r (i + 1) else effs r (i + 1)

/-- Each one hangs on the one ahead. -/
def chainOk (M : Tr Nat) : List Nat → Bool
  | a :: b :: r => (maskAt M b).testBit a && chainOk M (b :: r)
  | _ => true

/-- How many of the first ones of l the mask has. -/
def lead (m : Nat) : List Nat → Nat
  | [] => 0
  | a :: r => bif m.testBit a then lead m r + 1 else 0

/-- The quiet ones of a stage. -/
def quietAt (M : Tr Nat) (es : List Nat) (c : Nat) : List Oper → Nat → List Nat
  | [], _ => []
  | o :: r, i => bif !(Nat.beq (cls o.op) 3) && Nat.beq (lead (maskAt M i) es) c then i :: quietAt M es c r (i + 1) else quietAt M es c r (i + 1)

def stages (M : Tr Nat) (es : List Nat) (ops : List Oper) : List Nat → Nat → List Nat
  | [], c => quietAt M es c ops 0
  | e :: r, c => quietAt M es c ops 0 ++ e :: stages M es ops r (c + 1)

def prevOk (M : Tr Nat) (es : List Nat) (i : Nat) : Nat → Bool
  | 0 => true
  | k + 1 => match es[k]? with
    | some e => (maskAt M i).testBit e
    | none => false

/-- A row of places: each once, each behind all that it hangs on; the loud ones as they stand in es. -/
def rowOk (M : Tr Nat) (es : List Nat) (ops : Array Oper) : List Nat → Nat → Nat → Option (Nat × Nat)
  | [], seen, k => some (seen, k)
  | i :: r, seen, k =>
    match ops[i]? with
    | none => none
    | some o =>
      bif !(seen.testBit i) && Nat.beq (maskAt M i &&& seen) (maskAt M i) then
        bif Nat.beq (cls o.op) 3 then
          match es[k]? with
          | some e => bif Nat.beq e i then rowOk M es ops r (seen ||| (1 <<< i)) (k + 1) else none
          | none => none
        else bif prevOk M es i k then rowOk M es ops r (seen ||| (1 <<< i)) k else none
      else none

def writersT : List Oper → Nat → Tr (List Nat) → Tr (List Nat)
  | [], _, W => W
  | o :: r, i, W => match o.dst with
    | none => writersT r (i + 1) W
    | some d => writersT r (i + 1) (W.put d (i :: (W.get d).getD []))

def tmpsOf : List Operand → List Nat
  | [] => []
  | .tmp t :: r => t :: tmpsOf r
  | _ :: r => tmpsOf r

def namesOf (ops : Array Oper) (o : Oper) : List Nat :=
  (match o.dst with | some d => [d] | none => []) ++ tmpsOf o.op.operands.toList ++
  (match o.guard with | some (g, _) => (match ops[g]? with | some x => (match x.dst with | some d => [d] | none => []) | none => []) | none => [])

def ordered (M : Tr Nat) (j : Nat) : List Nat → Bool
  | [] => true
  | i :: r => (Nat.beq i j || (maskAt M j).testBit i || (maskAt M i).testBit j) && ordered M j r

def nameOk (M : Tr Nat) (W : Tr (List Nat)) (j : Nat) : List Nat → Bool
  | [] => true
  | t :: r => ordered M j ((W.get t).getD []) && nameOk M W j r

def namesOk (M : Tr Nat) (W : Tr (List Nat)) (ops : Array Oper) : List Oper → Nat → Bool
  | [], _ => true
  | o :: r, j => nameOk M W j (namesOf ops o) && namesOk M W ops r (j + 1)

def edgesOk : List Edge → Nat → Bool
  | [], _ => true
  | e :: r, i => (!(Region.binds .any e) || Nat.blt e.on i) && edgesOk r i

def allEdges : List Oper → Nat → Bool
  | [], _ => true
  | o :: r, i => edgesOk o.after.toList i && (match o.op with | .select .. => false | _ => true) && allEdges r (i + 1)

structure Plan where
  M : Tr Nat
  es : List Nat
  row : List Nat

def plan (ops : Array Oper) : Option Plan :=
  let l := ops.toList
  let M := masks l 0 .nil
  let es := effs l 0
  let row := stages M es l es 0
  bif chainOk M es && allEdges l 0 && namesOk M (writersT l 0 .nil) ops l 0 then
    match rowOk M es ops row 0 0 with
    | some (seen, k) => bif Nat.beq (seen + 1) (1 <<< l.length) && Nat.beq k es.length then some ⟨M, es, row⟩ else none
    | none => none
  else none

def veq1 : Value → Value → Bool
  | .bool a, .bool b => a == b
  | .int k a, .int j b => decide (k = j) && decide (a = b)
  | .string a, .string b => beqL a.data.toList b.data.toList
  | .pointer none, .pointer none => true
  | .pointer (some a), .pointer (some b) => decide (a = b)
  | .slice none l c, .slice none l' c' => Nat.beq l l' && Nat.beq c c'
  | .slice (some a) l c, .slice (some b) l' c' => decide (a = b) && Nat.beq l l' && Nat.beq c c'
  | .map none, .map none => true
  | .map (some a), .map (some b) => Nat.beq a b
  | .nilFunc, .nilFunc => true
  | .nilIface, .nilIface => true
  | _, _ => false

def veqL : List Value → List Value → Bool
  | [], [] => true
  | a :: x, b :: y => veq1 a b && veqL x y
  | _, _ => false

def veq : Value → Value → Bool
  | .agg a, .agg b => veqL a.toList b.toList
  | .tuple a, .tuple b => veqL a.toList b.toList
  | a, b => veq1 a b

def beqBlk : ABlk → ABlk → Bool
  | .cells c e g r, .cells c' e' g' r' => veqL c c' && Nat.beq e e' && (g == g') && (r == r')
  | .map [] n, .map [] m => Nat.beq n m
  | _, _ => false

/-- What is kept of a quiet operation, to be asked again: what it is, its slots, what it told, how long it may wait (hi). -/
structure Rec where
  o : Op
  T : ATmp
  v : Value
  nb : Option (Nat × ABlk)
  lo : Nat
  hi : Nat

/-- It tells the same at this state. -/
def again (P : Program) (s : ASt) (r : Rec) : Bool :=
  match r.nb with
  | none => match aOp P r.T s r.o with
    | some (.val v) => veq v r.v
    | _ => false
  | some (id, b) => match s.heap.get id with
    | some b' => beqBlk b b'
    | none => false

def againAll (P : Program) (s : ASt) (k : Nat) : List Rec → Bool
  | [] => true
  | r :: l => (!(Nat.ble r.lo k && Nat.ble k r.hi) || again P s r) && againAll P s k l

/-- Up to which stage it may wait. -/
def hiOf (M : Tr Nat) (i : Nat) : List Nat → Nat → Nat
  | [], m => m
  | e :: r, k => bif (maskAt M e).testBit i then k else hiOf M i r (k + 1)

def dropN : Nat → List Nat → List Nat
  | 0, l => l
  | n + 1, _ :: l => dropN n l
  | _, [] => []

def aRow (P : Program) (call : Caller) (nt : Nat) (ops : Array Oper) (pl : Plan) : List Nat → Nat → List Rec → ATmp → ASt → Option (ATmp × ASt)
  | [], k, rs, T, s => bif againAll P s k rs then some (T, s) else none
  | i :: rest, k, rs, T, s =>
    match ops[i]? with
    | none => none
    | some o =>
      match want ops T o with
      | none => none
      | some false =>
        bif Nat.beq (cls o.op) 3 then
          bif againAll P s k rs then
            match putT nt T o.dst (.tuple #[]) with
            | none => none
            | some T' => aRow P call nt ops pl rest (k + 1) rs T' s
          else none
        else match putT nt T o.dst (.tuple #[]) with
          | none => none
          | some T' => aRow P call nt ops pl rest k rs T' s
      | some true =>
        bif Nat.beq (cls o.op) 3 then
          bif againAll P s k rs then
            match fin call s (aOp P T s o.op) with
            | none => none
            | some (v, s') => match putT nt T o.dst v with
              | none => none
              | some T' => aRow P call nt ops pl rest (k + 1) rs T' s'
          else none
        else match aOp P T s o.op with
          | some (.val v) => (match putT nt T o.dst v with
            | none => none
            | some T' => aRow P call nt ops pl rest k (bif Nat.beq (cls o.op) 0 then rs else ⟨o.op, T, v, none, k, hiOf pl.M i (dropN k pl.es) k⟩ :: rs) T' s)
          | some (.new b v) => (match putT nt T o.dst (v s.next) with
            | none => none
            | some T' => aRow P call nt ops pl rest k (⟨o.op, T, v s.next, some (s.next, b), k, hiOf pl.M i (dropN k pl.es) k⟩ :: rs) T' { s with heap := s.heap.put s.next b, next := s.next + 1 })
          | _ => none

def aDraw (P : Program) (call : Caller) (nt : Nat) (ops : Array Oper) (T : ATmp) (s : ASt) : Option (ATmp × ASt) :=
  match plan ops with
  | none => none
  | some pl => aRow P call nt ops pl pl.row 0 [] T s

def toRes (r : Option (ATmp × ASt)) : Option ARes :=
  match r with
  | none => none
  | some (T, s) => some ⟨.normal, T, s⟩

def aLoop (body : ATmp → ASt → Option ARes) : Nat → ATmp → ASt → Option ARes
  | 0, _, _ => none
  | n + 1, T, s => match body T s with
    | none => none
    | some ⟨.normal, T', s'⟩ => aLoop body n T' s'
    | some r => some r

def aCode (P : Program) (call : Caller) (nt lf : Nat) : Code → ATmp → ASt → Option ARes
  | .skip, T, s => some ⟨.normal, T, s⟩
  | .region _ ops draw, T, s => match draw with
    | true => toRes (aDraw P call nt ops T s)
    | false => toRes (aSeq P call nt ops ops.toList T s)
  | .seq a b, T, s => match aCode P call nt lf a T s with
    | none => none
    | some ⟨.normal, T', s'⟩ => aCode P call nt lf b T' s'
    | some r => some r
  | .cond c a b, T, s => match operand T s c with
    | some (.bool true) => aCode P call nt lf a T s
    | some (.bool false) => aCode P call nt lf b T s
    | _ => none
  | .block id c, T, s => match aCode P call nt lf c T s with
    | none => none
    | some ⟨.exit i, T', s'⟩ => bif Nat.beq i id then some ⟨.normal, T', s'⟩ else some ⟨.exit i, T', s'⟩
    | some r => some r
  | .loop c, T, s => aLoop (aCode P call nt lf c) lf T s
  | .exit id, T, s => some ⟨.exit id, T, s⟩
  | .ret, T, s => some ⟨.ret, T, s⟩
  | _, _, _ => none

def ofArgs : List Value → Nat → ATmp → ATmp
  | [], _, T => T
  | v :: r, i, T => ofArgs r (i + 1) (T.put i v)

def resultL (P : Program) (T : ATmp) (s : ASt) : List ResultVar → Option (List Value)
  | [] => some []
  | .tmp t :: r => match T.get t, resultL P T s r with
    | some v, some l => some (v :: l)
    | _, _ => none
  | .cell a ty :: r => match aOp P T s (.load ty (.tmp a)), resultL P T s r with
    | some (.val v), some l => some (v :: l)
    | _, _ => none

def one : List Value → Value
  | [v] => v
  | l => .tuple ⟨l⟩

def aCall (P : Program) (lf : Nat) : Nat → Caller
  | 0, _, _, _ => none
  | d + 1, f, args, s =>
    match P.funcs[f]? with
    | none => none
    | some fn => match fn.body with
      | none => none
      | some c => bif Nat.ble args.length fn.ntmps then
        match aCode P (aCall P lf d) fn.ntmps lf c (ofArgs args 0 .nil) s with
        | some ⟨.exit _, _, _⟩ => none
        | some r => match resultL P r.T r.s fn.results.toList with
          | none => none
          | some l => some (one l, r.s)
        | none => none
        else none

def start : ASt := ⟨.nil, 0, 0⟩

/-- It answers true. -/
def yes (r : Option (Value × ASt)) : Bool :=
  match r with
  | some (.bool true, _) => true
  | _ => false

end Go.Vf
