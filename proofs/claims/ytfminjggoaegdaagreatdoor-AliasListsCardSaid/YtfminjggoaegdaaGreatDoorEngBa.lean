import Derived.Orders
import Derived.Below
import Derived.KernelRfl
import Derived.RangeFuncRecord
import Derived.Laws.Sem
import Derived.Laws.Cells
import Derived.Laws.Rows
import Derived.Laws.Append
import Derived.ChangeKeysEq
import Derived.Laws.Entries
import Derived.Laws.Strings
import Derived.Laws.StructEq
import Derived.Laws.MakeOwn
section
namespace Go.Vf
inductive Tr (α : Type) where
 | nil
 | node (v : Option α) (l r : Tr α)
theorem beqF {a b : Nat} (h : a ≠ b) : Nat.beq a b = false := by rw [← Bool.not_eq_true, Nat.beq_eq]; exact h
namespace Tr
variable {α : Type}
def get : Tr α → Nat → Option α
 | .nil, _ => none
 | .node v l r, k => bif Nat.beq k 0 then v else bif Nat.beq (k % 2) 1 then l.get (k / 2) else r.get (k / 2 - 1)
def set : Nat → Tr α → Nat → Option α → Tr α
 | 0, t, _, _ => t
 | d + 1, .nil, k, x => bif Nat.beq k 0 then .node x .nil .nil else bif Nat.beq (k % 2) 1 then .node none (set d .nil (k / 2) x) .nil else .node none .nil (set d .nil (k / 2 - 1) x)
 | d + 1, .node v l r, k, x => bif Nat.beq k 0 then .node x l r else bif Nat.beq (k % 2) 1 then .node v (set d l (k / 2) x) r else .node v l (set d r (k / 2 - 1) x)
def put (t : Tr α) (k : Nat) (x : α) : Tr α := set (k + 1) t k (some x)
def del (t : Tr α) (k : Nat) : Tr α := set (k + 1) t k none
theorem get_nil (k : Nat) : (Tr.nil : Tr α).get k = none := rfl
theorem get_set (d : Nat) : ∀ (t : Tr α) (k j : Nat) (x : Option α), k < d → (set d t k x).get j = if j = k then x else t.get j := by
 induction d with
 | zero => intro t k j x h; omega
 | succ d ih =>
  intro t k j x h
  have key : ∀ (l r : Tr α) (v : Option α), (bif Nat.beq k 0 then Tr.node x l r else bif Nat.beq (k % 2) 1 then .node v (set d l (k / 2) x) r else .node v l (set d r (k / 2 - 1) x)).get j = if j = k then x else (Tr.node v l r).get j := by
   intro l r v
   by_cases hk : k = 0
   ·subst hk
    by_cases hj : j = 0
    ·subst hj; simp [get]
    ·simp [get, hj, beqF hj]
   ·have hk' : Nat.beq k 0 = false := beqF hk
    by_cases hm : k % 2 = 1
    ·simp only [hk', hm, cond_false]
     simp only [show Nat.beq 1 1 = true from rfl, cond_true, get]
     by_cases hj : j = 0
     ·subst hj; simp [show (0 : Nat) ≠ k from fun e => hk e.symm]
     ·have hj' : Nat.beq j 0 = false := beqF hj
      simp only [hj', cond_false]
      by_cases hjm : j % 2 = 1
      ·simp only [hjm, show Nat.beq 1 1 = true from rfl, cond_true]
       rw [ih _ _ _ _ (by omega)]
       by_cases e : j = k
       ·subst e; simp
       ·simp [e, show ¬ j / 2 = k / 2 from by omega]
      ·have : Nat.beq (j % 2) 1 = false := beqF hjm
       simp only [this, cond_false]
       simp [show j ≠ k from fun e => hjm (e ▸ hm)]
    ·have hm' : Nat.beq (k % 2) 1 = false := beqF hm
     simp only [hk', hm', cond_false, get]
     by_cases hj : j = 0
     ·subst hj; simp [show (0 : Nat) ≠ k from fun e => hk e.symm]
     ·have hj' : Nat.beq j 0 = false := beqF hj
      simp only [hj', cond_false]
      by_cases hjm : j % 2 = 1
      ·simp only [hjm, show Nat.beq 1 1 = true from rfl, cond_true]
       simp [show j ≠ k from fun e => hm (e ▸ hjm)]
      ·have : Nat.beq (j % 2) 1 = false := beqF hjm
       simp only [this, cond_false]
       rw [ih _ _ _ _ (by omega)]
       by_cases e : j = k
       ·subst e; simp
       ·simp [e, show ¬ j / 2 - 1 = k / 2 - 1 from by omega]
  cases t with
  | nil =>
   have := key .nil .nil none
   simp only [set]
   rw [this]
   simp [get]
  | node v l r => exact key l r v
@[simp] theorem get_put (t : Tr α) (k j : Nat) (x : α) : (t.put k x).get j = if j = k then some x else t.get j := get_set _ _ _ _ _ (Nat.lt_succ_self k)
@[simp] theorem get_del (t : Tr α) (k j : Nat) : (t.del k).get j = if j = k then none else t.get j := get_set _ _ _ _ _ (Nat.lt_succ_self k)
end Tr
structure ALoop where
 state : LoopState
 pending : Option Code
 nt : Nat
 tmps : Tr Value
 params : Array Tmp
 assign : Code
 body : Code
inductive ABlk where
 | cells (c : List Value) (elem : TypeId) (grow ro : Bool)
 | map (es : List MapEntry) (clock : Nat)
 | siter (s : ByteArray) (pos : Nat)
 | miter (m since : Nat) (seen : List Nat) (stepped : Nat)
 | loop (r : ALoop)
 /-- Cells of one's own whose room is open: an append behind them leaves them to be read, and both are read alone from then on. -/
 | held (c : List Value) (elem : TypeId)
structure ASt where
 heap : Tr ABlk
 next : Nat
 gl : Nat
abbrev ATmp := Tr Value
def isYield : Fn → Bool
 | .yield _ => true
 | _ => false
def plain1 : Value → Bool
 | .bool _ | .int _ _ | .float _ _ | .complex _ _ _ | .string _ | .pointer none | .slice none _ _ | .map none | .chan none | .nilFunc | .nilIface => true
 | .func fn a b => !isYield fn && a.isEmpty && b.isEmpty
 | _ => false
def plainV : Value → Bool
 | .agg cs => cs.toList.all plain1
 | .tuple cs => cs.toList.all plain1
 | .iface _ v => plain1 v
 | v => plain1 v
def operand (T : ATmp) (s : ASt) : Operand → Option Value
 | .tmp t => T.get t
 | .const v => bif plainV v then some v else none
 | .global g => bif Nat.blt g s.gl then some (.pointer (some ⟨g, 0, none⟩)) else none
 | .func f => some (.func (.func f) #[] #[])
def operands (T : ATmp) (s : ASt) : List Operand → Option (List Value)
 | [] => some []
 | x :: r => match operand T s x with
  | none => none
  | some v => match operands T s r with
   | none => none
   | some vs => some (v :: vs)
def aggB (P : Program) (t : TypeId) : Option Bool :=
 match P.underlying t with
 | none => none
 | some (.struct _) => some true
 | some (.array _ _) => some true
 | some _ => some false
def sizeB (P : Program) (t : TypeId) : Option Nat := (P.info? t).map (·.size)
def ABlk.cellsOf : ABlk → Option (List Value)
 | .cells c _ _ _ => some c
 | _ => none
def takeN : Nat → List Value → Option (List Value)
 | 0, _ => some []
 | n + 1, v :: r => match takeN n r with
  | none => none
  | some l => some (v :: l)
 | _ + 1, [] => none
def loadRow (s : ASt) (a : Addr) (n : Nat) : Option (List Value) :=
 bif a.spot.isSome then none else
 match s.heap.get a.block with
 | some (.cells c _ _ _) => takeN n (c.drop a.off)
 | _ => none
def loadCell (s : ASt) (a : Addr) : Option Value :=
 bif a.spot.isSome then none else
 match s.heap.get a.block with
 | some (.cells c _ _ _) => c[a.off]?
 | _ => none
def setRow : List Value → Nat → List Value → Option (List Value)
 | c, 0, [] => some c
 | [], _, _ => none
 | _ :: c, 0, x :: xs => match setRow c 0 xs with
  | none => none
  | some r => some (x :: r)
 | y :: c, o + 1, xs => match setRow c o xs with
  | none => none
  | some r => some (y :: r)
def storeRow (s : ASt) (a : Addr) (vs : List Value) : Option ASt :=
 bif a.spot.isSome then none else
 match s.heap.get a.block with
 | some (.cells c e g false) => match setRow c a.off vs with
  | none => none
  | some c' => some { s with heap := s.heap.put a.block (.cells c' e g false) }
 | _ => none
inductive ANext where
 | val (v : Value)
 | new (b : ABlk) (v : Nat → Value)
 | eff (v : Value) (s : ASt)
 | enter (f : FuncId) (args : List Value)
def flat (v : Value) : List Value := v.cells.toList
def all1 : List Value → Bool
 | [] => true
 | .agg _ :: _ => false
 | .tuple _ :: _ => false
 | _ :: r => all1 r
def intBin (op : BinOp) (k : IntKind) (a b : Int) : Option Value :=
 match op with
 | .add => some (.int k (k.wrap (a + b)))
 | .sub => some (.int k (k.wrap (a - b)))
 | .mul => some (.int k (k.wrap (a * b)))
 | .quo => if b = 0 then none else some (.int k (k.wrap (a.tdiv b)))
 | .rem => if b = 0 then none else some (.int k (a.tmod b))
 | .and => some (.int k (k.wrap (BitVec.ofInt k.bits a &&& BitVec.ofInt k.bits b).toNat))
 | .or => some (.int k (k.wrap (BitVec.ofInt k.bits a ||| BitVec.ofInt k.bits b).toNat))
 | .xor => some (.int k (k.wrap (BitVec.ofInt k.bits a ^^^ BitVec.ofInt k.bits b).toNat))
 | .andNot => some (.int k (k.wrap (BitVec.ofInt k.bits a &&& ~~~(BitVec.ofInt k.bits b)).toNat))
 | .eql => some (.bool (a == b))
 | .neq => some (.bool (a != b))
 | .lss => some (.bool (decide (a < b)))
 | .leq => some (.bool (decide (a ≤ b)))
 | .gtr => some (.bool (decide (a > b)))
 | .geq => some (.bool (decide (a ≥ b)))
 | _ => none
def shiftBin (op : BinOp) (k : IntKind) (a b : Int) : Option Value :=
 if b < 0 then none else
 match op with
 | .shl => some (.int k (k.wrap (a * 2 ^ (min b.toNat k.bits))))
 | .shr => some (.int k (a.fdiv (2 ^ (min b.toNat k.bits))))
 | _ => none
def beqL : List UInt8 → List UInt8 → Bool
 | [], [] => true
 | a :: x, b :: y => bif Nat.beq a.toNat b.toNat then beqL x y else false
 | _, _ => false
def lssL : List UInt8 → List UInt8 → Bool
 | _, [] => false
 | [], _ :: _ => true
 | a :: x, b :: y => bif Nat.blt a.toNat b.toNat then true else bif Nat.beq a.toNat b.toNat then lssL x y else false
def strBin (op : BinOp) (x y : ByteArray) : Option Value :=
 let a := x.data.toList
 let b := y.data.toList
 match op with
 | .add => bif Nat.ble (a.length + b.length) 1152921504606846976 then some (.string ⟨⟨a ++ b⟩⟩) else none
 | .eql => some (.bool (beqL a b))
 | .neq => some (.bool (!(beqL a b)))
 | .lss => some (.bool (lssL a b))
 | .leq => some (.bool (lssL a b || beqL a b))
 | .gtr => some (.bool (!(lssL a b || beqL a b)))
 | .geq => some (.bool (!(lssL a b)))
 | _ => none
def cellEq : Nat → Value → Value → Option Bool
 | 0, .bool a, .bool b => some (a == b)
 | 1, .int k a, .int k' b => if k = k' then some (decide (a = b)) else none
 | 2, .string ⟨⟨a⟩⟩, .string ⟨⟨b⟩⟩ => some (decide (a = b))
 | _, _, _ => none
def eqCells : List (Nat × Nat) → List Value → List Value → Option Bool
 | [], _, _ => some true
 | (o, k) :: r, xs, ys => match xs[o]?, ys[o]? with
  | some a, some b => (match cellEq k a b with
   | none => none
   | some c => match eqCells r xs ys with
    | none => none
    | some d => some (c && d))
  | _, _ => none
def kindsOf (P : Program) : List Field → Option (List (Nat × Nat))
 | [] => some []
 | f :: fs => bif f.name == "_" then none else
  match aggB P f.type with
  | some false => (match P.underlying f.type, kindsOf P fs with
   | some .bool, some l => some ((f.offset, 0) :: l)
   | some (.int _), some l => some ((f.offset, 1) :: l)
   | some .string, some l => some ((f.offset, 2) :: l)
   | _, _ => none)
  | _ => none
def kindsUp (o : Nat) (l : List (Nat × Nat)) : List (Nat × Nat) := l.map fun x => (o + x.1, x.2)
def kindsIn (P : Program) (t : TypeId) : Option (List (Nat × Nat)) :=
 match P.underlying t, sizeB P t with
 | some (.struct fields), some n => bif P.stoodInHeld t then none else (match kindsOf P fields.toList with
  | some l => bif l.all (fun x => Nat.blt x.1 n) then some l else none
  | none => none)
 | _, _ => none
def kind1 (P : Program) (f : Field) : Option (List (Nat × Nat)) :=
 match kindsOf P [f] with
 | some l => some l
 | none => bif f.name == "_" then none else
  match aggB P f.type, kindsIn P f.type with
  | some true, some l => some (kindsUp f.offset l)
  | _, _ => none
def kinds2 (P : Program) : List Field → Option (List (Nat × Nat))
 | [] => some []
 | f :: fs => match kind1 P f, kinds2 P fs with
  | some a, some l => some (a ++ l)
  | _, _ => none
def kindArr (P : Program) (len : Nat) (elem : TypeId) : Option (List (Nat × Nat)) :=
 match aggB P elem, sizeB P elem with
 | some false, some 1 => (match P.underlying elem with
  | some .bool => some ((List.range len).map fun i => (i, 0))
  | some (.int _) => some ((List.range len).map fun i => (i, 1))
  | some .string => some ((List.range len).map fun i => (i, 2))
  | _ => none)
 | _, _ => none
def eqKinds (P : Program) (t : TypeId) : Option (List (Nat × Nat)) :=
 match P.underlying t with
 | some (.struct fields) => bif P.stoodInHeld t || P.eqGuardType P.depth t then none else kinds2 P fields.toList
 | some (.array len elem) => bif P.eqGuardType P.depth t then none else kindArr P len elem
 | _ => none
def eqlAgg (P : Program) (t : TypeId) (xs ys : List Value) : Option Bool :=
 match eqKinds P t with
 | some l => eqCells l xs ys
 | none => none
def eqlOther (P : Program) (t : TypeId) (x y : Value) : Option Bool :=
 match P.underlying t, x, y with
 | some (.struct _), .agg ⟨xs⟩, .agg ⟨ys⟩ => eqlAgg P t xs ys
 | some (.array _ _), .agg ⟨xs⟩, .agg ⟨ys⟩ => eqlAgg P t xs ys
 | some .bool, .bool a, .bool b => some (a == b)
 | some (.pointer _), .pointer none, .pointer b => some b.isNone
 | some (.pointer _), .pointer (some _), .pointer none => some false
 | some (.slice _), .slice none _ _, .slice b _ _ => some b.isNone
 | some (.slice _), .slice (some _) _ _, .slice none _ _ => some false
 | some (.map _ _), .map none, .map b => some b.isNone
 | some (.map _ _), .map (some _), .map none => some false
 | some (.func _ _ _), .nilFunc, .nilFunc => some true
 | some (.func _ _ _), .nilFunc, .func _ _ _ => some false
 | some (.func _ _ _), .func _ _ _, .nilFunc => some false
 | _, _, _ => none
def binV (P : Program) (op : BinOp) (t : TypeId) (x y : Value) : Option Value :=
 match op, x, y with
 | .shl, .int k a, .int _ b => shiftBin .shl k a b
 | .shr, .int k a, .int _ b => shiftBin .shr k a b
 | op, .int k a, .int k' b => if k = k' then intBin op k a b else none
 | op, .string a, .string b => strBin op a b
 | .eql, x, y => (eqlOther P t x y).map .bool
 | .neq, x, y => (eqlOther P t x y).map fun b => .bool (!b)
 | _, _, _ => none
def unV (op : UnOp) (x : Value) : Option Value :=
 match op, x with
 | .neg, .int k n => some (.int k (k.wrap (0 - n)))
 | .xor, .int k n => intBin .xor k (if k.signed then -1 else k.max) n
 | .not, .bool b => some (.bool (!b))
 | _, _ => none
def layAt (place : Nat → Option (Nat × Nat)) : List Value → List (Nat × Value) → Option (List Value)
 | cells, [] => some cells
 | cells, (i, v) :: rest =>
  match place i with
  | none => none
  | some (off, size) =>
   bif Nat.beq (flat v).length size then
    match setRow cells off (flat v) with
    | none => none
    | some c => layAt place c rest
   else none
def partsOf (T : ATmp) (s : ASt) : List (Nat × Operand) → Option (List (Nat × Value))
 | [] => some []
 | (i, x) :: r => match operand T s x with
  | none => none
  | some v => match partsOf T s r with
   | none => none
   | some l => some ((i, v) :: l)
def zeroB (P : Program) (t : TypeId) : Option Value :=
 match P.info? t with
 | some i => match i.zero with
  | some v => bif plainV v then some v else none
  | none => none
 | none => none
def repeatL (n : Nat) (l : List Value) : List Value := Nat.rec [] (fun _ r => l ++ r) n
def partB (P : Program) (t : TypeId) (cs : List Value) (off : Nat) : Option Value :=
 match aggB P t with
 | none => none
 | some true =>
  match sizeB P t with
  | none => none
  | some n => match takeN n (cs.drop off) with
   | none => none
   | some l => some (.agg ⟨l⟩)
 | some false => cs[off]?
def toInt : Value → Option Int
 | .int _ n => some n
 | _ => none
def idx (v : Value) (len : Nat) : Option Nat :=
 match v with
 | .int _ (.ofNat n) => bif Nat.blt n len then some n else none
 | _ => none
def bound (v : Option Value) (dflt most : Nat) : Option Nat :=
 match v with
 | none => some dflt
 | some (.int _ (.ofNat n)) => bif Nat.ble n most then some n else none
 | _ => none
def opt (T : ATmp) (s : ASt) : Option Operand → Option (Option Value)
 | none => some none
 | some x => match operand T s x with
  | none => none
  | some v => some (some v)
def growOf (s : ASt) (a : Addr) : Option (Bool × TypeId) :=
 match s.heap.get a.block with
 | some (.cells _ t g _) => some (g, t)
 | _ => none
def mxOk : Option Value → Option Value → Bool
 | some _, none => false
 | _, _ => true
def sliceV (P : Program) (s : ASt) (t : TypeId) (x : Value) (lo hi mx : Option Value) : Option Value :=
 match P.underlying t, x with
 | some .string, .string b =>
  match mx with
  | some _ => none
  | none =>
   match bound hi b.size b.size with
   | none => none
   | some h => match bound lo 0 h with
    | none => none
    | some l => some (.string ⟨⟨(b.data.toList.drop l).take (h - l)⟩⟩)
 | some (.slice e), .slice none len cap =>
  match sizeB P e with
  | none => none
  | some _ => bif mxOk mx hi then
   match bound mx cap cap with
   | none => none
   | some m => match bound hi len m with
    | none => none
    | some h => match bound lo 0 h with
     | none => none
     | some l => some (.slice none (h - l) (m - l))
   else none
 | some (.slice e), .slice (some a) len cap =>
  match growOf s a, sizeB P e with
  | some (false, _), some n =>
   bif mxOk mx hi then
    match bound mx cap cap with
    | none => none
    | some m => match bound hi len m with
     | none => none
     | some h => match bound lo 0 h with
      | none => none
      | some l => some (.slice (some (bif Nat.beq m l then a else a.add (l * n))) (h - l) (m - l))
   else none
  | some (true, t'), some n =>
   match mx, sizeB P t' with
   | none, some n' =>
    bif Nat.beq n n' then
     match bound hi len len with
     | none => none
     | some h => match bound lo 0 h with
      | none => none
      | some l => some (.slice (some (a.add (l * n))) (h - l) 0)
    else none
   | some y, some n' =>
    bif Nat.beq n n' && mxOk (some y) hi then
     match bound (some y) len len with
     | none => none
     | some m => match bound hi len m with
      | none => none
      | some h => match bound lo 0 h with
       | none => none
       | some l => some (.slice (some (a.add (l * n))) (h - l) (m - l + 1))
    else none
   | _, _ => none
  | _, _ => none
 | some (.array n e), .pointer (some a) =>
  match growOf s a, sizeB P e with
  | some (false, _), some z =>
   bif mxOk mx hi then
    match bound mx n n with
    | none => none
    | some m => match bound hi n m with
     | none => none
     | some h => match bound lo 0 h with
      | none => none
      | some l => some (.slice (some (bif Nat.beq m l then a else a.add (l * z))) (h - l) (m - l))
   else none
  | _, _ => none
 | _, _ => none
def srcCells (s : ASt) (size n : Nat) : Value → Option (List Value)
 | .slice (some a) _ _ => loadRow s a (n * size)
 | .slice none _ _ => some []
 | .string b => some ((b.data.toList.take n).map fun c => .int .u8 c.toNat)
 | _ => none
def srcLen : Value → Option Nat
 | .slice _ n _ => some n
 | .string b => some b.size
 | _ => none
def appended (P : Program) (s : ASt) (size : Nat) (elem : TypeId) (xType : Option TypeId) (x : Value) : Option (List Value × Nat) :=
 match xType with
 | none => none
 | some xt => match P.underlying xt with
  | some (.int _) =>
   match x with
   | .int _ (.ofNat n) =>
    bif Nat.ble n 1073741824 then
     match zeroB P elem with
     | none => none
     | some z => bif Nat.beq (flat z).length size then some (repeatL n (flat z), n) else none
    else none
   | _ => none
  | some _ => match srcLen x with
   | none => none
   | some n => match srcCells s size n x with
    | none => none
    | some l => some (l, n)
  | none => none
def appendV (P : Program) (s : ASt) (tys : List TypeId) (args : List Value) : Option ANext :=
 match tys, args with
 | sType :: xt :: _, sl :: x :: _ =>
  match P.underlying sType, sl with
  | some (.slice elem), .slice base len cap =>
   match P.info? elem, zeroB P elem with
   | some i, some z =>
    match appended P s i.size elem (some xt) x with
    | none => none
    | some (new, n) =>
     bif Nat.ble ((len + n) * i.bytes) 140737488355328 && Nat.ble (len + n) 4294967296 && Nat.beq new.length (n * i.size) && Nat.beq (flat z).length i.size && all1 new then
      match base with
      | none => bif Nat.ble (len + n) cap then (bif Nat.beq n 0 then some (.val (.slice none (len + n) cap)) else none)
       else bif Nat.beq len 0 then some (.eff (.slice (some ⟨s.next, 0, none⟩) (len + n) 0) { s with heap := s.heap.put s.next (.cells new elem true false), next := s.next + 1 }) else none
      | some a =>
       match s.heap.get a.block with
       | some (.cells _ e g ro) =>
        match g with
        | false =>
         bif Nat.ble (len + n) cap then
          match storeRow s (a.add (len * i.size)) new with
          | none => none
          | some s' => some (.eff (.slice (some a) (len + n) cap) s')
         else match loadRow s a (len * i.size) with
          | none => none
          | some old => some (.eff (.slice (some ⟨s.next, 0, none⟩) (len + n) 0) { s with heap := s.heap.put s.next (.cells (old ++ new) elem true false), next := s.next + 1 })
        | true =>
         bif Nat.beq n 0 then some (.val (.slice (some a) len cap)) else
         match loadRow s a (len * i.size) with
         | none => none
         | some old => bif ro then (bif Nat.beq cap (len + 1) then some (.eff (.slice (some ⟨s.next, 0, none⟩) (len + n) 0) { s with heap := s.heap.put s.next (.cells (old ++ new) elem true false), next := s.next + 1 }) else none) else bif !(Nat.beq e elem) then none else some (.eff (.slice (some ⟨s.next, 0, none⟩) (len + n) 0) { s with heap := (s.heap.del a.block).put s.next (.cells (old ++ new) elem true false), next := s.next + 1 })
       | some (.held c e) =>
        bif Nat.beq a.off 0 && a.spot.isNone && Nat.blt 0 len && Nat.beq c.length (len * i.size) && Nat.beq e elem then
         bif Nat.beq n 0 then some (.eff (.slice (some a) len cap) { s with heap := s.heap.put a.block (.cells c e true true) })
         else some (.eff (.slice (some ⟨s.next, 0, none⟩) (len + n) 0) { s with heap := (s.heap.put a.block (.cells c e true true)).put s.next (.cells (c ++ new) elem true true), next := s.next + 1 })
        else none
       | _ => none
     else none
   | _, _ => none
  | _, _ => none
 | _, _ => none
def copyV (P : Program) (s : ASt) (tys : List TypeId) (args : List Value) : Option ANext :=
 match tys, args with
 | dType :: _, dst :: src :: _ =>
  match P.underlying dType, dst, srcLen src with
  | some (.slice elem), .slice base dLen _, some sLen =>
   match sizeB P elem with
   | none => none
   | some size =>
    let n := Nat.min sLen dLen
    match srcCells s size n src with
    | none => none
    | some l => match base with
     | none => bif Nat.beq n 0 then some (.val (.int .i64 n)) else none
     | some a => bif Nat.beq n 0 then some (.val (.int .i64 n)) else bif all1 l then match storeRow s a l with
      | none => none
      | some s' => some (.eff (.int .i64 n) s')
      else none
  | _, _, _ => none
 | _, _ => none
def lenV (P : Program) (s : ASt) (tys : List TypeId) (args : List Value) : Option Value :=
 match tys, args with
 | t :: _, x :: _ =>
  match P.underlying t, x with
  | some .string, .string b => some (.int .i64 b.size)
  | some (.array n _), _ => some (.int .i64 n)
  | some (.slice _), .slice _ n _ => some (.int .i64 n)
  | some (.map _ _), .map none => some (.int .i64 0)
  | some (.map _ _), .map (some r) => match s.heap.get r with
   | some (.map es _) => some (.int .i64 es.length)
   | _ => none
  | some (.pointer arr), _ => match P.underlying arr with
   | some (.array n _) => some (.int .i64 n)
   | _ => none
  | _, _ => none
 | _, _ => none
def capV (P : Program) (s : ASt) (tys : List TypeId) (args : List Value) : Option Value :=
 match tys, args with
 | t :: _, x :: _ =>
  match P.underlying t, x with
  | some (.array n _), _ => some (.int .i64 n)
  | some (.slice _), .slice none _ n => some (.int .i64 n)
  | some (.slice _), .slice (some a) _ n => match growOf s a with
   | some (false, _) => some (.int .i64 n)
   | _ => none
  | _, _ => none
 | _, _ => none
def max2V (mx : Bool) : Value → Value → Option Value
 | .int k x, .int _ y => some (.int k (bif mx then (if y > x then y else x) else (if y < x then y else x)))
 | _, _ => none
def foldV (mx : Bool) : Value → List Value → Option Value
 | x, [] => some x
 | x, y :: r => match max2V mx x y with
  | none => none
  | some z => foldV mx z r
def bytesOf : List Value → Option (List UInt8)
 | [] => some []
 | .int .u8 n :: r => match bytesOf r with
  | none => none
  | some l => some (UInt8.ofNat n.toNat :: l)
 | _ :: _ => none
def convertV (P : Program) (s : ASt) (src dst : TypeId) (x : Value) : Option ANext :=
 match P.underlying src, P.underlying dst, x with
 | some _, some (.int k), .int _ n => some (.val (.int k (k.wrap n)))
 | some .string, some .string, .string b => some (.val (.string b))
 | some .string, some (.slice e), .string b =>
  match P.underlying e with
  | some (.int .u8) => bif Nat.ble b.size 9223372036854775807 then match P.info? e with
   | none => none
   | some i => bif Nat.beq i.size 1 then some (.new (.cells (b.data.toList.map fun c => .int .u8 c.toNat) e true false) fun id => .slice (some ⟨id, 0, none⟩) b.size 0) else none
   else none
  | _ => none
 | some (.slice e), some .string, .slice none _ _ =>
  match P.underlying e with
  | some (.int .u8) => some (.val (.string ⟨⟨[]⟩⟩))
  | _ => none
 | some (.slice e), some .string, .slice (some a) len _ =>
  match P.underlying e with
  | some (.int .u8) => match loadRow s a len with
   | none => none
   | some l => match bytesOf l with
    | none => none
    | some b => some (.val (.string ⟨⟨b⟩⟩))
  | _ => none
 | some (.slice e), some (.slice _), .slice (some a) len c =>
  match P.underlying e with
  | some (.int .u8) => bif Nat.beq src dst then (match s.heap.get a.block with
   | some (.cells _ _ false false) => some (.eff (.slice (some a) len c) s)
   | _ => none) else none
  | _ => none
 | _, _, _ => none
def callV (P : Program) (f : Value) (args : List Value) : Option ANext :=
 match f with
 | .func (.func g) first captured =>
  match P.funcs[g]? with
  | some fn => bif fn.body.isSome then some (.enter g (first.toList ++ args ++ captured.toList)) else none
  | none => none
 | _ => none
def otherE (k : IntKind) (n : Int) : List MapEntry → Bool
 | [] => true
 | x :: r => match x.key with
  | .int k' a => decide (k' = k) && (!decide (a = n) && otherE k n r)
  | _ => false
def lkE (k : IntKind) (n : Int) : List MapEntry → Option Value
 | [] => none
 | x :: r => match x.key with
  | .int k' a => bif decide (k' = k) then (bif decide (a = n) then (bif otherE k n r && plain1 x.val then some x.val else none) else lkE k n r) else none
  | _ => none
def lookupV (P : Program) (s : ASt) (t : TypeId) (m key : Value) : Option Value :=
 match P.underlying t, m, key with
 | some (.map kt _), .map (some id), .int k n => (match P.underlying kt, s.heap.get id with
  | some (.int k'), some (.map es _) => bif decide (k' = k) then lkE k n es else none
  | _, _ => none)
 | _, _, _ => none
def sKeys (es : List MapEntry) : Bool := es.all fun x => match x.key with
 | .string _ => true
 | _ => false
def sIs (z : List UInt8) (x : MapEntry) : Bool := match x.key with
 | .string b => decide (b.data.toList = z)
 | _ => false
def lookS (P : Program) (s : ASt) (t : TypeId) (m : Value) (z : List UInt8) : Option (Value × Bool) :=
 match P.underlying t, m with
 | some (.map kt et), .map (some id) => (match P.underlying kt, s.heap.get id with
  | some .string, some (.map es _) => bif sKeys es then (match es.filter (sIs z) with
   | [x] => some (x.val, true)
   | [] => (zeroB P et).map fun v => (v, false)
   | _ => none) else none
  | _, _ => none)
 | _, _ => none
def lookA (P : Program) (s : ASt) (t : TypeId) (m key : Value) (ok : Bool) : Option Value :=
 match key with
 | .string kb => (lookS P s t m kb.data.toList).map fun p => bif ok then .tuple ⟨[p.1, .bool p.2]⟩ else p.1
 | _ => bif ok then none else lookupV P s t m key
def updS (P : Program) (s : ASt) (t : TypeId) (m key v : Value) : Option ASt :=
 match P.underlying t, m, key with
 | some (.map kt _), .map (some id), .string kb => (match P.underlying kt, s.heap.get id with
  | some .string, some (.map es clock) => bif sKeys es then (match es.filter (sIs kb.data.toList) with
   | [] => some { s with heap := s.heap.put id (.map (es ++ [⟨key, v, clock⟩]) (clock + 1)) }
   | [_] => some { s with heap := s.heap.put id (.map (es.map fun x => bif sIs kb.data.toList x then { x with key := key, val := v } else x) clock) }
   | _ => none) else none
  | _, _ => none)
 | _, _, _ => none
def aOp (P : Program) (T : ATmp) (s : ASt) (o : Op) : Option ANext :=
  match o with
  | .move x | .assign x => (operand T s x).map .val
  | .pick c a b => match operand T s c with
    | some (.bool true) => (operand T s a).map .val
    | some (.bool false) => (operand T s b).map .val
    | _ => none
  | .alloc elem => match zeroB P elem with
    | none => none
    | some z => some (.new (.cells (flat z) elem false false) fun id => .pointer (some ⟨id, 0, none⟩))
  | .box elem x => match operand T s x, P.info? elem with
    | some v, some _ => some (.new (.cells (flat v) elem false false) fun id => .pointer (some ⟨id, 0, none⟩))
    | _, _ => none
  | .build t parts =>
    match zeroB P t, partsOf T s parts.toList, P.underlying t with
    | some z, some ps, some (.struct fields) =>
      bif !(fields.toList.all fun f => (sizeB P f.type).isSome) then none else
      (match layAt (fun i => match fields[i]? with | none => none | some f => match sizeB P f.type with | none => none | some n => some (f.offset, n)) (flat z) ps with
       | none => none
       | some c => some (.val (.agg ⟨c⟩)))
    | some z, some ps, some (.array _ elem) =>
      (match sizeB P elem with
       | none => none
       | some n => match layAt (fun i => some (i * n, n)) (flat z) ps with
         | none => none
         | some c => some (.val (.agg ⟨c⟩)))
    | _, _, _ => none
  | .buildSlice t len parts =>
    match P.underlying t, partsOf T s parts.toList with
    | some (.slice elem), some ps =>
      (match P.info? elem, zeroB P elem with
       | some i, some z =>
         bif Nat.ble (len * i.size) 16777216 && Nat.beq (flat z).length i.size && Nat.blt 0 i.size then
           match layAt (fun j => some (j * i.size, i.size)) (repeatL len (flat z)) ps with
           | none => none
           | some c => some (.new (.cells c elem false false) fun id => .slice (some ⟨id, 0, none⟩) len len)
         else none
       | _, _ => none)
    | _, _ => none
  | .load t a => match operand T s a with
    | some (.pointer (some ad)) =>
      (match aggB P t with
      | none => none
      | some true =>
        match sizeB P t with
        | none => none
        | some n => match loadRow s ad n with
          | none => none
          | some l => some (.val (.agg ⟨l⟩))
      | some false => (loadCell s ad).map .val)
    | _ => none
  | .store t a x => match operand T s a, operand T s x, sizeB P t with
    | some (.pointer (some ad)), some v, some n =>
      (bif Nat.beq (flat v).length n && all1 (flat v) then
        match storeRow s ad (flat v) with
        | none => none
        | some s' => some (.eff (.tuple #[]) s')
      else none)
    | _, _, _ => none
  | .nilCheck x => match operand T s x with
    | some (.pointer (some a)) => some (.val (.pointer (some a)))
    | some (.func (.func f) a b) => some (.val (.func (.func f) a b))
    | some (.iface t v) => some (.val (.iface t v))
    | _ => none
  | .binOp op t x y _ => match operand T s x, operand T s y with
    | some a, some b => (binV P op t a b).map .val
    | _, _ => none
  | .unOp op _ x => match operand T s x with
    | some a => (unV op a).map .val
    | none => none
  | .convert a b x => match operand T s x with
    | some v => convertV P s a b v
    | none => none
  | .makeInterface t x => match P.underlying t, operand T s x with
    | some (.interface _), _ => none
    | some _, some v => some (.val (.iface t v))
    | _, _ => none
  | .makeFunc fn first captured => match operands T s first.toList, operands T s captured.toList with
    | some a, some b => bif isYield fn then none else some (.val (.func fn ⟨a⟩ ⟨b⟩))
    | _, _ => none
  | .makeMap _ none => some (.new (.map [] 0) fun id => .map (some id))
  | .lookup t m key ok => match operand T s m, operand T s key with
    | some mv, some kv => (lookA P s t mv kv ok).map .val
    | _, _ => none
  | .mapUpdate t m key val => match operand T s m, operand T s key, operand T s val with
    | some mv, some kv, some v => (match updS P s t mv kv v with
      | some s' => some (.eff (.tuple #[]) s')
      | none => none)
    | _, _, _ => none
  | .makeSlice t l c => match P.underlying t, operand T s l, operand T s c with
    | some (.slice elem), some (.int _ (.ofNat l)), some (.int _ (.ofNat c)) =>
      (match P.info? elem, zeroB P elem with
       | some i, some z =>
         bif Nat.ble l c && Nat.ble (i.bytes * c) 140737488355328 && Nat.ble c 1073741824 && Nat.beq (flat z).length i.size then
           some (.new (.cells (repeatL c (flat z)) elem false false) fun id => .slice (some ⟨id, 0, none⟩) l c)
         else none
       | _, _ => none)
    | _, _, _ => none
  | .slice t x lo hi mx => match operand T s x, opt T s lo, opt T s hi, opt T s mx with
    | some v, some l, some h, some m => (sliceV P s t v l h m).map .val
    | _, _, _, _ => none
  | .fieldAddr t x f => match P.underlying t, operand T s x with
    | some (.struct fields), some (.pointer (some a)) =>
      (match fields[f]? with
       | some fd => bif a.spot.isSome then none else match sizeB P fd.type with
         | some (_ + 1) => some (.val (.pointer (some (a.add fd.offset))))
         | _ => none
       | none => none)
    | _, _ => none
  | .field t x f => match P.underlying t, operand T s x with
    | some (.struct fields), some (.agg cs) =>
      (match fields[f]? with
       | some fd => (partB P fd.type cs.toList fd.offset).map .val
       | none => none)
    | _, _ => none
  | .indexAddr t x ix => match P.underlying t, operand T s x, operand T s ix with
    | some (.slice elem), some (.slice (some a) len _), some i =>
      (match idx i len, sizeB P elem with
       | some n, some z => some (.val (.pointer (some (a.add (n * z)))))
       | _, _ => none)
    | some (.array len elem), some (.pointer (some a)), some i =>
      (match idx i len, sizeB P elem with
       | some n, some z => some (.val (.pointer (some (a.add (n * z)))))
       | _, _ => none)
    | _, _, _ => none
  | .index t x ix => match P.underlying t, operand T s x, operand T s ix with
    | some (.array len elem), some (.agg cs), some i =>
      (match idx i len, sizeB P elem with
       | some n, some z => (partB P elem cs.toList (n * z)).map .val
       | _, _ => none)
    | some .string, some (.string b), some i =>
      (match idx i b.size with
       | some n => match b.data.toList[n]? with
         | some c => some (.val (.int .u8 c.toNat))
         | none => none
       | none => none)
    | _, _, _ => none
  | .extract x i => match operand T s x with
    | some (.tuple vs) => (vs.toList[i]?).map .val
    | _ => none
  | .call { callee := .builtin b, args, argTypes } =>
    match operands T s args.toList with
    | none => none
    | some vs =>
      match b with
      | .append => appendV P s argTypes.toList vs
      | .copy => copyV P s argTypes.toList vs
      | .len => (lenV P s argTypes.toList vs).map .val
      | .cap => (capV P s argTypes.toList vs).map .val
      | .max => match vs with | x :: r => (foldV true x r).map .val | [] => none
      | .min => match vs with | x :: r => (foldV false x r).map .val | [] => none
      | _ => none
  | .call { callee := .value f, args, .. } =>
    match operand T s f, operands T s args.toList with
    | some fv, some vs => callV P fv vs
    | _, _ => none
  | _ => none
def cls : Op → Nat
 | .move _ | .assign _ | .pick .. | .build .. | .nilCheck _ | .binOp .. | .unOp .. | .makeInterface .. | .makeFunc .. | .fieldAddr .. | .field .. | .indexAddr .. | .index .. | .extract .. => 0
 | .load .. | .slice .. | .lookup .. => 1
 | .convert a b _ => bif Nat.beq a b then 3 else 1
 | .call { callee := .builtin .len, .. } | .call { callee := .builtin .cap, .. } => 1
 | .call { callee := .builtin .max, .. } | .call { callee := .builtin .min, .. } => 0
 | .alloc _ | .box .. | .buildSlice .. | .makeSlice .. | .makeMap .. => 2
 | _ => 3
def want (ops : Array Oper) (T : ATmp) (o : Oper) : Option Bool :=
 match o.guard with
 | none => some true
 | some (j, b) => match ops[j]? with
  | none => some false
  | some g => match g.dst with
   | none => some false
   | some d => match T.get d with
    | some (.bool c) => some (c == b)
    | some (.tuple _) => some false
    | _ => none
def putT (nt : Nat) (T : ATmp) (dst : Option Tmp) (v : Value) : Option ATmp :=
 match dst with
 | none => some T
 | some d => bif Nat.blt d nt then some (T.put d v) else none
abbrev Caller := FuncId → List Value → ASt → Option (Value × ASt)
def fin (call : Caller) (s : ASt) : Option ANext → Option (Value × ASt)
 | none => none
 | some (.val v) => some (v, s)
 | some (.new b v) => some (v s.next, { s with heap := s.heap.put s.next b, next := s.next + 1 })
 | some (.eff v s') => some (v, s')
 | some (.enter f args) => call f args s
inductive AExit where
 | normal
 | exit (id : Nat)
 | ret
structure ARes where
 ex : AExit
 T : ATmp
 s : ASt
def edgeMask (M : Tr Nat) : List Edge → Nat
 | [] => 0
 | e :: r => bif Region.binds .any e then ((1 <<< e.on) ||| (M.get e.on).getD 0) ||| edgeMask M r else edgeMask M r
def masks : List Oper → Nat → Tr Nat → Tr Nat
 | [], _, M => M
 | o :: r, i, M => masks r (i + 1) (M.put i (edgeMask M o.after.toList))
def maskAt (M : Tr Nat) (i : Nat) : Nat := (M.get i).getD 0
def effs : List Oper → Nat → List Nat
 | [], _ => []
 | o :: r, i => bif Nat.beq (cls o.op) 3 then i :: effs r (i + 1) else effs r (i + 1)
def chainOk (M : Tr Nat) : List Nat → Bool
 | a :: b :: r => (maskAt M b).testBit a && chainOk M (b :: r)
 | _ => true
def lead (m : Nat) : List Nat → Nat
 | [] => 0
 | a :: r => bif m.testBit a then lead m r + 1 else 0
def quietAt (M : Tr Nat) (es : List Nat) (c : Nat) : List Oper → Nat → List Nat
 | [], _ => []
 | o :: r, i => bif !(Nat.beq (cls o.op) 3) && Nat.beq (lead (maskAt M i) es) c then i :: quietAt M es c r (i + 1) else quietAt M es c r (i + 1)
def stages (M : Tr Nat) (es : List Nat) (ops : List Oper) : List Nat → Nat → List Nat
 | [], c => quietAt M es c ops 0
 | e :: r, c => quietAt M es c ops 0 ++ e :: stages M es ops r (c + 1)
def prevOk (M : Tr Nat) (es : List Nat) (i : Nat) : Nat → Bool
 | 0 => true
 | k + 1 => match es[k]? with
  | some e => (maskAt M i).testBit e
  | none => false
def rowOk (M : Tr Nat) (es : List Nat) (ops : Array Oper) : List Nat → Nat → Nat → Option (Nat × Nat)
 | [], seen, k => some (seen, k)
 | i :: r, seen, k =>
  match ops[i]? with
  | none => none
  | some o =>
   bif !(seen.testBit i) && Nat.beq (maskAt M i &&& seen) (maskAt M i) then
    bif Nat.beq (cls o.op) 3 then
     match es[k]? with
     | some e => bif Nat.beq e i then rowOk M es ops r (seen ||| (1 <<< i)) (k + 1) else none
     | none => none
    else bif prevOk M es i k then rowOk M es ops r (seen ||| (1 <<< i)) k else none
   else none
def writersT : List Oper → Nat → Tr (List Nat) → Tr (List Nat)
 | [], _, W => W
 | o :: r, i, W => match o.dst with
  | none => writersT r (i + 1) W
  | some d => writersT r (i + 1) (W.put d (i :: (W.get d).getD []))
def tmpsOf : List Operand → List Nat
 | [] => []
 | .tmp t :: r => t :: tmpsOf r
 | _ :: r => tmpsOf r
def namesOf (ops : Array Oper) (o : Oper) : List Nat :=
 (match o.dst with | some d => [d] | none => []) ++ tmpsOf o.op.operands.toList ++
 (match o.guard with | some (g, _) => (match ops[g]? with | some x => (match x.dst with | some d => [d] | none => []) | none => []) | none => [])
def ordered (M : Tr Nat) (j : Nat) : List Nat → Bool
 | [] => true
 | i :: r => (Nat.beq i j || (maskAt M j).testBit i || (maskAt M i).testBit j) && ordered M j r
def nameOk (M : Tr Nat) (W : Tr (List Nat)) (j : Nat) : List Nat → Bool
 | [] => true
 | t :: r => ordered M j ((W.get t).getD []) && nameOk M W j r
def namesOk (M : Tr Nat) (W : Tr (List Nat)) (ops : Array Oper) : List Oper → Nat → Bool
 | [], _ => true
 | o :: r, j => nameOk M W j (namesOf ops o) && namesOk M W ops r (j + 1)
def edgesOk : List Edge → Nat → Bool
 | [], _ => true
 | e :: r, i => (!(Region.binds .any e) || Nat.blt e.on i) && edgesOk r i
def allEdges : List Oper → Nat → Bool
 | [], _ => true
 | o :: r, i => edgesOk o.after.toList i && (match o.op with | .select .. => false | _ => true) && allEdges r (i + 1)
structure Plan where
 M : Tr Nat
 es : List Nat
 row : List Nat
def plan (ops : Array Oper) : Option Plan :=
 let l := ops.toList
 let M := masks l 0 .nil
 let es := effs l 0
 let row := stages M es l es 0
 bif chainOk M es && allEdges l 0 && namesOk M (writersT l 0 .nil) ops l 0 then
  match rowOk M es ops row 0 0 with
  | some (seen, k) => bif Nat.beq (seen + 1) (1 <<< l.length) && Nat.beq k es.length then some ⟨M, es, row⟩ else none
  | none => none
 else none
def veq1 : Value → Value → Bool
 | .bool a, .bool b => a == b
 | .int k a, .int j b => decide (k = j) && decide (a = b)
 | .string a, .string b => beqL a.data.toList b.data.toList
 | .pointer none, .pointer none => true
 | .pointer (some a), .pointer (some b) => decide (a = b)
 | .slice none l c, .slice none l' c' => Nat.beq l l' && Nat.beq c c'
 | .slice (some a) l c, .slice (some b) l' c' => decide (a = b) && Nat.beq l l' && Nat.beq c c'
 | .map none, .map none => true
 | .map (some a), .map (some b) => Nat.beq a b
 | .nilFunc, .nilFunc => true
 | .nilIface, .nilIface => true
 | _, _ => false
def veqL : List Value → List Value → Bool
 | [], [] => true
 | a :: x, b :: y => veq1 a b && veqL x y
 | _, _ => false
def veq : Value → Value → Bool
 | .agg a, .agg b => veqL a.toList b.toList
 | .tuple a, .tuple b => veqL a.toList b.toList
 | a, b => veq1 a b
def beqBlk : ABlk → ABlk → Bool
 | .cells c e g r, .cells c' e' g' r' => veqL c c' && Nat.beq e e' && (g == g') && (r == r')
 | .map [] n, .map [] m => Nat.beq n m
 | _, _ => false
structure Rec where
 o : Op
 T : ATmp
 v : Value
 nb : Option (Nat × ABlk)
 lo : Nat
 hi : Nat
def again (P : Program) (s : ASt) (r : Rec) : Bool :=
 match r.nb with
 | none => match aOp P r.T s r.o with
  | some (.val v) => veq v r.v
  | _ => false
 | some (id, b) => match s.heap.get id with
  | some b' => beqBlk b b'
  | none => false
def hiOf (M : Tr Nat) (i : Nat) : List Nat → Nat → Nat
 | [], m => m
 | e :: r, k => bif (maskAt M e).testBit i then k else hiOf M i r (k + 1)
def dropN : Nat → List Nat → List Nat
 | 0, l => l
 | n + 1, _ :: l => dropN n l
 | _, [] => []
def ofArgs : List Value → Nat → ATmp → ATmp
 | [], _, T => T
 | v :: r, i, T => ofArgs r (i + 1) (T.put i v)
def resultL (P : Program) (T : ATmp) (s : ASt) : List ResultVar → Option (List Value)
 | [] => some []
 | .tmp t :: r => match T.get t, resultL P T s r with
  | some v, some l => some (v :: l)
  | _, _ => none
 | .cell a ty :: r => match aOp P T s (.load ty (.tmp a)), resultL P T s r with
  | some (.val v), some l => some (v :: l)
  | _, _ => none
def one : List Value → Value
 | [v] => v
 | l => .tuple ⟨l⟩
def start : ASt := ⟨.nil, 0, 0⟩
end Go.Vf
end
section
namespace Go.Vf
open Go.RowKit
structure RE where
 blk : Nat
 off : Nat
 room : Nat
 es : Nat
 grow : Bool
abbrev Ren := Nat → Option RE
def Ren.Le (ρ ρ' : Ren) : Prop := ∀ id e, ρ id = some e → ρ' id = some e
theorem Ren.Le.refl (ρ : Ren) : ρ.Le ρ := fun _ _ h => h
theorem Ren.Le.trans {a b c : Ren} (h : a.Le b) (k : b.Le c) : a.Le c := fun id e he => k id e (h id e he)
def ARel (ρ : Ren) (a a' : Addr) : Prop :=
 a.spot = none ∧ a'.spot = none ∧ ∃ e, ρ a.block = some e ∧ a'.block = e.blk ∧ a'.off = e.off + a.off
def SlIn (ρ : Ren) (a a' : Addr) (l c c' : Nat) : Prop :=
  a.spot = none ∧ a'.spot = none ∧ ∃ e, ρ a.block = some e ∧ a'.block = e.blk ∧
    ((e.grow = false ∧ a'.off = e.off + a.off ∧ c' = c) ∨
     (e.grow = true ∧ (l ≤ c' ∧ (c = 0 ∨ c = c' + 1)) ∧ e.off ≤ a'.off ∧ a'.off + c' * e.es ≤ e.off + e.room ∧ (l = 0 ∨ a'.off = e.off + a.off)))
def SlVoid (ρ : Ren) (a : Addr) (l c' : Nat) : Prop :=
 a.spot = none ∧ l = 0 ∧ c' = 0 ∧ ∃ e, ρ a.block = some e ∧ e.grow = true
def SlRel (ρ : Ren) (a a' : Addr) (l c c' : Nat) : Prop := SlIn ρ a a' l c c' ∨ SlVoid ρ a l c'
theorem SlRel.spot {ρ : Ren} {a a' : Addr} {l c c' : Nat} (h : SlRel ρ a a' l c c') : a.spot = none := h.elim (fun q => q.1) (fun q => q.1)
theorem SlRel.known {ρ : Ren} {a a' : Addr} {l c c' : Nat} (h : SlRel ρ a a' l c c') (hg : ∀ e, ρ a.block = some e → e.grow = false) : SlIn ρ a a' l c c' := by
 rcases h with h | ⟨_, _, _, e, h1, h2⟩
 ·exact h
 ·rw [hg e h1] at h2; cases h2
theorem ARel.mono {ρ ρ' : Ren} (h : ρ.Le ρ') {a a' : Addr} (r : ARel ρ a a') : ARel ρ' a a' :=
 ⟨r.1, r.2.1, let ⟨e, h1, h2⟩ := r.2.2; ⟨e, h _ _ h1, h2⟩⟩
theorem SlRel.mono {ρ ρ' : Ren} (h : ρ.Le ρ') {a a' : Addr} {l c c' : Nat} (r : SlRel ρ a a' l c c') : SlRel ρ' a a' l c c' :=
 r.imp (fun r => ⟨r.1, r.2.1, let ⟨e, h1, h2⟩ := r.2.2; ⟨e, h _ _ h1, h2⟩⟩) fun ⟨r1, r2, r3, e, h1, h2⟩ => ⟨r1, r2, r3, e, h _ _ h1, h2⟩
inductive VRel (ρ : Ren) : Value → Value → Prop
 | bool (b : Bool) : VRel ρ (.bool b) (.bool b)
 | int (k : IntKind) (n : Int) : VRel ρ (.int k n) (.int k n)
 | float (k : FloatKind) (n : Nat) : VRel ρ (.float k n) (.float k n)
 | complex (k : FloatKind) (n m : Nat) : VRel ρ (.complex k n m) (.complex k n m)
 | string (s : ByteArray) : VRel ρ (.string s) (.string s)
 | nilPtr : VRel ρ (.pointer none) (.pointer none)
 | nilSlice (l c : Nat) : VRel ρ (.slice none l c) (.slice none l c)
 | nilMap : VRel ρ (.map none) (.map none)
 | nilChan : VRel ρ (.chan none) (.chan none)
 | nilFunc : VRel ρ .nilFunc .nilFunc
 | nilIface : VRel ρ .nilIface .nilIface
 | pointer {a a' : Addr} (h : ARel ρ a a') : VRel ρ (.pointer (some a)) (.pointer (some a'))
 | slice {a a' : Addr} {l c c' : Nat} (h : SlRel ρ a a' l c c') : VRel ρ (.slice (some a) l c) (.slice (some a') l c')
 | map {r r' : Nat} {e : RE} (h : ρ r = some e) (hr : r' = e.blk) : VRel ρ (.map (some r)) (.map (some r'))
 | func (fn : Fn) {a b a' b' : Array Value} (hy : isYield fn = false) (h1 : a.toList.length = a'.toList.length) (h2 : b.toList.length = b'.toList.length)
   (h3 : ∀ (i : Nat) v v', a.toList[i]? = some v → a'.toList[i]? = some v' → VRel ρ v v')
   (h4 : ∀ (i : Nat) v v', b.toList[i]? = some v → b'.toList[i]? = some v' → VRel ρ v v') : VRel ρ (.func fn a b) (.func fn a' b')
 | yield {l l' : Nat} {e : RE} (h : ρ l = some e) (hr : l' = e.blk) : VRel ρ (.func (.yield l) #[] #[]) (.func (.yield l') #[] #[])
 | iface (t : TypeId) {v v' : Value} (h : VRel ρ v v') : VRel ρ (.iface t v) (.iface t v')
 | agg {a a' : Array Value} (h1 : a.toList.length = a'.toList.length)
   (h2 : ∀ (i : Nat) v v', a.toList[i]? = some v → a'.toList[i]? = some v' → VRel ρ v v') : VRel ρ (.agg a) (.agg a')
 | tuple {a a' : Array Value} (h1 : a.toList.length = a'.toList.length)
   (h2 : ∀ (i : Nat) v v', a.toList[i]? = some v → a'.toList[i]? = some v' → VRel ρ v v') : VRel ρ (.tuple a) (.tuple a')
def LRel (ρ : Ren) (x y : List Value) : Prop := x.length = y.length ∧ ∀ (i : Nat) v v', x[i]? = some v → y[i]? = some v' → VRel ρ v v'
theorem VRel.mono {ρ ρ' : Ren} (h : ρ.Le ρ') {v v' : Value} (r : VRel ρ v v') : VRel ρ' v v' := by
 induction r with
 | pointer r => exact .pointer (r.mono h)
 | slice r => exact .slice (r.mono h)
 | map r e => exact .map (h _ _ r) e
 | func fn hy h1 h2 _ _ i1 i2 => exact .func fn hy h1 h2 i1 i2
 | yield r e => exact .yield (h _ _ r) e
 | iface t _ i => exact .iface t i
 | agg h1 _ i => exact .agg h1 i
 | tuple h1 _ i => exact .tuple h1 i
 | bool => constructor
 | int => constructor
 | float => constructor
 | complex => constructor
 | string => constructor
 | nilPtr => constructor
 | nilSlice => constructor
 | nilMap => constructor
 | nilChan => constructor
 | nilFunc => constructor
 | nilIface => constructor
theorem LRel.mono {ρ ρ' : Ren} (h : ρ.Le ρ') {x y : List Value} (r : LRel ρ x y) : LRel ρ' x y :=
 ⟨r.1, fun i v v' a b => (r.2 i v v' a b).mono h⟩
theorem LRel.nil (ρ : Ren) : LRel ρ [] [] := ⟨rfl, fun i v v' a => by simp at a⟩
theorem LRel.cons {ρ : Ren} {v v' : Value} {x y : List Value} (h : VRel ρ v v') (r : LRel ρ x y) : LRel ρ (v :: x) (v' :: y) := by
 refine ⟨by simp [r.1], fun i a b ha hb => ?_⟩
 cases i with
 | zero => simp at ha hb; subst ha; subst hb; exact h
 | succ i => simp at ha hb; exact r.2 i a b ha hb
theorem LRel.head {ρ : Ren} {v v' : Value} {x y : List Value} (r : LRel ρ (v :: x) (v' :: y)) : VRel ρ v v' := r.2 0 _ _ rfl rfl
theorem LRel.tail {ρ : Ren} {v v' : Value} {x y : List Value} (r : LRel ρ (v :: x) (v' :: y)) : LRel ρ x y :=
 ⟨by simpa using r.1, fun i a b ha hb => r.2 (i + 1) a b (by simpa using ha) (by simpa using hb)⟩
theorem LRel.inv_nil {ρ : Ren} {y : List Value} (r : LRel ρ [] y) : y = [] := by
 cases y with
 | nil => rfl
 | cons => simp [LRel] at r
theorem LRel.inv_cons {ρ : Ren} {v : Value} {x y : List Value} (r : LRel ρ (v :: x) y) : ∃ v' y', y = v' :: y' ∧ VRel ρ v v' ∧ LRel ρ x y' := by
 cases y with
 | nil => simp [LRel] at r
 | cons v' y' => exact ⟨v', y', rfl, r.head, r.tail⟩
theorem LRel.get {ρ : Ren} {x y : List Value} (r : LRel ρ x y) {i : Nat} {v : Value} (h : x[i]? = some v) : ∃ v', y[i]? = some v' ∧ VRel ρ v v' := by
 have hi : i < x.length := by
  rcases Nat.lt_or_ge i x.length with h' | h'
  ·exact h'
  ·simp [List.getElem?_eq_none h'] at h
 refine ⟨y[i]'(r.1 ▸ hi), List.getElem?_eq_getElem _, r.2 i _ _ h (List.getElem?_eq_getElem _)⟩
theorem LRel.append {ρ : Ren} {x y x' y' : List Value} (r : LRel ρ x y) (r' : LRel ρ x' y') : LRel ρ (x ++ x') (y ++ y') := by
 refine ⟨by simp [r.1, r'.1], fun i a b ha hb => ?_⟩
 rw [List.getElem?_append] at ha hb
 by_cases h : i < x.length
 ·rw [if_pos h] at ha; rw [if_pos (r.1 ▸ h)] at hb; exact r.2 _ _ _ ha hb
 ·rw [if_neg h] at ha; rw [if_neg (r.1 ▸ h), ← r.1] at hb; exact r'.2 _ _ _ ha hb
theorem LRel.drop {ρ : Ren} {x y : List Value} (r : LRel ρ x y) (n : Nat) : LRel ρ (x.drop n) (y.drop n) :=
 ⟨by simp [r.1], fun i a b ha hb => by rw [List.getElem?_drop] at ha hb; exact r.2 _ _ _ ha hb⟩
theorem LRel.take {ρ : Ren} {x y : List Value} (r : LRel ρ x y) (n : Nat) : LRel ρ (x.take n) (y.take n) :=
 ⟨by simp [r.1], fun i a b ha hb => by
  rw [List.getElem?_take] at ha hb
  by_cases h : i < n
  ·rw [if_pos h] at ha hb; exact r.2 _ _ _ ha hb
  ·rw [if_neg h] at ha; cases ha⟩
theorem VRel.agg' {ρ : Ren} {a b : List Value} (h : LRel ρ a b) : VRel ρ (.agg ⟨a⟩) (.agg ⟨b⟩) := .agg h.1 h.2
theorem VRel.tuple' {ρ : Ren} {a b : List Value} (h : LRel ρ a b) : VRel ρ (.tuple ⟨a⟩) (.tuple ⟨b⟩) := .tuple h.1 h.2
theorem VRel.flat {ρ : Ren} {v v' : Value} (h : VRel ρ v v') : LRel ρ (flat v) (flat v') := by
 cases h <;> first
  | exact ⟨‹_›, ‹_›⟩
  | (refine .cons ?_ (.nil _); constructor <;> assumption)
  | exact .cons (by constructor) (.nil _)
theorem plain1_rel {ρ : Ren} {v : Value} (h : plain1 v = true) : VRel ρ v v := by
 cases v with
 | pointer a => cases a <;> simp [plain1] at h; exact .nilPtr
 | slice a l c => cases a <;> simp [plain1] at h; exact .nilSlice _ _
 | map a => cases a <;> simp [plain1] at h; exact .nilMap
 | chan a => cases a <;> simp [plain1] at h; exact .nilChan
 | func fn a b =>
  simp [plain1] at h
  obtain ⟨⟨hy, rfl⟩, rfl⟩ := h
  exact .func fn hy rfl rfl (fun i v v' ha => by simp at ha) (fun i v v' ha => by simp at ha)
 | iface t v => simp [plain1] at h
 | agg a => simp [plain1] at h
 | tuple a => simp [plain1] at h
 | _ => constructor
theorem plain_list {ρ : Ren} {l : List Value} (h : l.all plain1 = true) : LRel ρ l l :=
 ⟨rfl, fun i v v' a b => by
  rw [a] at b; cases b
  exact plain1_rel (List.all_eq_true.1 h v (List.mem_of_getElem? a))⟩
theorem plain_rel {ρ : Ren} {v : Value} (h : plainV v = true) : VRel ρ v v := by
 cases v with
 | agg a => exact .agg rfl (plain_list (ρ := ρ) (by simpa [plainV] using h)).2
 | tuple a => exact .tuple rfl (plain_list (ρ := ρ) (by simpa [plainV] using h)).2
 | iface t v => exact .iface t (plain1_rel (by simpa [plainV] using h))
 | _ => exact plain1_rel (by simpa [plainV] using h)
def MRel (ρ : Ren) (x y : List MapEntry) : Prop :=
 x.length = y.length ∧ ∀ (i : Nat) a b, x[i]? = some a → y[i]? = some b → VRel ρ a.key b.key ∧ VRel ρ a.val b.val ∧ a.born = b.born
def BRel (P : Program) (ρ : Ren) (w : World) (e : RE) : ABlk → Prop
 | .cells c t g r => e.grow = g ∧ ∃ (rc : List Value) (lo hi : Nat) (t0 : TypeId), w.heap[e.blk]? = some (.cells ⟨rc⟩ t0 (lo, hi)) ∧ (r = false → t0 = t ∧ (g = false → e.off = 0 ∧ e.room = rc.length ∧ (lo = hi ∨ rc.length ≤ lo))) ∧ (∀ i, i < e.room → ¬ (lo ≤ e.off + i ∧ e.off + i < hi)) ∧
   e.off + e.room ≤ rc.length ∧ c.length ≤ e.room ∧ (P.info? t).map (·.size) = some e.es ∧
   ∀ (i : Nat) v, c[i]? = some v → ∃ v', rc[e.off + i]? = some v' ∧ VRel ρ v v'
 | .map es clock => e.off = 0 ∧ ∃ es' : List MapEntry, w.heap[e.blk]? = some (.map ⟨es'⟩ clock) ∧ MRel ρ es es'
 | .siter s pos => e.off = 0 ∧ w.heap[e.blk]? = some (.stringIter s pos)
 | .miter m since seen stepped => e.off = 0 ∧ ∃ em : RE, ρ m = some em ∧ w.heap[e.blk]? = some (.mapIter (some em.blk) since ⟨seen⟩ stepped)
 | .loop r => e.off = 0 ∧ ∃ (tmps : Array Value) (fn d : Nat), w.heap[e.blk]? = some (.loop { state := r.state, pending := r.pending, fn, tmps, params := r.params, assign := r.assign, body := r.body, defers := d }) ∧
   tmps.size = r.nt ∧ ∀ t v, r.tmps.get t = some v → ∃ v', tmps[t]? = some v' ∧ VRel ρ v v'
 | .held c t => e.grow = true ∧ ∃ (rc : List Value) (lo hi : Nat) (t0 : TypeId), w.heap[e.blk]? = some (.cells ⟨rc⟩ t0 (lo, hi)) ∧ (false = false → t0 = t ∧ (true = false → e.off = 0 ∧ e.room = rc.length ∧ (lo = hi ∨ rc.length ≤ lo))) ∧ (∀ i, i < e.room → ¬ (lo ≤ e.off + i ∧ e.off + i < hi)) ∧
   e.off + e.room ≤ rc.length ∧ c.length ≤ e.room ∧ (P.info? t).map (·.size) = some e.es ∧
   ∀ (i : Nat) v, c[i]? = some v → ∃ v', rc[e.off + i]? = some v' ∧ VRel ρ v v'
def ABlk.ro : ABlk → Bool
 | .cells _ _ _ r => r
 | _ => false
theorem MRel.mono {ρ ρ' : Ren} (h : ρ.Le ρ') {x y : List MapEntry} (r : MRel ρ x y) : MRel ρ' x y :=
 ⟨r.1, fun i a b ha hb => let ⟨h1, h2, h3⟩ := r.2 i a b ha hb; ⟨h1.mono h, h2.mono h, h3⟩⟩
theorem BRel.mono {P : Program} {ρ ρ' : Ren} (h : ρ.Le ρ') {w w' : World} {e : RE} {b : ABlk} (hw : w'.heap[e.blk]? = w.heap[e.blk]?) (r : BRel P ρ w e b) : BRel P ρ' w' e b := by
 cases b with
 | cells c t g ro =>
  obtain ⟨h1, rc, lo, hi, t0, h2, ht0, h3, h4, h5, h6, h7⟩ := r
  exact ⟨h1, rc, lo, hi, t0, by rw [hw]; exact h2, ht0, h3, h4, h5, h6, fun i v hv => let ⟨v', a, b⟩ := h7 i v hv; ⟨v', a, b.mono h⟩⟩
 | map es clock =>
  obtain ⟨h1, es', h2, h3⟩ := r
  exact ⟨h1, es', by rw [hw]; exact h2, h3.mono h⟩
 | siter s pos => exact ⟨r.1, by rw [hw]; exact r.2⟩
 | miter m since seen stepped =>
  obtain ⟨h1, em, h2, h3⟩ := r
  exact ⟨h1, em, h _ _ h2, by rw [hw]; exact h3⟩
 | loop r =>
  obtain ⟨h1, tmps, fn, d, h2, h3, h4⟩ := r
  exact ⟨h1, tmps, fn, d, by rw [hw]; exact h2, h3, fun t v hv => let ⟨v', a, b⟩ := h4 t v hv; ⟨v', a, b.mono h⟩⟩
 | held c t =>
  obtain ⟨h1, rc, lo, hi, t0, h2, ht0, h3, h4, h5, h6, h7⟩ := r
  exact ⟨h1, rc, lo, hi, t0, by rw [hw]; exact h2, ht0, h3, h4, h5, h6, fun i v hv => let ⟨v', a, b⟩ := h7 i v hv; ⟨v', a, b.mono h⟩⟩
def Books (w0 w : World) : Prop := ∀ k : Nat, w0.heap[k]? = some (.deferred (some [])) → w.heap[k]? = some (.deferred (some []))
theorem Books.refl (w : World) : Books w w := fun _ h => h
theorem Books.trans {a b c : World} (h : Books a b) (h' : Books b c) : Books a c := fun k q => h' k (h k q)
theorem Books.trans' {w0 w : World} (h : Books w0 w) {D : Nat} {o : Obj} (hD : w0.heap.size ≤ D) : Books w0 (w.putObj D o) := fun k hk => by
 have := (Array.getElem?_eq_some_iff.1 hk).1
 exact (World.putObj_heap_other (by omega)).trans (h k hk)
theorem BRel.noBook {P : Program} {ρ : Ren} {w : World} {e : RE} {b : ABlk} (h : BRel P ρ w e b) : w.heap[e.blk]? ≠ some (.deferred (some [])) := by
 intro hx
 cases b with
 | cells c t g ro => obtain ⟨_, rc, lo, hi, t0, h2, _⟩ := h; rw [hx] at h2; cases h2
 | map es clock => obtain ⟨_, es', h2, _⟩ := h; rw [hx] at h2; cases h2
 | siter s pos => obtain ⟨_, h2⟩ := h; rw [hx] at h2; cases h2
 | miter m since seen stepped => obtain ⟨_, em, _, h2⟩ := h; rw [hx] at h2; cases h2
 | loop r => obtain ⟨_, tmps, fn, d, h2, _⟩ := h; rw [hx] at h2; cases h2
 | held c t => obtain ⟨_, rc, lo, hi, t0, h2, _⟩ := h; rw [hx] at h2; cases h2
structure HRel (P : Program) (B : Nat) (w0 : World) (ρ : Ren) (s : ASt) (w : World) : Prop where
 below : Below B w0 w
 base : B ≤ w0.heap.size
 books : Books w0 w
 blk : ∀ id b e, s.heap.get id = some b → ρ id = some e → BRel P ρ w e b
 own : ∀ id b e, s.heap.get id = some b → ρ id = some e → b.ro = false → B ≤ e.blk
 inj : ∀ i j b b' e e', s.heap.get i = some b → s.heap.get j = some b' → ρ i = some e → ρ j = some e' → b'.ro = false → i ≠ j → e.blk ≠ e'.blk
 lt : ∀ id e, ρ id = some e → e.blk < w.heap.size
 glob : ∀ g, g < s.gl → ∃ e, ρ g = some e ∧ e.blk = g ∧ e.off = 0
theorem HRel.size {P : Program} {B : Nat} {w0 : World} {ρ : Ren} {s : ASt} {w : World} (H : HRel P B w0 ρ s w) : B ≤ w.heap.size := Nat.le_trans H.base H.below.size
theorem HRel.drew {P : Program} {B : Nat} {w0 : World} {ρ : Ren} {s : ASt} {w : World} (H : HRel P B w0 ρ s w) : HRel P B w0 ρ s w.drew :=
 { below := H.below.drew, base := H.base, books := H.books, blk := fun id b e hb he => (H.blk id b e hb he).mono (.refl _) rfl, own := H.own, inj := H.inj, lt := H.lt, glob := H.glob }
theorem HRel.same {P : Program} {B : Nat} {w0 : World} {ρ : Ren} {s s' : ASt} {w : World} (H : HRel P B w0 ρ s w) (hg : s'.gl = s.gl)
  (h : ∀ id e b, ρ id = some e → s'.heap.get id = some b → s.heap.get id = some b) : HRel P B w0 ρ s' w :=
 {below := H.below, base := H.base, books := H.books, lt := H.lt
  blk := fun id b e hb he => H.blk id b e (h id e b he hb) he
  own := fun id b e hb he => H.own id b e (h id e b he hb) he
  inj := fun i j b b' e e' hb hb' he he' => H.inj i j b b' e e' (h i e b he hb) (h j e' b' he' hb') he he'
  glob := fun g hlt => H.glob g (hg ▸ hlt) }
def Ren.ext (ρ : Ren) (id : Nat) (e : RE) : Ren := fun i => if i = id then some e else ρ i
theorem Ren.le_ext {ρ : Ren} {id : Nat} {e : RE} (h : ρ id = none) : ρ.Le (ρ.ext id e) := by
 intro i x hx
 by_cases hi : i = id
 ·subst hi; rw [h] at hx; cases hx
 ·simp [Ren.ext, hi, hx]
theorem Ren.ext_self {ρ : Ren} {id : Nat} {e : RE} : (ρ.ext id e) id = some e := by simp [Ren.ext]
theorem HRel.new {P : Program} {B : Nat} {w0 : World} {ρ : Ren} {s : ASt} {w w' : World} (H : HRel P B w0 ρ s w) {id : Nat} {b : ABlk} {e : RE}
  (hf : ρ id = none) (hb : s.heap.get id = some b) (_hro : b.ro = false) (he : e.blk = w.heap.size)
  {o : Obj} (hh : w'.heap = w.heap.push o) (hos : w'.os = w.os) (htape : w'.tape = w.tape) (hout : w'.output = w.output)
  (hrel : BRel P (ρ.ext id e) w' e b) : HRel P B w0 (ρ.ext id e) s w' := by
 have hsz : w'.heap.size = w.heap.size + 1 := by rw [hh]; simp
 have hold : ∀ k, k < w.heap.size → w'.heap[k]? = w.heap[k]? := fun k hk => by rw [hh, Array.getElem?_push, if_neg (by omega)]
 have hB : B ≤ w.heap.size := H.size
 have hle := Ren.le_ext (e := e) hf
 have part : ∀ i x, (ρ.ext id e) i = some x → (i = id ∧ x = e) ∨ (i ≠ id ∧ ρ i = some x) := by
  intro i x hx
  by_cases hi : i = id
  ·left; simp [Ren.ext, hi] at hx; exact ⟨hi, hx.symm⟩
  ·right; simp [Ren.ext, hi] at hx; exact ⟨hi, hx⟩
 refine { below := ?_, base := H.base, books := ?_, blk := ?_, own := ?_, inj := ?_, lt := ?_, glob := ?_ }
 ·exact H.below.trans ⟨hos, htape, hout, by omega, fun k hk => hold k (by omega)⟩
 ·exact H.books.trans fun k hk => (hold k (Array.getElem?_eq_some_iff.1 hk).1).trans hk
 ·intro i b' x hb' hx
  rcases part i x hx with ⟨rfl, rfl⟩ | ⟨hi, hx'⟩
  ·rw [hb] at hb'; cases hb'; exact hrel
  ·exact (H.blk i b' x hb' hx').mono hle (hold _ (H.lt _ _ hx'))
 ·intro i b' x hb' hx hr
  rcases part i x hx with ⟨rfl, rfl⟩ | ⟨hi, hx'⟩
  ·omega
  ·exact H.own i b' x hb' hx' hr
 ·intro i j b1 b2 e1 e2 h1 h2 h3 h4 h6 hne
  rcases part i e1 h3 with ⟨rfl, rfl⟩ | ⟨hi, h3'⟩ <;> rcases part j e2 h4 with ⟨rfl, rfl⟩ | ⟨hj, h4'⟩
  ·exact absurd rfl hne
  ·have := H.lt _ _ h4'; omega
  ·have := H.lt _ _ h3'; omega
  ·exact H.inj i j b1 b2 e1 e2 h1 h2 h3' h4' h6 hne
 ·intro i x hx
  rcases part i x hx with ⟨rfl, rfl⟩ | ⟨hi, hx'⟩
  ·omega
  ·have := H.lt _ _ hx'; omega
 ·intro g hg
  obtain ⟨x, h1, h2⟩ := H.glob g hg
  exact ⟨x, hle _ _ h1, h2⟩
theorem HRel.turn {P : Program} {B : Nat} {w0 : World} {ρ : Ren} {s s' : ASt} {w w' : World} (H : HRel P B w0 ρ s w) {id : Nat} {b b' : ABlk} {e : RE}
  (hid : ρ id = some e) (hb : s.heap.get id = some b) (hro : b.ro = false) (hro' : b'.ro = false) (hget : ∀ i, s'.heap.get i = if i = id then some b' else s.heap.get i) (hgl : s'.gl = s.gl)
  (hsz : w'.heap.size = w.heap.size) (hold : ∀ k, k ≠ e.blk → w'.heap[k]? = w.heap[k]?) (hos : w'.os = w.os) (htape : w'.tape = w.tape) (hout : w'.output = w.output)
  (hrel : BRel P ρ w' e b') : HRel P B w0 ρ s' w' := by
 have hB : B ≤ e.blk := H.own _ _ _ hb hid hro
 have at_ : ∀ i x, s'.heap.get i = some x → (i = id ∧ x = b') ∨ (i ≠ id ∧ s.heap.get i = some x) := by
  intro i x hx
  rw [hget] at hx
  by_cases hi : i = id
  ·left; simp [hi] at hx; exact ⟨hi, hx.symm⟩
  ·right; simp [hi] at hx; exact ⟨hi, hx⟩
 refine { below := ?_, base := H.base, books := ?_, blk := ?_, own := ?_, inj := ?_, lt := ?_, glob := ?_ }
 ·exact H.below.trans ⟨hos, htape, hout, by omega, fun k hk => hold k (by omega)⟩
 ·exact H.books.trans fun k hk => (hold k fun q => (H.blk id b e hb hid).noBook (q ▸ hk)).trans hk
 ·intro i x y hx hy
  rcases at_ i x hx with ⟨rfl, rfl⟩ | ⟨hi, hx'⟩
  ·rw [hid] at hy; cases hy; exact hrel
  ·refine (H.blk i x y hx' hy).mono (.refl _) (hold _ ?_)
   exact H.inj i id x b y e hx' hb hy hid hro hi
 ·intro i x y hx hy hr
  rcases at_ i x hx with ⟨rfl, rfl⟩ | ⟨hi, hx'⟩
  ·rw [hid] at hy; cases hy; exact hB
  ·exact H.own i x y hx' hy hr
 ·intro i j b1 b2 e1 e2 h1 h2 h3 h4 h6 hne
  rcases at_ i b1 h1 with ⟨rfl, rfl⟩ | ⟨hi, h1'⟩ <;> rcases at_ j b2 h2 with ⟨rfl, rfl⟩ | ⟨hj, h2'⟩
  ·exact absurd rfl hne
  ·exact H.inj i j b b2 e1 e2 hb h2' h3 h4 h6 hne
  ·exact H.inj i j b1 b e1 e2 h1' hb h3 h4 hro hne
  ·exact H.inj i j b1 b2 e1 e2 h1' h2' h3 h4 h6 hne
 ·intro i x hx; rw [hsz]; exact H.lt _ _ hx
 ·intro g hg; exact H.glob g (hgl ▸ hg)
theorem HRel.move {P : Program} {B : Nat} {w0 : World} {ρ : Ren} {s s' : ASt} {w w' : World} (H : HRel P B w0 ρ s w) {id id' : Nat} {b b' : ABlk} {e e' : RE}
  (hid : ρ id = some e) (hb : s.heap.get id = some b) (hro : b.ro = false) (hf : ρ id' = none) (hro' : b'.ro = false)
  (hget : ∀ i, s'.heap.get i = if i = id' then some b' else if i = id then none else s.heap.get i) (hgl : s'.gl = s.gl)
  (hsz : w'.heap.size = w.heap.size) (hold : ∀ k, k ≠ e.blk → w'.heap[k]? = w.heap[k]?) (hos : w'.os = w.os) (htape : w'.tape = w.tape) (hout : w'.output = w.output)
  (he : e'.blk = e.blk) (hrel : BRel P (ρ.ext id' e') w' e' b') : HRel P B w0 (ρ.ext id' e') s' w' := by
 have hB : B ≤ e.blk := H.own _ _ _ hb hid hro
 have hle := Ren.le_ext (e := e') hf
 have part : ∀ i x, (ρ.ext id' e') i = some x → (i = id' ∧ x = e') ∨ (i ≠ id' ∧ ρ i = some x) := by
  intro i x hx
  by_cases hi : i = id'
  ·left; simp [Ren.ext, hi] at hx; exact ⟨hi, hx.symm⟩
  ·right; simp [Ren.ext, hi] at hx; exact ⟨hi, hx⟩
 have at_ : ∀ i x y, s'.heap.get i = some x → (ρ.ext id' e') i = some y → (i = id' ∧ x = b' ∧ y = e') ∨ (i ≠ id' ∧ i ≠ id ∧ s.heap.get i = some x ∧ ρ i = some y) := by
  intro i x y hx hy
  rw [hget] at hx
  rcases part i y hy with ⟨hi, hy'⟩ | ⟨hi, hy'⟩
  ·left; rw [if_pos hi] at hx; cases hx; exact ⟨hi, rfl, hy'⟩
  ·right
   rw [if_neg hi] at hx
   by_cases h2 : i = id
   ·rw [if_pos h2] at hx; cases hx
   ·rw [if_neg h2] at hx; exact ⟨hi, h2, hx, hy'⟩
 refine { below := ?_, base := H.base, books := ?_, blk := ?_, own := ?_, inj := ?_, lt := ?_, glob := ?_ }
 ·exact H.below.trans ⟨hos, htape, hout, by omega, fun k hk => hold k (by omega)⟩
 ·exact H.books.trans fun k hk => (hold k fun q => (H.blk id b e hb hid).noBook (q ▸ hk)).trans hk
 ·intro i x y hx hy
  rcases at_ i x y hx hy with ⟨rfl, rfl, rfl⟩ | ⟨h1, h2, h3, h4⟩
  ·exact hrel
  ·refine (H.blk i x y h3 h4).mono hle (hold _ ?_)
   exact H.inj i id x b y e h3 hb h4 hid hro h2
 ·intro i x y hx hy hr
  rcases at_ i x y hx hy with ⟨rfl, rfl, rfl⟩ | ⟨h1, h2, h3, h4⟩
  ·omega
  ·exact H.own i x y h3 h4 hr
 ·intro i j b1 b2 e1 e2 h1 h2 h3 h4 h6 hne
  rcases at_ i b1 e1 h1 h3 with ⟨rfl, rfl, rfl⟩ | ⟨q1, q2, q3, q4⟩ <;> rcases at_ j b2 e2 h2 h4 with ⟨rfl, rfl, rfl⟩ | ⟨p1, p2, p3, p4⟩
  ·exact absurd rfl hne
  ·rw [he]; exact Ne.symm (H.inj j id b2 b e2 e p3 hb p4 hid hro p2)
  ·rw [he]; exact H.inj i id b1 b e1 e q3 hb q4 hid hro q2
  ·exact H.inj i j b1 b2 e1 e2 q3 p3 q4 p4 h6 hne
 ·intro i x hx
  rw [hsz]
  rcases part i x hx with ⟨rfl, rfl⟩ | ⟨hi, hx'⟩
  ·rw [he]; exact H.lt _ _ hid
  ·exact H.lt _ _ hx'
 ·intro g hg
  obtain ⟨x, h1, h2⟩ := H.glob g (hgl ▸ hg)
  exact ⟨x, hle _ _ h1, h2⟩
theorem HRel.calm {P : Program} {B : Nat} {w0 : World} {ρ : Ren} {s s' : ASt} {w : World} (H : HRel P B w0 ρ s w) (hgl : s'.gl = s.gl)
  (h : ∀ i b' e, s'.heap.get i = some b' → ρ i = some e → ∃ b, s.heap.get i = some b ∧ (b'.ro = false → b.ro = false) ∧ (BRel P ρ w e b → BRel P ρ w e b')) : HRel P B w0 ρ s' w :=
 {below := H.below, base := H.base, books := H.books, lt := H.lt, glob := fun g hg => H.glob g (hgl ▸ hg)
  blk := fun id b' e hb he => by obtain ⟨b, h1, _, h3⟩ := h id b' e hb he; exact h3 (H.blk id b e h1 he)
  own := fun id b' e hb he hr => by obtain ⟨b, h1, h2, _⟩ := h id b' e hb he; exact H.own id b e h1 he (h2 hr)
  inj := fun i j b1 b2 e1 e2 h1 h2 h3 h4 h5 h6 => by
   obtain ⟨c1, k1, _, _⟩ := h i b1 e1 h1 h3
   obtain ⟨c2, q1, q2, _⟩ := h j b2 e2 h2 h4
   exact H.inj i j c1 c2 e1 e2 k1 q1 h3 h4 (q2 h5) h6 }
theorem HRel.view {P : Program} {B : Nat} {w0 : World} {ρ : Ren} {s s' : ASt} {w : World} (H : HRel P B w0 ρ s w) (hgl : s'.gl = s.gl) {id : Nat} {b : ABlk} {e : RE} (hro : b.ro = true) (hid : ρ id = some e) (hrel : BRel P ρ w e b)
  (hget : ∀ i, s'.heap.get i = if i = id then some b else s.heap.get i) (hsep : ∀ j bj ej, j ≠ id → s.heap.get j = some bj → ρ j = some ej → bj.ro = false → e.blk ≠ ej.blk) : HRel P B w0 ρ s' w := by
 have at_ : ∀ i x, s'.heap.get i = some x → (i = id ∧ x = b) ∨ (i ≠ id ∧ s.heap.get i = some x) := by
  intro i x hx
  rw [hget] at hx
  by_cases hi : i = id
  ·left; simp [hi] at hx; exact ⟨hi, hx.symm⟩
  ·right; simp [hi] at hx; exact ⟨hi, hx⟩
 refine { below := H.below, base := H.base, books := H.books, lt := H.lt, glob := fun g hg => H.glob g (hgl ▸ hg), blk := ?_, own := ?_, inj := ?_ }
 ·intro i x y hx hy
  rcases at_ i x hx with ⟨rfl, rfl⟩ | ⟨hi, hx'⟩
  ·rw [hid] at hy; cases hy; exact hrel
  ·exact H.blk i x y hx' hy
 ·intro i x y hx hy hr
  rcases at_ i x hx with ⟨rfl, rfl⟩ | ⟨hi, hx'⟩
  ·rw [hro] at hr; cases hr
  ·exact H.own i x y hx' hy hr
 ·intro i j b1 b2 e1 e2 h1 h2 h3 h4 h5 h6
  rcases at_ j b2 h2 with ⟨rfl, rfl⟩ | ⟨hj, h2'⟩
  ·rw [hro] at h5; cases h5
  rcases at_ i b1 h1 with ⟨rfl, rfl⟩ | ⟨hi, h1'⟩
  ·rw [hid] at h3; cases h3; exact hsep j b2 e2 hj h2' h4 h5
  ·exact H.inj i j b1 b2 e1 e2 h1' h2' h3 h4 h5 h6
theorem HRel.rebase {P : Program} {B : Nat} {w0 : World} {ρ : Ren} {s : ASt} {w : World} (H : HRel P B w0 ρ s w) : HRel P B w ρ s w :=
 { below := .refl _ _, base := H.size, books := .refl _, blk := H.blk, own := H.own, inj := H.inj, lt := H.lt, glob := H.glob }
theorem HRel.join {P : Program} {B : Nat} {w0 w : World} {ρ ρ' : Ren} {s s' : ASt} {w' : World} (H : HRel P B w0 ρ s w) (H' : HRel P B w ρ' s' w') : HRel P B w0 ρ' s' w' :=
 { below := H.below.trans H'.below, base := H.base, books := H.books.trans H'.books, blk := H'.blk, own := H'.own, inj := H'.inj, lt := H'.lt, glob := H'.glob }
theorem HRel.shut {P : Program} {B : Nat} {w0 : World} {ρ : Ren} {s : ASt} {w : World} (H : HRel P B w0 ρ s w) {D : Nat} (hD : w0.heap.size ≤ D) (h : w.heap[D]? = some (.deferred (some []))) (o : Obj) : HRel P B w0 ρ s (w.putObj D o) := by
 have hb := H.base
 refine { below := H.below.trans ⟨rfl, rfl, rfl, by simp, fun k hk => World.putObj_heap_other (by omega)⟩, base := H.base, books := H.books.trans' hD, blk := ?_, own := H.own, inj := H.inj, lt := fun id e he => by simpa using H.lt id e he, glob := H.glob }
 intro id b e hb he
 have r := H.blk id b e hb he
 exact r.mono (.refl _) (World.putObj_heap_other fun q => r.noBook (q ▸ h))
end Go.Vf
end
section
namespace Go.Vf
open Go.RowKit
theorem cell_at {w : World} {b : Nat} {rc : List Value} {t : TypeId} {fz : Nat × Nat} (h : w.heap[b]? = some (.cells ⟨rc⟩ t fz)) (i : Nat) : w.cell? ⟨b, i, none⟩ = rc[i]? := by
 unfold World.cell?
 rw [h]
 simp
theorem takeN_eq : ∀ (n : Nat) (x l : List Value), takeN n x = some l → l = x.take n ∧ n ≤ x.length
 | 0, x, l, h => by simp [takeN] at h; subst h; simp
 | n + 1, [], l, h => by simp [takeN] at h
 | n + 1, v :: r, l, h => by
  simp only [takeN] at h
  split at h
  ·cases h
  ·rename_i l' hl
   cases h
   obtain ⟨e, hn⟩ := takeN_eq n r l' hl
   simp [← e]; exact hn
theorem add_eq (b o i : Nat) : (Addr.mk b o none).add i = ⟨b, o + i, none⟩ := by
 unfold Addr.add
 by_cases h : i = 0
 ·simp [h]
 ·simp [h]
theorem addr_eq {a : Addr} (h : a.spot = none) : a = ⟨a.block, a.off, none⟩ := by cases a; simp_all
theorem ARel.add {ρ : Ren} {a a' : Addr} (h : ARel ρ a a') (n : Nat) : ARel ρ (a.add n) (a'.add n) := by
 obtain ⟨h1, h2, e, h3, h4, h5⟩ := h
 rw [addr_eq h1, addr_eq h2, add_eq, add_eq]
 exact ⟨rfl, rfl, e, h3, h4, by simp only; omega⟩
section
variable {P : Program} {B : Nat} {w0 : World} {ρ : Ren} {s : ASt} {w : World}
theorem load_ok (H : HRel P B w0 ρ s w) {a a' : Addr} (ha : ARel ρ a a') {n : Nat} {l : List Value} (h : loadRow s a n = some l) :
  ∃ l', (loadCells a' n).run P w = .ok ⟨l'⟩ w ∧ LRel ρ l l' ∧ l.length = n := by
 obtain ⟨h1, h2, e, h3, h4, h5⟩ := ha
 unfold loadRow at h
 rw [h1] at h
 simp only [Option.isSome_none, cond_false] at h
 split at h
 ·rename_i c t g ro hb
  obtain ⟨rfl, hn⟩ := takeN_eq _ _ _ h
  obtain ⟨-, rc, lo, hi, t0, g2, ht0, g3, g4, g5, g6, g7⟩ := H.blk _ _ _ hb h3
  rw [List.length_drop] at hn
  have hlen : ((rc.drop a'.off).take n).length = n := by simp; omega
  refine ⟨(rc.drop a'.off).take n, ?_, ?_, by simp; omega⟩
  ·have := run_loadCells_list (P := P) (w := w) a' ((rc.drop a'.off).take n) (fun j v hv => by
    rw [List.getElem?_take] at hv
    split at hv
    ·rw [addr_eq h2, add_eq, h4, cell_at g2, ← List.getElem?_drop]; exact hv
    ·cases hv)
   rw [hlen] at this
   exact this
  ·refine ⟨by simp; omega, fun i v v' hv hv' => ?_⟩
   rw [List.getElem?_take] at hv hv'
   by_cases hi : i < n
   ·rw [if_pos hi, List.getElem?_drop] at hv hv'
    obtain ⟨v'', q1, q2⟩ := g7 _ _ hv
    rw [h5] at hv'
    rw [show e.off + (a.off + i) = e.off + a.off + i from by omega] at q1
    rw [q1] at hv'; cases hv'; exact q2
   ·rw [if_neg hi] at hv; cases hv
 ·cases h
def lset : List Value → Nat → List Value → List Value
 | rc, _, [] => rc
 | rc, k, v :: vs => lset (rc.set k v) (k + 1) vs
theorem lset_length : ∀ (vs : List Value) (rc : List Value) (k : Nat), (lset rc k vs).length = rc.length
 | [], _, _ => rfl
 | v :: vs, rc, k => by simp [lset, lset_length vs]
theorem lset_get : ∀ (vs : List Value) (rc : List Value) (k j : Nat), k + vs.length ≤ rc.length →
  (lset rc k vs)[j]? = if k ≤ j ∧ j < k + vs.length then vs[j - k]? else rc[j]?
 | [], rc, k, j, _ => by simp [lset]; omega
 | v :: vs, rc, k, j, h => by
  simp only [List.length_cons] at h
  simp only [lset]
  rw [lset_get vs (rc.set k v) (k + 1) j (by simp; omega)]
  simp only [List.length_cons]
  by_cases e : j = k
  ·subst e
   rw [if_neg (by omega), if_pos (by omega), List.getElem?_set_self (by omega)]
   simp
  ·by_cases e2 : k + 1 ≤ j ∧ j < k + 1 + vs.length
   ·rw [if_pos e2, if_pos (by omega), show j - k = (j - (k + 1)) + 1 from by omega, List.getElem?_cons_succ]
   ·rw [if_neg e2, if_neg (by omega), List.getElem?_set_ne (by omega)]
theorem setRow_eq : ∀ (c : List Value) (o : Nat) (vs c' : List Value), setRow c o vs = some c' → c' = lset c o vs ∧ o + vs.length ≤ c.length
 | [], 0, [], c', h => by simp [setRow] at h; subst h; exact ⟨rfl, by simp⟩
 | y :: c, 0, [], c', h => by simp [setRow] at h; subst h; exact ⟨rfl, by simp⟩
 | [], 0, x :: xs, c', h => by simp [setRow] at h
 | [], o + 1, vs, c', h => by simp [setRow] at h
 | y :: c, 0, x :: xs, c', h => by
  simp only [setRow] at h
  split at h
  ·cases h
  ·rename_i r hr
   cases h
   obtain ⟨e, hn⟩ := setRow_eq c 0 xs r hr
   have key : ∀ (vs : List Value) (c : List Value) (y : Value) (k : Nat), lset (y :: c) (k + 1) vs = y :: lset c k vs := by
    intro vs
    induction vs with
    | nil => intros; rfl
    | cons a vs ih => intro c y k; simp [lset, ih]
   refine ⟨?_, by simp; omega⟩
   simp only [lset, List.set_cons_zero]
   rw [key, e]
 | y :: c, o + 1, vs, c', h => by
  have key : ∀ (vs : List Value) (c : List Value) (y : Value) (k : Nat), lset (y :: c) (k + 1) vs = y :: lset c k vs := by
   intro vs
   induction vs with
   | nil => intros; rfl
   | cons a vs ih => intro c y k; simp [lset, ih]
  simp only [setRow] at h
  split at h
  ·cases h
  ·rename_i r hr
   cases h
   obtain ⟨e, hn⟩ := setRow_eq c o vs r hr
   exact ⟨by rw [key, e], by simp; omega⟩
theorem run_storeCells_row (b o : Nat) (t : TypeId) (lo hi : Nat) : ∀ (vs : List Value) (i : Nat) (w : World) (rc : List Value), w.heap[b]? = some (.cells ⟨rc⟩ t (lo, hi)) →
  o + i + vs.length ≤ rc.length → (∀ j, j < vs.length → ¬ (lo ≤ o + i + j ∧ o + i + j < hi)) → (∀ v ∈ vs, v.oneCell' = true) →
  ∃ w', (storeCells ⟨b, o, none⟩ vs i).run P w = .ok () w' ∧ w'.heap[b]? = some (.cells ⟨lset rc (o + i) vs⟩ t (lo, hi)) ∧ (∀ k, k ≠ b → w'.heap[k]? = w.heap[k]?) ∧
   w'.heap.size = w.heap.size ∧ w'.os = w.os ∧ w'.tape = w.tape ∧ w'.output = w.output
 | [], i, w, rc, hb, _, _, _ => ⟨w, by simp [storeCells], hb, fun _ _ => rfl, rfl, rfl, rfl, rfl⟩
 | v :: vs, i, w, rc, hb, hl, hfz, h1 => by
  simp only [List.length_cons] at hl hfz
  have hc : w.cell? ⟨b, o + i, none⟩ = some (rc[o + i]'(by omega)) := by rw [cell_at hb]; exact List.getElem?_eq_getElem _
  have hf : w.frozen? ⟨b, o + i, none⟩ = false := by
   unfold World.frozen?
   rw [hb]
   have := hfz 0 (by omega)
   simp only [Nat.add_zero] at this
   simp only [Bool.and_eq_false_iff, decide_eq_false_iff_not]
   omega
  have hset : (w.setCell ⟨b, o + i, none⟩ v).heap[b]? = some (.cells ⟨rc.set (o + i) v⟩ t (lo, hi)) := by
   simp only [World.setCell, Array.getElem?_modify, if_true, hb, Option.map_some]
   simp
  obtain ⟨w', r1, r2, r3, r4, r5, r6, r7⟩ := run_storeCells_row b o t lo hi vs (i + 1) (w.setCell ⟨b, o + i, none⟩ v) (rc.set (o + i) v) hset (by simp; omega)
   (fun j hj => by have := hfz (j + 1) (by omega); omega) (fun x hx => h1 x (List.mem_cons_of_mem _ hx))
  refine ⟨w', ?_, ?_, ?_, ?_, r5, r6, r7⟩
  ·simp only [storeCells, Sem.run_bind, add_eq]
   rw [run_store P w _ v _ (h1 v (List.mem_cons_self ..)), hc]
   simp only [hf, Bool.false_eq_true, if_false, Result.andThen_ok]
   exact r1
  ·rw [r2]; simp only [lset]; rw [show o + (i + 1) = o + i + 1 from by omega]
  ·intro k hk
   rw [r3 k hk]
   simp only [World.setCell, Array.getElem?_modify]
   rw [if_neg (Ne.symm hk)]
  ·rw [r4]; simp
theorem all1_one {ρ : Ren} : ∀ {vs vs' : List Value}, all1 vs = true → LRel ρ vs vs' → ∀ v ∈ vs', v.oneCell' = true
 | [], vs', _, r => by rw [r.inv_nil]; simp
 | v :: vs, vs', h, r => by
  obtain ⟨v', y', rfl, hv, hr⟩ := r.inv_cons
  have h2 : v.oneCell' = true ∧ all1 vs = true := by
   cases v <;> simp [all1] at h <;> exact ⟨rfl, h⟩
  intro x hx
  cases hx with
  | head => cases hv <;> first | rfl | simp [Value.oneCell'] at h2
  | tail _ hx => exact all1_one h2.2 hr x hx
theorem store_ok (H : HRel P B w0 ρ s w) {a a' : Addr} (ha : ARel ρ a a') {vs vs' : List Value} {s' : ASt} (h : storeRow s a vs = some s') (h1 : all1 vs = true) (hv : LRel ρ vs vs') :
  ∃ w', (storeCells a' vs').run P w = .ok () w' ∧ HRel P B w0 ρ s' w' ∧ s'.next = s.next ∧ s'.gl = s.gl := by
 obtain ⟨p1, p2, e, p3, p4, p5⟩ := ha
 unfold storeRow at h
 rw [p1] at h
 simp only [Option.isSome_none, cond_false] at h
 split at h
 ·rename_i c t g hb
  split at h
  ·cases h
  ·rename_i c' hc
   cases h
   obtain ⟨rfl, hl⟩ := setRow_eq _ _ _ _ hc
   obtain ⟨g1, rc, lo, hi, t0, g2, ht0, g3, g4, g5, g6, g7⟩ := H.blk _ _ _ hb p3
   obtain ⟨rfl, hz⟩ := ht0 rfl
   rw [addr_eq p2, p4, p5]
   obtain ⟨w', r1, r2, r3, r4, r5, r6, r7⟩ := run_storeCells_row (P := P) e.blk (e.off + a.off) t0 lo hi vs' 0 w rc g2 (by have := hv.1; omega)
    (fun j hj => by have := g3 (a.off + j) (by have := hv.1; omega); have := hv.1; omega) (all1_one h1 hv)
   refine ⟨w', r1, ?_, rfl, rfl⟩
   refine H.turn (b' := .cells (lset c a.off vs) t0 g false) p3 hb rfl rfl (fun i => by simp) rfl r4 r3 r5 r6 r7 ?_
   refine ⟨g1, _, lo, hi, _, r2, fun _ => ⟨rfl, fun hg => by rw [lset_length]; exact hz hg⟩, g3, by rw [lset_length]; exact g4, by rw [lset_length]; exact g5, g6, ?_⟩
   intro i v hi
   rw [lset_get _ _ _ _ hl] at hi
   rw [Nat.add_zero, lset_get _ _ _ _ (by have := hv.1; omega)]
   by_cases hh : a.off ≤ i ∧ i < a.off + vs.length
   ·rw [if_pos hh] at hi
    rw [if_pos (by have := hv.1; omega), show e.off + i - (e.off + a.off) = i - a.off from by omega]
    exact hv.get hi
   ·rw [if_neg hh] at hi
    rw [if_neg (by have := hv.1; omega)]
    exact g7 _ _ hi
 ·cases h
theorem new_ok (H : HRel P B w0 ρ s w) {id : Nat} {c : List Value} {t : TypeId} {g : Bool} {es : Nat} (hf : ρ id = none) (hb : s.heap.get id = some (.cells c t g false))
  (hes : (P.info? t).map (·.size) = some es) {rc rest : List Value} (hr : LRel ρ c rc) {lo hi : Nat} (hfz : lo = hi ∨ (rc ++ rest).length ≤ lo)
  {w' : World} (hh : w'.heap = w.heap.push (.cells ⟨rc ++ rest⟩ t (lo, hi))) (hos : w'.os = w.os) (htape : w'.tape = w.tape) (hout : w'.output = w.output) :
  HRel P B w0 (ρ.ext id ⟨w.heap.size, 0, (rc ++ rest).length, es, g⟩) s w' := by
 refine H.new hf hb rfl rfl hh hos htape hout ⟨rfl, rc ++ rest, lo, hi, t, ?_, fun _ => ⟨rfl, fun _ => ⟨rfl, rfl, hfz⟩⟩, ?_, ?_, ?_, hes, ?_⟩
 ·rw [hh]; simp
 ·intro i hi; simp only at hi ⊢; omega
 ·simp
 ·rw [hr.1]; simp
 ·intro i v hv
  obtain ⟨v', h1, h2⟩ := hr.get hv
  refine ⟨v', ?_, h2.mono (Ren.le_ext hf)⟩
  have hi : i < rc.length := by
   rcases Nat.lt_or_ge i rc.length with h' | h'
   ·exact h'
   ·simp [List.getElem?_eq_none h'] at h1
  simp only [Nat.zero_add]
  rw [List.getElem?_append_left hi]; exact h1
end
end Go.Vf
end
section
namespace Go.Vf
open Go.RowKit
def Free (ρ : Ren) (n m : Nat) : Prop := ∀ id, n ≤ id → id < m → ρ id = none
def Ext (ρ ρ' : Ren) (n m : Nat) : Prop := ρ.Le ρ' ∧ ∀ id, ρ' id ≠ none → ρ id ≠ none ∨ (n ≤ id ∧ id < m)
theorem Ext.refl (ρ : Ren) (n m : Nat) : Ext ρ ρ n m := ⟨.refl ρ, fun _ h => .inl h⟩
theorem Ext.one {ρ : Ren} {id : Nat} {e : RE} (h : ρ id = none) {m : Nat} (hm : id < m) : Ext ρ (ρ.ext id e) id m :=
 ⟨Ren.le_ext h, fun i hi => by
  by_cases hi' : i = id
  ·right; omega
  ·left; simpa [Ren.ext, hi'] using hi⟩
structure Good (P : Program) : Prop where
 num : ∀ (f : Nat) fn, P.funcs[f]? = some fn → (fn.name == "runtime.NumGoroutine") = false
 mixed : P.follows .mixedOrders = true
section
variable (P : Program) (B : Nat) (w0 : World) (ρ : Ren) (s : ASt) (w : World)
def Post (ev : Operand → Value) (o : Oper) : ANext → Prop
 | .val v => ∃ v', (execOp ev o).run P w = .ok (.value v') w ∧ VRel ρ v v'
 | .new b vf => b.ro = false ∧ ∀ (id : Nat) (σ : ASt), ρ id = none → HRel P B w0 ρ σ w → σ.heap.get id = some b →
   ∃ v' w' e, (execOp ev o).run P w = .ok (.value v') w' ∧ HRel P B w0 (ρ.ext id e) σ w' ∧ VRel (ρ.ext id e) (vf id) v'
 | .eff v s' => s.next ≤ s'.next ∧ (Free ρ s.next s'.next → ∃ n w' ρ' v', (execOp ev o).run P w = .ok n w' ∧ (n = .value v' ∨ (n = .skip ∧ v' = undef)) ∧ VRel ρ' v v' ∧
   HRel P B w0 ρ' s' w' ∧ Ext ρ ρ' s.next s'.next)
 | .enter f args => ∃ args' : List Value, (execOp ev o).run P w = .ok (.enter f ⟨args'⟩) w ∧ LRel ρ args args'
end
section
variable {P : Program} {B : Nat} {w0 : World} {ρ : Ren} {s : ASt} {w : World} {T : ATmp} {ev : Operand → Value} {o : Oper}
theorem operands_rel (hE : ∀ x v, operand T s x = some v → VRel ρ v (ev x)) : ∀ {l : List Operand} {vs : List Value}, operands T s l = some vs → LRel ρ vs (l.map ev)
 | [], vs, h => by simp [operands] at h; subst h; exact .nil _
 | x :: r, vs, h => by
  simp only [operands] at h
  split at h
  ·cases h
  ·rename_i v hv
   split at h
   ·cases h
   ·rename_i l hl
    cases h
    exact .cons (hE _ _ hv) (operands_rel hE hl)
theorem info_of_size {t : TypeId} {n : Nat} (h : sizeB P t = some n) : ∃ i, P.info? t = some i ∧ i.size = n := by
 unfold sizeB at h
 cases hi : P.info? t with
 | none => simp [hi] at h
 | some i => simp [hi] at h; exact ⟨i, rfl, h⟩
theorem run_sizeB {t : TypeId} {n : Nat} (h : sizeB P t = some n) (w : World) : (sizeOf t).run P w = .ok n w := by
 obtain ⟨i, hi, hn⟩ := info_of_size h
 rw [run_sizeOf w hi]
 simp [Program.cellsOf, hi, hn]
theorem run_aggB {t : TypeId} {b : Bool} (h : aggB P t = some b) (w : World) : (isAgg t).run P w = .ok b w := by
 unfold aggB at h
 unfold isAgg
 cases hd : P.underlying t with
 | none => simp [hd] at h
 | some d =>
  simp only [Sem.run_bind, run_underlying hd, Result.andThen_ok]
  rw [hd] at h
  cases d <;> simp at h <;> subst h <;> rfl
theorem run_zeroB {t : TypeId} {z : Value} (h : zeroB P t = some z) (w : World) : (zeroValue t).run P w = .ok z w ∧ VRel ρ z z := by
 unfold zeroB at h
 split at h
 ·rename_i i hi
  split at h
  ·rename_i v hv
   cases hp : plainV v with
   | false => simp [hp] at h
   | true =>
    simp [hp] at h
    subst h
    refine ⟨?_, plain_rel hp⟩
    unfold zeroValue
    simp only [Sem.run_bind, run_typeInfo w hi, Result.andThen_ok, hv, Sem.run_pure]
  ·cases h
 ·cases h
theorem ptr_inv {a : Addr} {v' : Value} (h : VRel ρ (.pointer (some a)) v') : ∃ a', v' = .pointer (some a') ∧ ARel ρ a a' := by cases h; exact ⟨_, rfl, by assumption⟩
theorem int_inv {k : IntKind} {n : Int} {v' : Value} (h : VRel ρ (.int k n) v') : v' = .int k n := by cases h; rfl
theorem bool_inv {b : Bool} {v' : Value} (h : VRel ρ (.bool b) v') : v' = .bool b := by cases h; rfl
theorem str_inv {b : ByteArray} {v' : Value} (h : VRel ρ (.string b) v') : v' = .string b := by cases h; rfl
theorem agg_inv {a : Array Value} {v' : Value} (h : VRel ρ (.agg a) v') : ∃ a', v' = .agg a' ∧ LRel ρ a.toList a'.toList := by
 cases h; rename_i a' h1 h2; exact ⟨a', rfl, h1, h2⟩
theorem tuple_inv {a : Array Value} {v' : Value} (h : VRel ρ (.tuple a) v') : ∃ a', v' = .tuple a' ∧ LRel ρ a.toList a'.toList := by
 cases h; rename_i a' h1 h2; exact ⟨a', rfl, h1, h2⟩
theorem slice_inv {a : Addr} {l c : Nat} {v' : Value} (h : VRel ρ (.slice (some a) l c) v') : ∃ a' c', v' = .slice (some a') l c' ∧ SlRel ρ a a' l c c' := by
 cases h; exact ⟨_, _, rfl, by assumption⟩
theorem func_inv {f : FuncId} {a b : Array Value} {v' : Value} (h : VRel ρ (.func (.func f) a b) v') : ∃ a' b', v' = .func (.func f) a' b' ∧ LRel ρ a.toList a'.toList ∧ LRel ρ b.toList b'.toList := by
 cases h; exact ⟨_, _, rfl, ⟨by assumption, by assumption⟩, ⟨by assumption, by assumption⟩⟩
theorem iface_inv {t : TypeId} {v v' : Value} (h : VRel ρ (.iface t v) v') : ∃ u, v' = .iface t u ∧ VRel ρ v u := by
 cases h; exact ⟨_, rfl, by assumption⟩
theorem slice0_inv {l c : Nat} {v' : Value} (h : VRel ρ (.slice none l c) v') : v' = .slice none l c := by cases h; rfl
theorem SlRel.addr {a a' : Addr} {l c c' : Nat} (h : SlRel ρ a a' l c c') (hl : 0 < l) : ARel ρ a a' := by
 rcases h with ⟨h1, h2, e, h3, h4, h5⟩ | ⟨_, h0, _⟩
 case inr => omega
 refine ⟨h1, h2, e, h3, h4, ?_⟩
 rcases h5 with h5 | h5
 ·exact h5.2.1
 ·rcases h5.2.2.2.2 with h6 | h6
  ·omega
  ·exact h6
theorem cell_ok (H : HRel P B w0 ρ s w) {a a' : Addr} (ha : ARel ρ a a') {v : Value} (h : loadCell s a = some v) : ∃ v', w.cell? a' = some v' ∧ VRel ρ v v' := by
 obtain ⟨h1, h2, e, h3, h4, h5⟩ := ha
 unfold loadCell at h
 rw [h1] at h
 simp only [Option.isSome_none, cond_false] at h
 split at h
 ·rename_i c t g ro hb
  obtain ⟨-, rc, lo, hi, t0, g2, ht0, g3, g4, g5, g6, g7⟩ := H.blk _ _ _ hb h3
  obtain ⟨v', q1, q2⟩ := g7 _ _ h
  exact ⟨v', by rw [addr_eq h2, h4, cell_at g2, h5]; exact q1, q2⟩
 ·cases h
theorem post_load (H : HRel P B w0 ρ s w) (hE : ∀ x v, operand T s x = some v → VRel ρ v (ev x)) {t : TypeId} {a : Operand} (ho : o.op = .load t a) {nx : ANext}
  (h : aOp P T s (.load t a) = some nx) : Post P B w0 ρ s w ev o nx := by
 simp only [aOp] at h
 split at h
 ·rename_i ad had
  obtain ⟨a', ha', hrel⟩ := ptr_inv (hE _ _ had)
  have hrun : (execOp ev o).run P w = ((loadVar t a').run P w).andThen fun v w => .ok (.value v) w := by
   simp only [execOp, ho, Instr.loadAt, ha', Instr.sureAddr, Sem.run_bind, Sem.run_pure, Result.andThen_ok]
  split at h
  ·cases h
  ·rename_i hag
   split at h
   ·cases h
   ·rename_i n hn
    split at h
    ·cases h
    ·rename_i l hl
     cases h
     obtain ⟨l', r1, r2, -⟩ := load_ok H hrel hl
     refine ⟨.agg ⟨l'⟩, ?_, .agg' r2⟩
     rw [hrun]
     simp only [loadVar, Sem.run_bind, run_aggB hag, Result.andThen_ok, if_true, run_sizeB hn, r1, Sem.run_pure]
  ·rename_i hag
   cases hc : loadCell s ad with
   | none => simp [hc] at h
   | some v =>
    simp [hc] at h
    subst h
    obtain ⟨v', q1, q2⟩ := cell_ok H hrel hc
    refine ⟨v', ?_, q2⟩
    rw [hrun]
    simp only [loadVar, Sem.run_bind, run_aggB hag, Result.andThen_ok, Bool.false_eq_true, if_false, run_load, q1]
 ·cases h
theorem post_store (H : HRel P B w0 ρ s w) (hE : ∀ x v, operand T s x = some v → VRel ρ v (ev x)) {t : TypeId} {a x : Operand} (ho : o.op = .store t a x) {nx : ANext}
  (h : aOp P T s (.store t a x) = some nx) : Post P B w0 ρ s w ev o nx := by
 simp only [aOp] at h
 split at h
 ·rename_i ad v n had hv hn
  obtain ⟨a', ha', hrel⟩ := ptr_inv (hE _ _ had)
  have hvr := (hE _ _ hv).flat
  cases hc : (Nat.beq (flat v).length n && all1 (flat v)) with
  | false => simp [hc] at h
  | true =>
   simp only [hc, cond_true] at h
   rw [Bool.and_eq_true, Nat.beq_eq] at hc
   split at h
   ·cases h
   ·rename_i s' hs
    cases h
    obtain ⟨w', r1, r2, r3, r4⟩ := store_ok H hrel hs hc.2 hvr
    refine ⟨by omega, fun _ => ⟨.skip, w', ρ, undef, ?_, .inr ⟨rfl, rfl⟩, .tuple rfl (fun i v v' hv => by simp at hv), r2, .refl _ _ _⟩⟩
    have hlen : (ev x).cells.size = n := by rw [← hc.1]; exact hvr.1.symm
    simp only [execOp, ho, Instr.storeAt, ha', Instr.sureAddr, Sem.run_bind, Sem.run_pure, Result.andThen_ok, storeVar, run_sizeB hn, hlen, ne_eq, not_true_eq_false, if_false]
    have : (ev x).cells.toList = flat (ev x) := rfl
    rw [this, r1]
    rfl
 ·cases h
theorem post_move (hE : ∀ x v, operand T s x = some v → VRel ρ v (ev x)) {x : Operand} (ho : o.op = .move x ∨ o.op = .assign x) {nx : ANext}
  (h : (operand T s x).map ANext.val = some nx) : Post P B w0 ρ s w ev o nx := by
 cases hx : operand T s x with
 | none => simp [hx] at h
 | some v =>
  simp [hx] at h
  subst h
  refine ⟨ev x, ?_, hE _ _ hx⟩
  rcases ho with ho | ho <;> simp only [execOp, ho, Sem.run_pure]
theorem post_pick (hE : ∀ x v, operand T s x = some v → VRel ρ v (ev x)) {c a b : Operand} (ho : o.op = .pick c a b) {nx : ANext}
  (h : aOp P T s (.pick c a b) = some nx) : Post P B w0 ρ s w ev o nx := by
 simp only [aOp] at h
 split at h
 ·rename_i hc
  cases hx : operand T s a with
  | none => simp [hx] at h
  | some v =>
   simp [hx] at h
   subst h
   refine ⟨ev a, ?_, hE _ _ hx⟩
   simp only [execOp, ho, bool_inv (hE _ _ hc), asBool, Sem.run_bind, Sem.run_pure, Result.andThen_ok, if_true]
 ·rename_i hc
  cases hx : operand T s b with
  | none => simp [hx] at h
  | some v =>
   simp [hx] at h
   subst h
   refine ⟨ev b, ?_, hE _ _ hx⟩
   simp only [execOp, ho, bool_inv (hE _ _ hc), asBool, Sem.run_bind, Sem.run_pure, Result.andThen_ok, Bool.false_eq_true, if_false]
 ·cases h
theorem post_nilCheck (hE : ∀ x v, operand T s x = some v → VRel ρ v (ev x)) {x : Operand} (ho : o.op = .nilCheck x) {nx : ANext}
  (h : aOp P T s (.nilCheck x) = some nx) : Post P B w0 ρ s w ev o nx := by
 simp only [aOp] at h
 split at h
 ·rename_i a hx
  cases h
  obtain ⟨a', ha', hr⟩ := ptr_inv (hE _ _ hx)
  exact ⟨.pointer (some a'), by simp only [execOp, ho, ha', Sem.run_pure], .pointer hr⟩
 ·rename_i f a b hx
  cases h
  have hr := hE _ _ hx
  obtain ⟨a', b', he, -, -⟩ := func_inv hr
  exact ⟨ev x, by simp only [execOp, ho, he, Sem.run_pure], hr⟩
 ·rename_i t v hx
  cases h
  have hr := hE _ _ hx
  obtain ⟨u, he, -⟩ := iface_inv hr
  exact ⟨ev x, by simp only [execOp, ho, he, Sem.run_pure], hr⟩
 ·cases h
theorem post_makeInterface (hE : ∀ x v, operand T s x = some v → VRel ρ v (ev x)) {t : TypeId} {x : Operand} (ho : o.op = .makeInterface t x) {nx : ANext}
  (h : aOp P T s (.makeInterface t x) = some nx) : Post P B w0 ρ s w ev o nx := by
 simp only [aOp] at h
 split at h
 ·cases h
 ·rename_i d v hni hu hx
  cases h
  refine ⟨.iface t (ev x), ?_, .iface t (hE _ _ hx)⟩
  simp only [execOp, ho, Instr.makeInterface, Sem.run_bind, run_underlying hu, Result.andThen_ok]
  cases d <;> first | rfl | exact absurd rfl (hni _ _)
 ·cases h
theorem post_makeFunc (hE : ∀ x v, operand T s x = some v → VRel ρ v (ev x)) {fn : Fn} {a b : Array Operand} (ho : o.op = .makeFunc fn a b) {nx : ANext}
  (h : aOp P T s (.makeFunc fn a b) = some nx) : Post P B w0 ρ s w ev o nx := by
 simp only [aOp] at h
 split at h
 ·rename_i x y hx hy
  cases hi : isYield fn with
  | true => rw [hi] at h; cases h
  | false =>
  rw [hi] at h
  cases h
  have h1 := operands_rel hE hx
  have h2 := operands_rel hE hy
  refine ⟨.func fn (a.map ev) (b.map ev), ?_, .func fn hi ?_ ?_ ?_ ?_⟩
  ·simp only [execOp, ho, Instr.makeFunc, Sem.run_bind, Sem.run_pure, Result.andThen_ok]
  ·simpa using h1.1
  ·simpa using h2.1
  ·intro i v v' q1 q2; exact h1.2 i v v' q1 (by simpa using q2)
  ·intro i v v' q1 q2; exact h2.2 i v v' q1 (by simpa using q2)
 ·cases h
theorem post_extract (hE : ∀ x v, operand T s x = some v → VRel ρ v (ev x)) {x : Operand} {i : Nat} (ho : o.op = .extract x i) {nx : ANext}
  (h : aOp P T s (.extract x i) = some nx) : Post P B w0 ρ s w ev o nx := by
 simp only [aOp] at h
 split at h
 ·rename_i vs hx
  cases hi : vs.toList[i]? with
  | none => rw [hi] at h; cases h
  | some v =>
   rw [hi] at h
   cases h
   obtain ⟨a', ha', hr⟩ := tuple_inv (hE _ _ hx)
   obtain ⟨v', q1, q2⟩ := hr.get hi
   refine ⟨v', ?_, q2⟩
   simp only [execOp, ho, ha', Instr.extract]
   have : a'[i]? = some v' := by simpa using q1
   simp only [this, Sem.run_bind, Sem.run_pure, Result.andThen_ok]
 ·cases h
theorem intBin_run {op : BinOp} {k : IntKind} {a b : Int} {v : Value} (hs : op ≠ .shl) (hs' : op ≠ .shr) (t : TypeId) (h : intBin op k a b = some v) (w : World) :
    (binOp op t (.int k a) (.int k b)).run P w = .ok v w ∧ VRel ρ v v := by
  cases op <;> simp only [intBin] at h <;> first
    | (cases h; done)
    | (cases h; exact ⟨by simp only [binOp, ne_eq, not_true_eq_false, if_false, Op.intArith, Op.intBits, Op.intCmp, Sem.run_pure], by constructor⟩)
    | (split at h
       · cases h
       · rename_i hb
         cases h
         exact ⟨by simp only [binOp, ne_eq, not_true_eq_false, if_false, Op.intDiv, if_neg hb, Sem.run_pure], by constructor⟩)
theorem shiftBin_run {op : BinOp} {k yk : IntKind} {a b : Int} {v : Value} (t : TypeId) (h : shiftBin op k a b = some v) (w : World) :
  (binOp op t (.int k a) (.int yk b)).run P w = .ok v w ∧ VRel ρ v v := by
 unfold shiftBin at h
 split at h
 ·cases h
 ·rename_i hb
  split at h
  ·cases h
   exact ⟨by simp only [binOp, Op.shift, if_neg hb, Sem.run_pure], by constructor⟩
  ·cases h
   exact ⟨by simp only [binOp, Op.shift, if_neg hb, Sem.run_pure], by constructor⟩
  ·cases h
theorem beqL_eq : ∀ (x y : List UInt8), beqL x y = (x == y)
 | [], [] => rfl
 | [], _ :: _ => rfl
 | _ :: _, [] => rfl
 | a :: x, b :: y => by
  simp only [beqL, beqL_eq x y]
  by_cases h : a = b
  ·subst h
   simp
  ·rw [beqF (fun e => h (UInt8.toNat_inj.1 e))]
   simp [h]
theorem lssL_eq : ∀ (x y : List UInt8), lssL x y = Op.bytesLess x y
 | [], [] => rfl
 | [], _ :: _ => rfl
 | _ :: _, [] => rfl
 | a :: x, b :: y => by
  simp only [lssL, Op.bytesLess, lssL_eq x y]
  have h1 : Nat.blt a.toNat b.toNat = decide (a < b) := by
   rw [Bool.eq_iff_iff, Nat.blt_eq, decide_eq_true_iff, UInt8.lt_iff_toNat_lt]
  have h2 : Nat.beq a.toNat b.toNat = (a == b) := by
   by_cases h : a = b
   ·subst h; simp
   ·rw [beqF (fun e => h (UInt8.toNat_inj.1 e))]; simp [h]
  rw [h1, h2]
  cases decide (a < b) <;> cases (a == b) <;> simp
theorem strBin_run {op : BinOp} {a b : ByteArray} {v : Value} (t : TypeId) (h : strBin op a b = some v) (w : World) :
    (binOp op t (.string a) (.string b)).run P w = .ok v w ∧ VRel ρ v v := by
  have hab : (⟨⟨a.data.toList ++ b.data.toList⟩⟩ : ByteArray) = a ++ b := by
    cases a; cases b
    rename_i x y
    cases x; cases y
    apply ByteArray.ext
    rw [ByteArray.data_append]
    simp
  cases op <;> simp only [strBin, beqL_eq, lssL_eq] at h <;> first
    | (cases h; done)
    | (cases h
       exact ⟨by simp only [binOp, Op.stringOp, ByteArray.toList_eq, Sem.run_pure], by constructor⟩)
    | (cases hc : Nat.ble (a.data.toList.length + b.data.toList.length) 1152921504606846976 with
       | false => simp only [hc, cond_false] at h; cases h
       | true =>
         simp only [hc, cond_true] at h
         cases h
         rw [Nat.ble_eq] at hc
         refine ⟨?_, by constructor⟩
         have hsz : ¬ (((a.size + b.size : Nat) : Int) > IntKind.i64.max) := by
           have e1 : a.size = a.data.toList.length := rfl
           have e2 : b.size = b.data.toList.length := rfl
           have : IntKind.i64.max = 9223372036854775807 := by decide
           omega
         simp only [binOp, Op.stringOp, if_neg hsz, Sem.run_pure, hab])
theorem eqGuard_run {op : BinOp} {t : TypeId} {x y : Operand} {a b : Value} (h1 : ∀ c, a ≠ .agg c) (h2 : a ≠ .nilIface) (w : World) :
  (eqGuard op t x y a b).run P w = .ok () w := by
 unfold eqGuard
 cases hop : (!(op matches .eql | .neq))
 ·simp only [Bool.false_eq_true, if_false]
  split
  ·exact absurd rfl h2
  ·exact absurd rfl (h1 _)
  ·rfl
 ·simp only [if_true]
  rfl
theorem kindsOf_eq {d : Nat} {xs ys : List Value} : ∀ {fs : List Field} {l : List (Nat × Nat)} {b : Bool}, kindsOf P fs = some l → eqCells l xs ys = some b → ∀ w : World, (Op.eqFields (d + 1) ⟨xs⟩ ⟨ys⟩ fs).run P w = .ok b w
  | [], l, b, hk, he, w => by
    cases hk; cases he; rfl
  | f :: fs, l, b, hk, he, w => by
    unfold kindsOf at hk
    cases hn : f.name == "_" with
    | true => rw [hn] at hk; cases hk
    | false =>
      have hne : f.name ≠ "_" := fun e => by rw [e] at hn; simp at hn
      rw [hn, cond_false] at hk
      split at hk
      · rename_i hag
        have step : ∀ (k : Nat) (l' : List (Nat × Nat)), kindsOf P fs = some l' → l = (f.offset, k) :: l' → (∀ (a c : Value) (r : Bool), cellEq k a c = some r → (Op.equalIn (d + 1) f.type a c).run P w = .ok r w) → (Op.eqFields (d + 1) ⟨xs⟩ ⟨ys⟩ (f :: fs)).run P w = .ok b w := by
          intro k l' hl e hc
          subst e
          unfold eqCells at he
          split at he
          · rename_i a c ha hb
            split at he
            · cases he
            · rename_i r hr
              split at he
              · cases he
              · rename_i q hq
                cases he
                have p1 : (part f.type ⟨xs⟩ f.offset).run P w = .ok a w := by
                  have : (⟨xs⟩ : Array Value)[f.offset]? = some a := by simpa using ha
                  simp only [part, Sem.run_bind, run_aggB hag, Result.andThen_ok, Bool.false_eq_true, if_false, this, Sem.run_pure]
                have p2 : (part f.type ⟨ys⟩ f.offset).run P w = .ok c w := by
                  have : (⟨ys⟩ : Array Value)[f.offset]? = some c := by simpa using hb
                  simp only [part, Sem.run_bind, run_aggB hag, Result.andThen_ok, Bool.false_eq_true, if_false, this, Sem.run_pure]
                simp only [Op.eqFields, ne_eq, hne, not_false_eq_true, if_true, Sem.run_bind, p1, p2, Result.andThen_ok, hc a c r hr]
                cases r with
                | false => simp only [Bool.not_false, if_true, Sem.run_pure, Bool.false_and]
                | true =>
                  simp only [Bool.not_true, Bool.false_eq_true, if_false, Bool.true_and]
                  exact kindsOf_eq hl hq w
          · cases he
        split at hk
        · rename_i hu hl
          refine step 0 _ hl (Option.some.inj hk).symm fun a c r hr => ?_
          unfold cellEq at hr
          split at hr <;> first
            | (cases hr; done)
            | (rename_i h0; cases h0; done)
            | (cases hr; simp only [Op.equalIn, Sem.run_bind, run_underlying hu, Result.andThen_ok, Sem.run_pure])
        · rename_i hu hl
          refine step 1 _ hl (Option.some.inj hk).symm fun a c r hr => ?_
          unfold cellEq at hr
          split at hr <;> first
            | (cases hr; done)
            | (rename_i h0; cases h0; done)
            | (split at hr
               · rename_i hkk
                 cases hr
                 simp only [Op.equalIn, Sem.run_bind, run_underlying hu, Result.andThen_ok, if_pos hkk, Sem.run_pure]
                 rw [show ∀ m n : Int, (m == n) = decide (m = n) from fun m n => by by_cases e : m = n <;> simp [e]]
               · cases hr)
        · rename_i hu hl
          refine step 2 _ hl (Option.some.inj hk).symm fun a c r hr => ?_
          unfold cellEq at hr
          split at hr <;> first
            | (cases hr; done)
            | (rename_i h0; cases h0; done)
            | (rename_i m n
               cases hr
               simp only [Op.equalIn, Sem.run_bind, run_underlying hu, Result.andThen_ok, Sem.run_pure, beq_toListBytes, ByteArray.toList_eq]
               rw [show ∀ m n : List UInt8, (m == n) = decide (m = n) from fun m n => by by_cases e : m = n <;> simp [e]])
        · cases hk
      · cases hk
theorem eqFields_app {d : Nat} {xs ys : Array Value} {f : Field} {fs : List Field} {c e : Bool} {w : World} (h1 : (Op.eqFields d xs ys [f]).run P w = .ok c w) (h2 : (Op.eqFields d xs ys fs).run P w = .ok e w) : (Op.eqFields d xs ys (f :: fs)).run P w = .ok (c && e) w := by
 simp only [Op.eqFields] at h1 ⊢
 by_cases hn : f.name ≠ "_"
 ·rw [if_pos hn] at h1 ⊢
  simp only [Sem.run_bind] at h1 ⊢
  generalize (part f.type xs f.offset).run P w = r1 at h1 ⊢
  cases r1 with
  | ok a w1 =>
   simp only [Result.andThen_ok] at h1 ⊢
   generalize (part f.type ys f.offset).run P w1 = r2 at h1 ⊢
   cases r2 with
   | ok b w2 =>
    simp only [Result.andThen_ok] at h1 ⊢
    generalize (Op.equalIn d f.type a b).run P w2 = r3 at h1 ⊢
    cases r3 with
    | ok r w3 =>
     simp only [Result.andThen_ok] at h1 ⊢
     cases r with
     | false =>
      simp only [Bool.not_false, if_true, Sem.run_pure] at h1 ⊢
      cases h1
      simp only [Bool.false_and]
     | true =>
      simp only [Bool.not_true, Bool.false_eq_true, if_false, Sem.run_pure] at h1 ⊢
      cases h1
      simp only [Bool.true_and]
      exact h2
    | halt x w3 => simp [Result.andThen] at h1
   | halt x w2 => simp [Result.andThen] at h1
  | halt x w1 => simp [Result.andThen] at h1
 ·rw [if_neg hn] at h1 ⊢
  simp only [Sem.run_pure] at h1
  cases h1
  simp only [Bool.true_and]
  exact h2
theorem eqCells_app {xs ys : List Value} : ∀ {a l : List (Nat × Nat)} {b : Bool}, eqCells (a ++ l) xs ys = some b → ∃ c e, eqCells a xs ys = some c ∧ eqCells l xs ys = some e ∧ b = (c && e)
 | [], l, b, h => ⟨true, b, rfl, h, by simp⟩
 | (o, k) :: a, l, b, h => by
  rw [List.cons_append] at h
  unfold eqCells at h
  split at h
  ·rename_i x y hx hy
   split at h
   ·cases h
   ·rename_i r hr
    split at h
    ·cases h
    ·rename_i q hq
     cases h
     obtain ⟨c, e, h1, h2, rfl⟩ := eqCells_app hq
     have key : eqCells ((o, k) :: a) xs ys = some (r && c) := by
      unfold eqCells
      simp only [hx, hy, hr, h1]
     exact ⟨r && c, e, key, h2, by rw [Bool.and_assoc]⟩
  ·cases h
theorem eqCells_up {xs ys : List Value} {o n : Nat} : ∀ {l : List (Nat × Nat)} {b : Bool}, l.all (fun x => Nat.blt x.1 n) = true → eqCells (kindsUp o l) xs ys = some b → eqCells l ((xs.drop o).take n) ((ys.drop o).take n) = some b
 | [], b, _, h => h
 | (j, k) :: l, b, hl, h => by
  rw [List.all_cons, Bool.and_eq_true] at hl
  have hj : j < n := by simpa using hl.1
  unfold kindsUp at h
  rw [List.map_cons] at h
  unfold eqCells at h ⊢
  have g : ∀ zs : List Value, ((zs.drop o).take n)[j]? = zs[o + j]? := fun zs => by rw [List.getElem?_take_of_lt hj, List.getElem?_drop]
  rw [g, g]
  split at h
  ·rename_i x y hx hy
   simp only at hx hy
   simp only [hx, hy]
   split at h
   ·cases h
   ·rename_i r hr
    split at h
    ·cases h
    ·rename_i q hq
     cases h
     have := eqCells_up (l := l) hl.2 hq
     simp only [hr, this]
  ·cases h
theorem kind1_eq {d : Nat} {xs ys : List Value} {f : Field} {l : List (Nat × Nat)} {b : Bool} (hk : kind1 P f = some l) (he : eqCells l xs ys = some b) (w : World) : (Op.eqFields (d + 1 + 1) ⟨xs⟩ ⟨ys⟩ [f]).run P w = .ok b w := by
 unfold kind1 at hk
 split at hk
 ·rename_i l' hl
  cases hk
  exact kindsOf_eq hl he w
 ·cases hn : f.name == "_" with
  | true => rw [hn] at hk; cases hk
  | false =>
   have hne : f.name ≠ "_" := fun e => by rw [e] at hn; simp at hn
   rw [hn, cond_false] at hk
   split at hk
   ·rename_i l' hag hin
    cases hk
    unfold kindsIn at hin
    split at hin
    ·rename_i fields n hu hs
     cases hh : P.stoodInHeld f.type with
     | true => rw [hh] at hin; cases hin
     | false =>
      rw [hh, cond_false] at hin
      split at hin
      ·rename_i l2 hl2
       cases hall : l2.all (fun x => Nat.blt x.1 n) with
       | false => rw [hall] at hin; cases hin
       | true =>
        rw [hall, cond_true] at hin
        cases hin
        have hq := eqCells_up hall he
        have hf : P.fieldsOf f.type = fields := by unfold Program.fieldsOf; rw [hu]
        have pt : ∀ zs : List Value, (part f.type ⟨zs⟩ f.offset).run P w = .ok (.agg ⟨(zs.drop f.offset).take n⟩) w := fun zs => by
         have : ((⟨zs⟩ : Array Value).extract f.offset (f.offset + n)) = ⟨(zs.drop f.offset).take n⟩ := by
          apply Array.ext'
          simp
         simp only [part, Sem.run_bind, run_aggB hag, Result.andThen_ok, if_true, run_sizeB hs, Sem.run_pure, this]
        have eq := run_equalIn_struct w (d + 1) f.type ⟨(xs.drop f.offset).take n⟩ ⟨(ys.drop f.offset).take n⟩ (by rw [hf]; exact hu) hh
        rw [hf, kindsOf_eq hl2 hq w] at eq
        simp only [Op.eqFields, ne_eq, hne, not_false_eq_true, if_true, Sem.run_bind, pt, Result.andThen_ok, eq]
        cases b <;> simp only [Bool.not_false, Bool.not_true, Bool.false_eq_true, if_true, if_false, Sem.run_pure]
      ·cases hin
    ·cases hin
   ·cases hk
theorem kinds2_eq {d : Nat} {xs ys : List Value} : ∀ {fs : List Field} {l : List (Nat × Nat)} {b : Bool}, kinds2 P fs = some l → eqCells l xs ys = some b → ∀ w : World, (Op.eqFields (d + 1 + 1) ⟨xs⟩ ⟨ys⟩ fs).run P w = .ok b w
 | [], l, b, hk, he, w => by
  cases hk; cases he; rfl
 | f :: fs, l, b, hk, he, w => by
  unfold kinds2 at hk
  split at hk
  ·rename_i a l' h1 h2
   cases hk
   obtain ⟨c, e, q1, q2, rfl⟩ := eqCells_app he
   exact eqFields_app (kind1_eq h1 q1 w) (kinds2_eq h2 q2 w)
  ·cases hk
theorem eqKinds_guard {t : TypeId} {l : List (Nat × Nat)} (h : eqKinds P t = some l) : P.eqGuardType P.depth t = false := by
 unfold eqKinds at h
 cases h2 : P.eqGuardType P.depth t with
 | false => rfl
 | true =>
  rw [h2] at h
  split at h
  ·rw [Bool.or_true] at h; cases h
  ·cases h
  ·cases h
theorem eqKinds_inv {t : TypeId} {l : List (Nat × Nat)} {fs : Array Field} (hu : P.underlying t = some (.struct fs)) (h : eqKinds P t = some l) : P.underlying t = some (.struct (P.fieldsOf t)) ∧ P.stoodInHeld t = false ∧ kinds2 P (P.fieldsOf t).toList = some l := by
 have hf : P.fieldsOf t = fs := by unfold Program.fieldsOf; rw [hu]
 unfold eqKinds at h
 rw [hu] at h
 simp only at h
 cases h1 : P.stoodInHeld t with
 | true => rw [h1] at h; cases h
 | false =>
  rw [h1, Bool.false_or] at h
  cases h2 : P.eqGuardType P.depth t with
  | true => rw [h2] at h; cases h
  | false =>
   rw [h2] at h
   rw [hf]
   exact ⟨hu, rfl, h⟩
theorem eqItems_flat {d k : Nat} {e : TypeId} {xs ys : List Value} (hag : aggB P e = some false) (hc : ∀ (a c : Value) (r : Bool), cellEq k a c = some r → ∀ w : World, (Op.equalIn d e a c).run P w = .ok r w) :
  ∀ (is : List Nat) (b : Bool), eqCells (is.map fun i => (i, k)) xs ys = some b → ∀ w : World, (Op.eqItems d e 1 ⟨xs⟩ ⟨ys⟩ is).run P w = .ok b w
 | [], b, he, w => by cases he; rfl
 | i :: is, b, he, w => by
  rw [List.map_cons] at he
  unfold eqCells at he
  split at he
  ·rename_i a c ha hb
   split at he
   ·cases he
   ·rename_i r hr
    split at he
    ·cases he
    ·rename_i q hq
     cases he
     have p1 : (part e ⟨xs⟩ (i * 1)).run P w = .ok a w := by
      have : (⟨xs⟩ : Array Value)[i * 1]? = some a := by simpa using ha
      simp only [part, Sem.run_bind, run_aggB hag, Result.andThen_ok, Bool.false_eq_true, if_false, this, Sem.run_pure]
     have p2 : (part e ⟨ys⟩ (i * 1)).run P w = .ok c w := by
      have : (⟨ys⟩ : Array Value)[i * 1]? = some c := by simpa using hb
      simp only [part, Sem.run_bind, run_aggB hag, Result.andThen_ok, Bool.false_eq_true, if_false, this, Sem.run_pure]
     simp only [Op.eqItems, Sem.run_bind, p1, p2, Result.andThen_ok, hc a c r hr]
     cases r with
     | false => simp only [Bool.not_false, if_true, Sem.run_pure, Bool.false_and]
     | true =>
      simp only [Bool.not_true, Bool.false_eq_true, if_false, Bool.true_and]
      exact eqItems_flat hag hc is q hq w
  ·cases he
theorem arr_eq {d : Nat} {t : TypeId} {xs ys : List Value} {l : List (Nat × Nat)} {b : Bool} {len : Nat} {e : TypeId} (hu : P.underlying t = some (.array len e)) (hl : eqKinds P t = some l) (he : eqCells l xs ys = some b) (w : World) : (Op.equalIn (d + 1 + 1) t (.agg ⟨xs⟩) (.agg ⟨ys⟩)).run P w = .ok b w := by
  have hk : kindArr P len e = some l := by
    have hg := eqKinds_guard hl
    unfold eqKinds at hl
    rw [hu] at hl
    simp only [hg, cond_false] at hl
    exact hl
  unfold kindArr at hk
  split at hk
  · rename_i hag hs
    obtain ⟨i, hi, hn⟩ := info_of_size hs
    have hc1 : P.cellsOf e = 1 := by unfold Program.cellsOf; rw [hi]; exact hn
    rw [run_equalIn_array w (d + 1) ⟨xs⟩ ⟨ys⟩ hu hi, hc1]
    split at hk
    · rename_i hb
      obtain rfl := Option.some.inj hk
      refine eqItems_flat (k := 0) hag (fun a c r hr w => ?_) _ _ he w
      unfold cellEq at hr
      split at hr <;> first
        | (cases hr; done)
        | (rename_i h0; cases h0; done)
        | (cases hr; simp only [Op.equalIn, Sem.run_bind, run_underlying hb, Result.andThen_ok, Sem.run_pure])
    · rename_i hb
      obtain rfl := Option.some.inj hk
      refine eqItems_flat (k := 1) hag (fun a c r hr w => ?_) _ _ he w
      unfold cellEq at hr
      split at hr <;> first
        | (cases hr; done)
        | (rename_i h0; cases h0; done)
        | (split at hr
           · rename_i hkk
             cases hr
             simp only [Op.equalIn, Sem.run_bind, run_underlying hb, Result.andThen_ok, if_pos hkk, Sem.run_pure]
             rw [show ∀ m n : Int, (m == n) = decide (m = n) from fun m n => by by_cases e : m = n <;> simp [e]]
           · cases hr)
    · rename_i hb
      obtain rfl := Option.some.inj hk
      refine eqItems_flat (k := 2) hag (fun a c r hr w => ?_) _ _ he w
      unfold cellEq at hr
      split at hr <;> first
        | (cases hr; done)
        | (rename_i h0; cases h0; done)
        | (rename_i m n
           cases hr
           simp only [Op.equalIn, Sem.run_bind, run_underlying hb, Result.andThen_ok, Sem.run_pure, beq_toListBytes, ByteArray.toList_eq]
           rw [show ∀ m n : List UInt8, (m == n) = decide (m = n) from fun m n => by by_cases e : m = n <;> simp [e]])
    · cases hk
  · cases hk
theorem equalIn_flat {d : Nat} {t : TypeId} {x y : Value} {b : Bool} (h : eqlOther P t x y = some b) (w : World) : (Op.equalIn (d + 1 + 1 + 1) t x y).run P w = .ok b w := by
  unfold eqlOther at h
  split at h <;> first
    | (rename_i hu; cases h; generalize d + 1 + 1 = e; simp only [Op.equalIn, Sem.run_bind, run_underlying hu, Result.andThen_ok, Sem.run_pure]; done)
    | (cases h; done)
    | (rename_i hu
       unfold eqlAgg at h
       split at h
       · rename_i l hl
         obtain ⟨q1, q2, q4⟩ := eqKinds_inv hu hl
         rw [run_equalIn_struct w (d + 1 + 1) t _ _ q1 q2]
         exact kinds2_eq q4 h w
       · cases h)
    | (rename_i hu
       unfold eqlAgg at h
       split at h
       · rename_i l hl
         exact arr_eq hu hl h w
       · cases h)
theorem cellEq_rel {k : Nat} {x y x' y' : Value} {b : Bool} (h : cellEq k x y = some b) (hx : VRel ρ x x') (hy : VRel ρ y y') : cellEq k x' y' = some b := by
 unfold cellEq at h
 split at h <;> first
  | (cases h; done)
  | (cases hx; cases hy; exact h)
theorem eqCells_rel : ∀ {l : List (Nat × Nat)} {xs ys xs' ys' : List Value} {b : Bool}, eqCells l xs ys = some b → LRel ρ xs xs' → LRel ρ ys ys' → eqCells l xs' ys' = some b
 | [], _, _, _, _, b, h, _, _ => by cases h; rfl
 | (o, k) :: r, xs, ys, xs', ys', b, h, hx, hy => by
  unfold eqCells at h ⊢
  split at h
  ·rename_i a c ha hc
   obtain ⟨a', q1, q2⟩ := hx.get ha
   obtain ⟨c', q3, q4⟩ := hy.get hc
   rw [q1, q3]
   split at h
   ·cases h
   ·rename_i e he
    split at h
    ·cases h
    ·rename_i f hf
     cases h
     simp only [cellEq_rel he q2 q4, eqCells_rel hf hx hy]
  ·cases h
theorem eqlOther_rel {t : TypeId} {x y x' y' : Value} {b : Bool} (h : eqlOther P t x y = some b) (hx : VRel ρ x x') (hy : VRel ρ y y') : eqlOther P t x' y' = some b := by
  unfold eqlOther at h
  split at h <;> first
    | (cases h; done)
    | (rename_i hu; cases h; cases hx <;> cases hy <;> (simp only [eqlOther, hu] <;> rfl))
    | (rename_i hu
       cases hx with
       | @agg _ a' p1 p2 => cases hy with
         | @agg _ c' p3 p4 =>
           obtain ⟨a'⟩ := a'
           obtain ⟨c'⟩ := c'
           simp only [eqlOther, hu]
           unfold eqlAgg at h ⊢
           split at h
           · exact eqCells_rel h ⟨p1, p2⟩ ⟨p3, p4⟩
           · cases h)
theorem eqlOther_form {t : TypeId} {x y : Value} {b : Bool} (h : eqlOther P t x y = some b) :
  (∀ k n, x ≠ .int k n) ∧ (∀ k n, x ≠ .float k n) ∧ (∀ k n m, x ≠ .complex k n m) ∧ (∀ n, x ≠ .string n) := by
 unfold eqlOther at h
 split at h <;> first
  | (cases h; done)
  | simp
theorem eqGuard_other {op : BinOp} {t : TypeId} {x y : Operand} {a b : Value} {c : Bool} (h : eqlOther P t a b = some c) (w : World) : (eqGuard op t x y a b).run P w = .ok () w := by
  unfold eqlOther at h
  split at h <;> first
    | (cases h; done)
    | (unfold eqlAgg at h
       split at h
       · rename_i l hl
         exact run_eqGuard_agg w op t x y _ _ (eqKinds_guard hl)
       · cases h)
    | exact eqGuard_run (by simp) (by simp) w
theorem equal_flat {t : TypeId} {x y : Value} {b : Bool} (h : eqlOther P t x y = some b) (w : World) : (Op.equal t x y).run P w = .ok b w := by
 show (Op.equalIn (9997 + 1 + 1 + 1) t x y).run P w = _
 exact equalIn_flat h w
theorem binOp_other {t : TypeId} {x y : Value} (hf : (∀ k n, x ≠ .int k n) ∧ (∀ k n, x ≠ .float k n) ∧ (∀ k n m, x ≠ .complex k n m) ∧ (∀ n, x ≠ .string n)) :
  binOp .eql t x y = (do pure (.bool (← Op.equal t x y))) ∧ binOp .neq t x y = (do pure (.bool (!(← Op.equal t x y)))) := by
 obtain ⟨h1, h2, h3, h4⟩ := hf
 cases x <;> first
  | exact absurd rfl (h1 _ _)
  | exact absurd rfl (h2 _ _)
  | exact absurd rfl (h3 _ _ _)
  | exact absurd rfl (h4 _)
  | exact ⟨rfl, rfl⟩
theorem post_binOp (hE : ∀ x v, operand T s x = some v → VRel ρ v (ev x)) {op : BinOp} {t u : TypeId} {x y : Operand} (ho : o.op = .binOp op t x y u) {nx : ANext}
  (h : aOp P T s (.binOp op t x y u) = some nx) : Post P B w0 ρ s w ev o nx := by
 simp only [aOp] at h
 split at h
 ·rename_i a b ha hb
  cases hv : binV P op t a b with
  | none => simp [hv] at h
  | some v =>
   simp [hv] at h
   subst h
   have h1 := hE _ _ ha
   have h2 := hE _ _ hb
   have key : ∀ {a' b' : Value}, ev x = a' → ev y = b' → (∀ c, a' ≠ .agg c) → a' ≠ .nilIface → (binOp op t a' b').run P w = .ok v w → (execOp ev o).run P w = .ok (.value v) w := by
    intro a' b' e1 e2 g1 g2 hr
    simp only [execOp, ho, e1, e2, Sem.run_bind, eqGuard_run g1 g2, Result.andThen_ok, hr, Sem.run_pure]
   unfold binV at hv
   split at hv
   ·obtain ⟨q1, q2⟩ := shiftBin_run (ρ := ρ) t hv w
    exact ⟨v, key (int_inv h1) (int_inv h2) (by simp) (by simp) q1, q2⟩
   ·obtain ⟨q1, q2⟩ := shiftBin_run (ρ := ρ) t hv w
    exact ⟨v, key (int_inv h1) (int_inv h2) (by simp) (by simp) q1, q2⟩
   ·rename_i op k p k' q n1 n2
    split at hv
    ·rename_i hk
     subst hk
     obtain ⟨q1, q2⟩ := intBin_run (ρ := ρ) (fun e => by subst e; simp at n1) (fun e => by subst e; simp at n2) t hv w
     exact ⟨v, key (int_inv h1) (int_inv h2) (by simp) (by simp) q1, q2⟩
    ·cases hv
   ·obtain ⟨q1, q2⟩ := strBin_run (ρ := ρ) t hv w
    exact ⟨v, key (str_inv h1) (str_inv h2) (by simp) (by simp) q1, q2⟩
   ·cases he : eqlOther P t a b with
    | none => simp [he] at hv
    | some c =>
     simp [he] at hv
     subst hv
     have he' := eqlOther_rel he h1 h2
     refine ⟨.bool c, ?_, .bool c⟩
     simp only [execOp, ho, Sem.run_bind, eqGuard_other he', Result.andThen_ok, (binOp_other (eqlOther_form he')).1, equal_flat he', Sem.run_pure]
   ·cases he : eqlOther P t a b with
    | none => simp [he] at hv
    | some c =>
     simp [he] at hv
     subst hv
     have he' := eqlOther_rel he h1 h2
     refine ⟨.bool (!c), ?_, .bool _⟩
     simp only [execOp, ho, Sem.run_bind, eqGuard_other he', Result.andThen_ok, (binOp_other (eqlOther_form he')).2, equal_flat he', Sem.run_pure]
   ·cases hv
 ·cases h
theorem post_unOp (hE : ∀ x v, operand T s x = some v → VRel ρ v (ev x)) {op : UnOp} {t : TypeId} {x : Operand} (ho : o.op = .unOp op t x) {nx : ANext}
  (h : aOp P T s (.unOp op t x) = some nx) : Post P B w0 ρ s w ev o nx := by
 simp only [aOp] at h
 split at h
 ·rename_i a ha
  cases hv : unV op a with
  | none => simp [hv] at h
  | some v =>
   simp [hv] at h
   subst h
   have h1 := hE _ _ ha
   unfold unV at hv
   split at hv
   ·cases hv
    refine ⟨_, ?_, .int _ _⟩
    simp only [execOp, ho, int_inv h1, Op.unary, Op.intArith, Sem.run_bind, Sem.run_pure, Result.andThen_ok]
   ·rename_i k n
    simp only [intBin] at hv
    cases hv
    refine ⟨_, ?_, .int _ _⟩
    simp only [execOp, ho, int_inv h1, Op.unary, Op.intBits, Sem.run_bind, Sem.run_pure, Result.andThen_ok]
   ·cases hv
    refine ⟨_, ?_, .bool _⟩
    simp only [execOp, ho, bool_inv h1, Op.unary, Sem.run_bind, Sem.run_pure, Result.andThen_ok]
   ·cases hv
 ·cases h
end
end Go.Vf
end
section
namespace Go.Vf
open Go.RowKit
section
variable {P : Program} {B : Nat} {w0 : World} {ρ : Ren} {s : ASt} {w : World} {T : ATmp} {ev : Operand → Value} {o : Oper}
theorem idx_int {v : Value} {len n : Nat} (h : idx v len = some n) : ∃ k, v = .int k (n : Int) ∧ n < len := by
 unfold idx at h
 split at h
 ·rename_i k m
  cases hb : Nat.blt m len with
  | false => simp [hb] at h
  | true => simp [hb] at h; subst h; exact ⟨k, rfl, by rwa [Nat.blt_eq] at hb⟩
 ·cases h
theorem partB_run {t : TypeId} {x y : List Value} {off : Nat} {v : Value} (h : partB P t x off = some v) (r : LRel ρ x y) (w : World) :
  ∃ v', (part t ⟨y⟩ off).run P w = .ok v' w ∧ VRel ρ v v' := by
 unfold partB at h
 split at h
 ·cases h
 ·rename_i hag
  split at h
  ·cases h
  ·rename_i n hn
   split at h
   ·cases h
   ·rename_i l hl
    cases h
    obtain ⟨rfl, hn'⟩ := takeN_eq _ _ _ hl
    refine ⟨.agg ⟨(y.drop off).take n⟩, ?_, .agg' ((r.drop off).take n)⟩
    simp only [part, Sem.run_bind, run_aggB hag, Result.andThen_ok, if_true, run_sizeB hn, Sem.run_pure]
    simp [List.take_drop]
 ·rename_i hag
  obtain ⟨v', q1, q2⟩ := r.get h
  refine ⟨v', ?_, q2⟩
  have : (⟨y⟩ : Array Value)[off]? = some v' := by simpa using q1
  simp only [part, Sem.run_bind, run_aggB hag, Result.andThen_ok, Bool.false_eq_true, if_false, this, Sem.run_pure]
theorem post_fieldAddr (hE : ∀ x v, operand T s x = some v → VRel ρ v (ev x)) {t : TypeId} {x : Operand} {f : Nat} (ho : o.op = .fieldAddr t x f) {nx : ANext}
  (h : aOp P T s (.fieldAddr t x f) = some nx) : Post P B w0 ρ s w ev o nx := by
 simp only [aOp] at h
 split at h
 ·rename_i fields a hu ha
  obtain ⟨a', ha', hr⟩ := ptr_inv (hE _ _ ha)
  split at h
  ·rename_i fd hfd
   rw [hr.1] at h
   simp only [Option.isSome_none, cond_false] at h
   split at h
   ·rename_i z hz
    cases h
    refine ⟨.pointer (some (a'.add fd.offset)), ?_, .pointer (hr.add _)⟩
    simp only [execOp, ho, Instr.fieldAt, Sem.run_bind, run_underlying hu, Result.andThen_ok, hfd, ha', Instr.sureAddr, Sem.run_pure, fieldPlace, run_sizeB hz, Nat.succ_ne_zero, if_false]
   ·cases h
  ·cases h
 ·cases h
theorem post_field (hE : ∀ x v, operand T s x = some v → VRel ρ v (ev x)) {t : TypeId} {x : Operand} {f : Nat} (ho : o.op = .field t x f) {nx : ANext}
  (h : aOp P T s (.field t x f) = some nx) : Post P B w0 ρ s w ev o nx := by
 simp only [aOp] at h
 split at h
 ·rename_i fields a hu ha
  obtain ⟨⟨a'⟩, ha', hr⟩ := agg_inv (hE _ _ ha)
  split at h
  ·rename_i fd hfd
   cases hp : partB P fd.type a.toList fd.offset with
   | none => simp [hp] at h
   | some v =>
    simp [hp] at h
    subst h
    obtain ⟨v', q1, q2⟩ := partB_run hp hr w
    refine ⟨v', ?_, q2⟩
    simp only [execOp, ho, Instr.field, Sem.run_bind, run_underlying hu, Result.andThen_ok, hfd, ha', asAgg, Sem.run_pure, q1]
  ·cases h
 ·cases h
theorem post_indexAddr (hE : ∀ x v, operand T s x = some v → VRel ρ v (ev x)) {t : TypeId} {x ix : Operand} (ho : o.op = .indexAddr t x ix) {nx : ANext}
  (h : aOp P T s (.indexAddr t x ix) = some nx) : Post P B w0 ρ s w ev o nx := by
 simp only [aOp] at h
 split at h
 ·rename_i elem a len c i hu hx hi
  obtain ⟨a', c', hx', hr⟩ := slice_inv (hE _ _ hx)
  split at h
  ·rename_i n z hn hz
   cases h
   obtain ⟨k, rfl, hlt⟩ := idx_int hn
   have hr' := hr.addr (by omega)
   refine ⟨.pointer (some (a'.add (n * z))), ?_, .pointer (hr'.add _)⟩
   simp only [execOp, ho, Instr.indexAt, int_inv (hE _ _ hi), hx', asIntOf, Sem.run_bind, Sem.run_pure, Result.andThen_ok, run_underlying hu]
   simp [run_sizeB hz, hlt]
  ·cases h
 ·rename_i len elem a i hu hx hi
  obtain ⟨a', hx', hr⟩ := ptr_inv (hE _ _ hx)
  split at h
  ·rename_i n z hn hz
   cases h
   obtain ⟨k, rfl, hlt⟩ := idx_int hn
   refine ⟨.pointer (some (a'.add (n * z))), ?_, .pointer (hr.add _)⟩
   simp only [execOp, ho, Instr.indexAt, int_inv (hE _ _ hi), hx', asIntOf, Sem.run_bind, Sem.run_pure, Result.andThen_ok, run_underlying hu, Instr.sureAddr]
   simp [run_sizeB hz, hlt]
  ·cases h
 ·cases h
theorem post_index (hE : ∀ x v, operand T s x = some v → VRel ρ v (ev x)) {t : TypeId} {x ix : Operand} (ho : o.op = .index t x ix) {nx : ANext}
  (h : aOp P T s (.index t x ix) = some nx) : Post P B w0 ρ s w ev o nx := by
 simp only [aOp] at h
 split at h
 ·rename_i len elem cs i hu hx hi
  obtain ⟨⟨a'⟩, hx', hr⟩ := agg_inv (hE _ _ hx)
  split at h
  ·rename_i n z hn hz
   obtain ⟨k, rfl, hlt⟩ := idx_int hn
   cases hp : partB P elem cs.toList (n * z) with
   | none => simp [hp] at h
   | some v =>
    simp [hp] at h
    subst h
    obtain ⟨v', q1, q2⟩ := partB_run hp hr w
    refine ⟨v', ?_, q2⟩
    simp only [execOp, ho, Instr.index, int_inv (hE _ _ hi), hx', asIntOf, Sem.run_bind, Sem.run_pure, Result.andThen_ok, run_underlying hu]
    simp [run_sizeB hz, hlt, q1]
  ·cases h
 ·rename_i b i hu hx hi
  split at h
  ·rename_i n hn
   obtain ⟨k, rfl, hlt⟩ := idx_int hn
   split at h
   ·rename_i c hc
    cases h
    refine ⟨.int .u8 c.toNat, ?_, .int _ _⟩
    have hb : b[n]? = some c := by
     have hlt' : n < b.size := hlt
     rw [getElem?_pos b n hlt']
     have : b.data.toList[n]? = some b[n] := by
      rw [List.getElem?_eq_getElem (show n < b.data.toList.length from hlt')]
      rfl
     rw [this] at hc; exact hc
    have e1 := int_inv (hE _ _ hi)
    have e2 := str_inv (hE _ _ hx)
    simp only [execOp, ho, Instr.index, Sem.run_bind]
    rw [e1, e2]
    simp only [asIntOf, Sem.run_pure, Result.andThen_ok, run_underlying hu]
    simp [hb]
   ·cases h
  ·cases h
 ·cases h
theorem bound_run {v v' : Option Value} {d most n : Nat} (h : bound v d most = some n) (hr : ∀ x, v = some x → ∃ x', v' = some x' ∧ VRel ρ x x') (hn : v = none → v' = none) :
  (v' = none ∧ n = d) ∨ (∃ k, v' = some (.int k (n : Int)) ∧ n ≤ most) := by
 unfold bound at h
 split at h
 ·cases h; exact .inl ⟨hn rfl, rfl⟩
 ·rename_i k m
  cases hb : Nat.ble m most with
  | false => simp [hb] at h
  | true =>
   simp [hb] at h
   subst h
   obtain ⟨x', e, hx⟩ := hr _ rfl
   exact .inr ⟨k, by rw [e, int_inv hx]; rfl, by rwa [Nat.ble_eq] at hb⟩
 ·cases h
theorem sliceBound_run {k : IntKind} {n y : Nat} (c : BoundsCode) (h : n ≤ y) (w : World) : (Instr.sliceBound (.int k (n : Int)) y c).run P w = .ok n w := by
 unfold Instr.sliceBound
 simp only [asIntOf, Sem.run_bind, Sem.run_pure, Result.andThen_ok]
 simp [h]
theorem sliceBounds_run {isS : Bool} {len cap m h l : Nat} {lo hi mx : Option Value}
  (h1 : (mx = none ∧ m = cap) ∨ (∃ k, mx = some (.int k (m : Int)) ∧ m ≤ cap))
  (h2 : (hi = none ∧ h = len ∧ mx = none) ∨ (∃ k, hi = some (.int k (h : Int)) ∧ h ≤ m))
  (h3 : (lo = none ∧ l = 0) ∨ (∃ k, lo = some (.int k (l : Int)) ∧ l ≤ h)) (w : World) :
  (Instr.sliceBounds isS len cap lo hi mx).run P w = .ok (l, h, m) w := by
 unfold Instr.sliceBounds
 rcases h1 with ⟨rfl, rfl⟩ | ⟨k1, rfl, hm⟩ <;> rcases h2 with ⟨rfl, rfl, e⟩ | ⟨k2, rfl, hh⟩ <;> rcases h3 with ⟨rfl, rfl⟩ | ⟨k3, rfl, hl⟩ <;>
  first
   | (cases e; done)
   | simp [sliceBound_run, *]
theorem opt_rel (hE : ∀ x v, operand T s x = some v → VRel ρ v (ev x)) {x : Option Operand} {v : Option Value} (h : opt T s x = some v) :
  (∀ u, v = some u → ∃ u', x.map ev = some u' ∧ VRel ρ u u') ∧ (v = none → x.map ev = none) := by
 cases x with
 | none => simp [opt] at h; subst h; simp
 | some y =>
  simp only [opt] at h
  split at h
  ·cases h
  ·rename_i u hu
   cases h
   exact ⟨fun _ e => by cases e; exact ⟨ev y, rfl, hE _ _ hu⟩, fun e => by cases e⟩
theorem growOf_get {a : Addr} {g : Bool} {t : TypeId} (h : growOf s a = some (g, t)) : ∃ c ro, s.heap.get a.block = some (.cells c t g ro) := by
 unfold growOf at h
 split at h
 ·rename_i c t' g' ro hb
  cases h
  exact ⟨c, ro, hb⟩
 ·cases h
theorem mx_hi {m hh m' h' : Option Value} {len l n : Nat} (hk : mxOk m hh = true) (hi1 : ∀ u, hh = some u → ∃ u', h' = some u' ∧ VRel ρ u u') (hi2 : hh = none → h' = none)
  (mx1 : ∀ u, m = some u → ∃ u', m' = some u' ∧ VRel ρ u u') (mx2 : m = none → m' = none)
  (b : (h' = none ∧ l = len) ∨ (∃ k, h' = some (.int k (l : Int)) ∧ l ≤ n)) : (h' = none ∧ l = len ∧ m' = none) ∨ (∃ k, h' = some (.int k (l : Int)) ∧ l ≤ n) := by
 rcases b with ⟨q1, q2⟩ | q
 ·refine .inl ⟨q1, q2, ?_⟩
  cases hh with
  | some u => obtain ⟨u', e, -⟩ := hi1 u rfl; rw [e] at q1; cases q1
  | none => cases m with
   | some u => simp [mxOk] at hk
   | none => exact mx2 rfl
 ·exact .inr q
theorem post_slice (H : HRel P B w0 ρ s w) (hE : ∀ x v, operand T s x = some v → VRel ρ v (ev x)) {t : TypeId} {x : Operand} {lo hi mx : Option Operand} (ho : o.op = .slice t x lo hi mx) {nx : ANext}
    (h : aOp P T s (.slice t x lo hi mx) = some nx) : Post P B w0 ρ s w ev o nx := by
  simp only [aOp] at h
  split at h
  · rename_i v l hh m hv hlo hhi hmx
    obtain ⟨lo1, lo2⟩ := opt_rel hE hlo
    obtain ⟨hi1, hi2⟩ := opt_rel hE hhi
    obtain ⟨mx1, mx2⟩ := opt_rel hE hmx
    cases hs : sliceV P s t v l hh m with
    | none => simp [hs] at h
    | some r =>
      simp [hs] at h
      subst h
      have hrun : (execOp ev o).run P w = ((Instr.sliceAt t (ev x) (lo.map ev) (hi.map ev) (mx.map ev)).run P w).andThen fun v w => .ok (.value v) w := by
        simp only [execOp, ho, Sem.run_bind, Sem.run_pure]
      unfold sliceV at hs
      split at hs
      · -- a string
        rename_i b hu
        split at hs
        · cases hs
        · split at hs
          · cases hs
          · rename_i h' hh'
            split at hs
            · cases hs
            · rename_i l' hl'
              cases hs
              have b2 := bound_run hh' hi1 hi2
              have b3 := bound_run hl' lo1 lo2
              have e0 := mx2 rfl
              refine ⟨_, ?_, .string _⟩
              rw [hrun, str_inv (hE _ _ hv), e0]
              simp only [Instr.sliceAt, Sem.run_bind, run_underlying hu, Result.andThen_ok, Instr.slice, Option.isSome_none, Bool.false_eq_true, if_false, Sem.run_pure]
              rw [sliceBounds_run (m := b.size) (.inl ⟨rfl, rfl⟩) (by rcases b2 with ⟨q1, q2⟩ | q; exact .inl ⟨q1, q2, rfl⟩; exact .inr q) b3]
              simp only [Result.andThen_ok]
              congr 3
              apply ByteArray.ext
              rw [ByteArray.data_extract]
              apply Array.ext'
              simp
      · -- nil
        rename_i e len cap hu
        split at hs
        · cases hs
        rename_i z hz
        cases hk : mxOk m hh with
        | false => simp [hk] at hs
        | true =>
          simp only [hk, cond_true] at hs
          split at hs
          · cases hs
          · rename_i m' hm'
            split at hs
            · cases hs
            · rename_i h' hh'
              split at hs
              · cases hs
              · rename_i l' hl'
                cases hs
                have b1 := bound_run hm' mx1 mx2
                have b2 := bound_run hh' hi1 hi2
                have b3 := bound_run hl' lo1 lo2
                have b2' := mx_hi hk hi1 hi2 mx1 mx2 b2
                refine ⟨_, ?_, .nilSlice _ _⟩
                rw [hrun, slice0_inv (hE _ _ hv)]
                simp only [Instr.sliceAt, Sem.run_bind, run_underlying hu, Result.andThen_ok, Instr.slice, Sem.run_pure]
                rw [sliceBounds_run b1 b2' b3]
                simp only [Result.andThen_ok, run_sizeB hz]
                congr 3
                split <;> rfl
      · rename_i e a len cap hu
        obtain ⟨a', cap', hx', hr⟩ := slice_inv (hE _ _ hv)
        split at hs
        · -- its room is known
          rename_i t' n hg hn
          obtain ⟨c, ro, hb⟩ := growOf_get hg
          obtain ⟨p1, p2, ee, p3, p4, p5⟩ := hr.known fun e he => (H.blk _ _ _ hb he).1
          have hge := (H.blk _ _ _ hb p3).1
          rcases p5 with ⟨q0, q1, q2⟩ | ⟨q0, -⟩
          case inr => rw [hge] at q0; cases q0
          subst q2
          cases hk : mxOk m hh with
          | false => simp [hk] at hs
          | true =>
            simp only [hk, cond_true] at hs
            split at hs
            · cases hs
            · rename_i m' hm'
              split at hs
              · cases hs
              · rename_i h' hh'
                split at hs
                · cases hs
                · rename_i l' hl'
                  cases hs
                  have b1 := bound_run hm' mx1 mx2
                  have b2 := bound_run hh' hi1 hi2
                  have b3 := bound_run hl' lo1 lo2
                  have b2' := mx_hi hk hi1 hi2 mx1 mx2 b2
                  refine ⟨.slice (some (if m' = l' then a' else a'.add (l' * n))) (h' - l') (m' - l'), ?_, .slice (.inl ?_)⟩
                  · rw [hrun, hx']
                    simp only [Instr.sliceAt, Sem.run_bind, run_underlying hu, Result.andThen_ok, Instr.slice, Sem.run_pure]
                    rw [sliceBounds_run b1 b2' b3]
                    simp only [Result.andThen_ok, run_sizeB hn]
                    congr 3
                    split <;> rfl
                  · by_cases hml : m' = l'
                    · subst hml
                      rw [if_pos rfl, Nat.beq_refl]
                      exact ⟨p1, p2, ee, p3, p4, .inl ⟨q0, q1, rfl⟩⟩
                    · rw [if_neg hml, beqF hml, cond_false, addr_eq p1, addr_eq p2, add_eq, add_eq]
                      exact ⟨rfl, rfl, ee, p3, p4, .inl ⟨q0, by simp only; omega, rfl⟩⟩
        · -- its room is open
          rename_i t' n hg hn
          obtain ⟨c, ro, hb⟩ := growOf_get hg
          rcases hr with hr | ⟨v1, v2, v3, ve, v4, v5⟩
          case inr =>
            subst v2; subst v3
            split at hs
            · rename_i n' hn'
              cases hnn : Nat.beq n n' with
              | false => simp [hnn] at hs
              | true =>
                simp only [hnn, cond_true] at hs
                split at hs
                · cases hs
                · rename_i h' hh'
                  split at hs
                  · cases hs
                  · rename_i l' hl'
                    cases hs
                    have e0 := mx2 rfl
                    have b2 := bound_run hh' hi1 hi2
                    have b3 := bound_run hl' lo1 lo2
                    have hle : h' ≤ 0 := by rcases b2 with ⟨-, q⟩ | ⟨-, -, q⟩ <;> omega
                    have hle2 : l' ≤ h' := by rcases b3 with ⟨-, q⟩ | ⟨-, -, q⟩ <;> omega
                    refine ⟨.slice (some (if 0 = l' then a' else a'.add (l' * n))) (h' - l') (0 - l'), ?_, .slice (.inr ⟨?_, by omega, by omega, ve, ?_, v5⟩)⟩
                    · rw [hrun, hx', e0]
                      simp only [Instr.sliceAt, Sem.run_bind, run_underlying hu, Result.andThen_ok, Instr.slice, Sem.run_pure]
                      rw [sliceBounds_run (m := 0) (.inl ⟨rfl, rfl⟩) (by rcases b2 with ⟨r1, r2⟩ | ⟨k, r1, r2⟩; exact .inl ⟨r1, r2, rfl⟩; exact .inr ⟨k, r1, by omega⟩) b3]
                      simp only [Result.andThen_ok, run_sizeB hn]
                      congr 3
                      split <;> rfl
                    · rw [addr_eq v1, add_eq]
                    · rw [addr_eq v1, add_eq]; exact v4
            · rename_i y n' hn'
              cases hnn : (Nat.beq n n' && mxOk (some y) hh) with
              | false => simp [hnn] at hs
              | true =>
                simp only [hnn, cond_true] at hs
                simp only [Bool.and_eq_true] at hnn
                split at hs
                · cases hs
                · rename_i m' hm'
                  split at hs
                  · cases hs
                  · rename_i h' hh'
                    split at hs
                    · cases hs
                    · rename_i l' hl'
                      cases hs
                      have b1 := bound_run hm' mx1 mx2
                      have b2 := bound_run hh' hi1 hi2
                      have b3 := bound_run hl' lo1 lo2
                      have b2' := mx_hi hnn.2 hi1 hi2 mx1 mx2 b2
                      have hm0 : m' = 0 := by rcases b1 with ⟨-, q⟩ | ⟨-, -, q⟩ <;> omega
                      have hle : h' ≤ m' := by rcases b2 with ⟨-, q⟩ | ⟨-, -, q⟩ <;> omega
                      have hle2 : l' ≤ h' := by rcases b3 with ⟨-, q⟩ | ⟨-, -, q⟩ <;> omega
                      refine ⟨.slice (some (if m' = l' then a' else a'.add (l' * n))) (h' - l') (m' - l'), ?_, .slice (.inr ⟨?_, by omega, by omega, ve, ?_, v5⟩)⟩
                      · rw [hrun, hx']
                        simp only [Instr.sliceAt, Sem.run_bind, run_underlying hu, Result.andThen_ok, Instr.slice, Sem.run_pure]
                        rw [sliceBounds_run (m := m') (by rcases b1 with ⟨q1, q2⟩ | ⟨k, q1, q2⟩; exact .inl ⟨q1, by omega⟩; exact .inr ⟨k, q1, by omega⟩) b2' b3]
                        simp only [Result.andThen_ok, run_sizeB hn]
                        congr 3
                        split <;> rfl
                      · rw [addr_eq v1, add_eq]
                      · rw [addr_eq v1, add_eq]; exact v4
            · cases hs
          obtain ⟨p1, p2, ee, p3, p4, p5⟩ := hr
          obtain ⟨hge, rc, flo, fhi, t0, -, -, -, -, -, hes, -⟩ := H.blk _ _ _ hb p3
          rcases p5 with ⟨q0, -⟩ | ⟨q0, q1, q2, q3, q4⟩
          · rw [hge] at q0; cases q0
          split at hs
          · rename_i n' hn'
            cases hnn : Nat.beq n n' with
            | false => simp [hnn] at hs
            | true =>
              simp only [hnn, cond_true] at hs
              rw [Nat.beq_eq] at hnn
              subst hnn
              have hes' : ee.es = n := by
                unfold sizeB at hn'
                rw [hes] at hn'
                cases hn'; rfl
              split at hs
              · cases hs
              · rename_i h' hh'
                split at hs
                · cases hs
                · rename_i l' hl'
                  cases hs
                  have e0 := mx2 rfl
                  have b2 := bound_run hh' hi1 hi2
                  have b3 := bound_run hl' lo1 lo2
                  have hle : h' ≤ len := by rcases b2 with ⟨-, q⟩ | ⟨-, -, q⟩ <;> omega
                  have hle2 : l' ≤ h' := by rcases b3 with ⟨-, q⟩ | ⟨-, -, q⟩ <;> omega
                  refine ⟨.slice (some (if cap' = l' then a' else a'.add (l' * n))) (h' - l') (cap' - l'), ?_, .slice (.inl ?_)⟩
                  · rw [hrun, hx', e0]
                    simp only [Instr.sliceAt, Sem.run_bind, run_underlying hu, Result.andThen_ok, Instr.slice, Sem.run_pure]
                    rw [sliceBounds_run (m := cap') (.inl ⟨rfl, rfl⟩) (by rcases b2 with ⟨r1, r2⟩ | ⟨k, r1, r2⟩; exact .inl ⟨r1, r2, rfl⟩; exact .inr ⟨k, r1, by omega⟩) b3]
                    simp only [Result.andThen_ok, run_sizeB hn]
                    congr 3
                    split <;> rfl
                  · by_cases hml : cap' = l'
                    · rw [if_pos hml, addr_eq p1, add_eq]
                      refine ⟨rfl, p2, ee, p3, p4, .inr ⟨q0, by omega, q2, ?_, .inl (by omega)⟩⟩
                      rw [show cap' - l' = 0 from by omega, Nat.zero_mul]
                      have := Nat.zero_le (cap' * ee.es)
                      omega
                    · rw [if_neg hml, addr_eq p1, addr_eq p2, add_eq, add_eq]
                      have hlc : l' ≤ cap' := by omega
                      have hm : l' * n + (cap' - l') * ee.es = cap' * ee.es := by
                        rw [hes', ← Nat.add_mul, show l' + (cap' - l') = cap' from by omega]
                      refine ⟨rfl, rfl, ee, p3, p4, .inr ⟨q0, by omega, by simp only; omega, by simp only; omega, ?_⟩⟩
                      rcases q4 with q4 | q4
                      · left; omega
                      · right; simp only; omega
          · rename_i y n' hn'
            cases hnn : (Nat.beq n n' && mxOk (some y) hh) with
            | false => simp [hnn] at hs
            | true =>
              simp only [hnn, cond_true] at hs
              simp only [Bool.and_eq_true, Nat.beq_eq] at hnn
              obtain ⟨hnn, hmk⟩ := hnn
              subst hnn
              have hes' : ee.es = n := by
                unfold sizeB at hn'
                rw [hes] at hn'
                cases hn'; rfl
              split at hs
              · cases hs
              · rename_i m' hm'
                split at hs
                · cases hs
                · rename_i h' hh'
                  split at hs
                  · cases hs
                  · rename_i l' hl'
                    cases hs
                    have b1 := bound_run hm' mx1 mx2
                    have b2 := bound_run hh' hi1 hi2
                    have b3 := bound_run hl' lo1 lo2
                    have b2' := mx_hi hmk hi1 hi2 mx1 mx2 b2
                    obtain ⟨y', ey, -⟩ := mx1 y rfl
                    have b1' : ∃ k, mx.map ev = some (.int k (m' : Int)) ∧ m' ≤ len := by
                      rcases b1 with ⟨q, -⟩ | q
                      · rw [ey] at q; cases q
                      · exact q
                    obtain ⟨k, b1e, hm0⟩ := b1'
                    have hle : h' ≤ m' := by
                      rcases b2' with ⟨-, -, q⟩ | ⟨-, -, q⟩
                      · rw [ey] at q; cases q
                      · exact q
                    have hle2 : l' ≤ h' := by rcases b3 with ⟨-, q⟩ | ⟨-, -, q⟩ <;> omega
                    refine ⟨.slice (some (if m' = l' then a' else a'.add (l' * n))) (h' - l') (m' - l'), ?_, .slice (.inl ?_)⟩
                    · rw [hrun, hx']
                      simp only [Instr.sliceAt, Sem.run_bind, run_underlying hu, Result.andThen_ok, Instr.slice, Sem.run_pure]
                      rw [sliceBounds_run (m := m') (.inr ⟨k, b1e, by omega⟩) b2' b3]
                      simp only [Result.andThen_ok, run_sizeB hn]
                      congr 3
                      split <;> rfl
                    · by_cases hml : m' = l'
                      · rw [if_pos hml, addr_eq p1, add_eq]
                        refine ⟨rfl, p2, ee, p3, p4, .inr ⟨q0, ⟨by omega, by omega⟩, q2, ?_, .inl (by omega)⟩⟩
                        rw [show m' - l' = 0 from by omega, Nat.zero_mul]
                        have := Nat.zero_le (cap' * ee.es)
                        omega
                      · rw [if_neg hml, addr_eq p1, addr_eq p2, add_eq, add_eq]
                        have hm : l' * n + (m' - l') * ee.es = m' * ee.es := by
                          rw [hes', ← Nat.add_mul, show l' + (m' - l') = m' from by omega]
                        have hmm : m' * ee.es ≤ cap' * ee.es := Nat.mul_le_mul_right _ (by omega)
                        refine ⟨rfl, rfl, ee, p3, p4, .inr ⟨q0, ⟨by omega, by omega⟩, by simp only; omega, by simp only; omega, ?_⟩⟩
                        rcases q4 with q4 | q4
                        · left; omega
                        · right; simp only; omega
          · cases hs
        · cases hs
      · rename_i n e a hu
        obtain ⟨a', hx', hr⟩ := ptr_inv (hE _ _ hv)
        split at hs
        · rename_i t' z hg hz
          obtain ⟨c, ro, hb⟩ := growOf_get hg
          obtain ⟨p1, p2, ee, p3, p4, p5⟩ := hr
          have hge := (H.blk _ _ _ hb p3).1
          cases hk : mxOk m hh with
          | false => simp [hk] at hs
          | true =>
            simp only [hk, cond_true] at hs
            split at hs
            · cases hs
            · rename_i m' hm'
              split at hs
              · cases hs
              · rename_i h' hh'
                split at hs
                · cases hs
                · rename_i l' hl'
                  cases hs
                  have b1 := bound_run hm' mx1 mx2
                  have b2 := bound_run hh' hi1 hi2
                  have b3 := bound_run hl' lo1 lo2
                  have b2' := mx_hi hk hi1 hi2 mx1 mx2 b2
                  refine ⟨.slice (some (if m' = l' then a' else a'.add (l' * z))) (h' - l') (m' - l'), ?_, .slice (.inl ?_)⟩
                  · rw [hrun, hx']
                    simp only [Instr.sliceAt, Instr.sureAddr, Sem.run_bind, run_underlying hu, Result.andThen_ok, Sem.run_pure]
                    rw [sliceBounds_run b1 b2' b3]
                    simp only [Result.andThen_ok, run_sizeB hz]
                  · by_cases hml : m' = l'
                    · subst hml
                      rw [if_pos rfl, Nat.beq_refl]
                      exact ⟨p1, p2, ee, p3, p4, .inl ⟨hge, p5, rfl⟩⟩
                    · rw [if_neg hml, beqF hml, cond_false, addr_eq p1, addr_eq p2, add_eq, add_eq]
                      exact ⟨rfl, rfl, ee, p3, p4, .inl ⟨hge, by simp only; omega, rfl⟩⟩
        · cases hs
      · cases hs
  · cases h
end
end Go.Vf
end
section
namespace Go.Vf
open Go.RowKit
section
variable {P : Program} {B : Nat} {w0 : World} {ρ : Ren} {s : ASt} {w : World} {T : ATmp} {ev : Operand → Value} {o : Oper}
theorem zeroB_inv {t : TypeId} {z : Value} (h : zeroB P t = some z) : ∃ i, P.info? t = some i ∧ i.zero = some z ∧ plainV z = true := by
 unfold zeroB at h
 split at h
 ·rename_i i hi
  split at h
  ·rename_i v hv
   cases hp : plainV v with
   | false => simp [hp] at h
   | true => simp [hp] at h; subst h; exact ⟨i, hi, hv, hp⟩
  ·cases h
 ·cases h
theorem partsOf_rel (hE : ∀ x v, operand T s x = some v → VRel ρ v (ev x)) : ∀ {l : List (Nat × Operand)} {ps : List (Nat × Value)}, partsOf T s l = some ps →
  ps.length = l.length ∧ ∀ (i : Nat) p q, ps[i]? = some p → l[i]? = some q → p.1 = q.1 ∧ VRel ρ p.2 (ev q.2)
 | [], ps, h => by simp [partsOf] at h; subst h; simp
 | (i, x) :: r, ps, h => by
  simp only [partsOf] at h
  split at h
  ·cases h
  ·rename_i v hv
   split at h
   ·cases h
   ·rename_i l hl
    cases h
    obtain ⟨h1, h2⟩ := partsOf_rel hE hl
    refine ⟨by simp [h1], fun j p q hp hq => ?_⟩
    cases j with
    | zero => simp at hp hq; subst hp; subst hq; exact ⟨rfl, hE _ _ hv⟩
    | succ j => simp at hp hq; exact h2 j p q hp hq
theorem foldl_lset : ∀ (vs : List Value) (cs : Array Value) (off k : Nat), (vs.zipIdx k).foldl (fun (cs : Array Value) (x : Value × Nat) => cs.setIfInBounds (off + x.2) x.1) cs = ⟨lset cs.toList (off + k) vs⟩
 | [], cs, off, k => by simp [lset]
 | v :: vs, cs, off, k => by
  simp only [List.zipIdx_cons, List.foldl_cons, lset]
  rw [foldl_lset vs _ off (k + 1)]
  simp
  rfl
theorem LRel.lset {ρ : Ren} {x y vs vs' : List Value} (h : LRel ρ x y) (hv : LRel ρ vs vs') (k : Nat) (hk : k + vs.length ≤ x.length) : LRel ρ (lset x k vs) (Vf.lset y k vs') := by
 refine ⟨by rw [lset_length, lset_length]; exact h.1, fun i v v' h1 h2 => ?_⟩
 rw [lset_get _ _ _ _ hk] at h1
 rw [lset_get _ _ _ _ (by rw [← hv.1, ← h.1]; exact hk), ← hv.1] at h2
 split at h1
 ·rename_i hh; rw [if_pos hh] at h2; exact hv.2 _ _ _ h1 h2
 ·rename_i hh; rw [if_neg hh] at h2; exact h.2 _ _ _ h1 h2
theorem layAt_fill {place : Nat → Option (Nat × Nat)} : ∀ {ps : List (Nat × Value)} {qs : List (Nat × Operand)} {x y c : List Value}, layAt place x ps = some c → LRel ρ x y →
  ps.length = qs.length → (∀ (i : Nat) p q, ps[i]? = some p → qs[i]? = some q → p.1 = q.1 ∧ VRel ρ p.2 (ev q.2)) →
  ∃ c', Instr.fill place ⟨y⟩ (qs.map fun q => (q.1, ev q.2)) = some ⟨c'⟩ ∧ LRel ρ c c' ∧ c.length = x.length
 | [], [], x, y, c, h, r, _, _ => by simp [layAt] at h; subst h; exact ⟨y, rfl, r, rfl⟩
 | (i, v) :: ps, [], x, y, c, h, r, hl, _ => by simp at hl
 | [], q :: qs, x, y, c, h, r, hl, _ => by simp at hl
 | (i, v) :: ps, (j, z) :: qs, x, y, c, h, r, hl, hq => by
  obtain ⟨e1, e2⟩ := hq 0 _ _ rfl rfl
  simp only at e1 e2
  subst e1
  simp only [layAt] at h
  split at h
  ·cases h
  ·rename_i off size hp
   cases hb : Nat.beq (flat v).length size with
   | false => simp [hb] at h
   | true =>
    simp only [hb, cond_true] at h
    rw [Nat.beq_eq] at hb
    split at h
    ·cases h
    ·rename_i c1 hc1
     obtain ⟨rfl, hlen⟩ := setRow_eq _ _ _ _ hc1
     have hf := e2.flat
     have hsz : (ev z).cells.size = size := by rw [← hb]; exact hf.1.symm
     obtain ⟨c', q1, q2, q3⟩ := layAt_fill (qs := qs) h (r.lset hf off hlen) (by simpa using hl) (fun k p q hp hq' => hq (k + 1) p q hp hq')
     refine ⟨c', ?_, q2, by rw [q3, lset_length]⟩
     simp only [List.map_cons, Instr.fill, hp]
     have hle : ¬ (off + (ev z).cells.size > (⟨y⟩ : Array Value).size) := by
      have : (⟨y⟩ : Array Value).size = y.length := rfl
      rw [hsz, this, ← r.1]; omega
     rw [if_neg (by simp only [Bool.or_eq_true, decide_eq_true_eq, not_or]; exact ⟨by simpa using hsz, hle⟩)]
     have := foldl_lset (ev z).cells.toList ⟨y⟩ off 0
     rw [← Array.foldl_toList]
     rw [Array.toList_zipIdx]
     simp only [Nat.add_zero] at this
     rw [this]
     exact q1
theorem repeat_range (l : List Value) (hl : 0 < l.length) : ∀ n, (List.range (n * l.length)).map (fun k => l.toArray[k % l.toArray.size]!) = repeatL n l
 | 0 => by simp; rfl
 | n + 1 => by
  rw [show (n + 1) * l.length = l.length + n * l.length from by rw [Nat.add_mul]; omega, List.range_add, List.map_append]
  show _ = l ++ repeatL n l
  congr 1
  ·apply List.ext_getElem
   ·simp
   ·intro i h1 h2
    simp at h1 ⊢
    rw [Nat.mod_eq_of_lt h1]
    simp [h1]
  ·rw [← repeat_range l hl n, List.map_map]
   apply List.map_congr_left
   intro k hk
   simp
theorem repeatL_rel {x : List Value} (h : LRel ρ x x) : ∀ n, LRel ρ (repeatL n x) (repeatL n x)
 | 0 => .nil _
 | n + 1 => h.append (repeatL_rel h n)
theorem repeatL_length (x : List Value) : ∀ n, (repeatL n x).length = n * x.length
 | 0 => by simp; rfl
 | n + 1 => by show (x ++ repeatL n x).length = _; rw [List.length_append, repeatL_length x n, Nat.add_mul]; omega
theorem info_es {t : TypeId} {i : TypeInfo} (h : P.info? t = some i) : (P.info? t).map (·.size) = some i.size := by rw [h]; rfl
theorem post_new {cs : List Value} {elem : TypeId} {g : Bool} {es : Nat} {vf : Nat → Value} (hes : (P.info? elem).map (·.size) = some es) {rc rest : List Value} (hr : LRel ρ cs rc) {mkv : Nat → Value}
  (lo hi : Nat) (hfz : lo = hi ∨ (rc ++ rest).length ≤ lo)
  (hrun : ∃ w', (execOp ev o).run P w = .ok (.value (mkv w.heap.size)) w' ∧ w'.heap = w.heap.push (.cells ⟨rc ++ rest⟩ elem (lo, hi)) ∧ w'.os = w.os ∧ w'.tape = w.tape ∧ w'.output = w.output)
  (hv : ∀ (id : Nat) (ρ' : Ren), ρ' id = some ⟨w.heap.size, 0, (rc ++ rest).length, es, g⟩ → VRel ρ' (vf id) (mkv w.heap.size)) :
  Post P B w0 ρ s w ev o (.new (.cells cs elem g false) vf) := by
 refine ⟨rfl, fun id σ hid H hb => ?_⟩
 obtain ⟨w', h1, h2, h3, h4, h5⟩ := hrun
 exact ⟨_, w', _, h1, new_ok H hid hb hes hr hfz h2 h3 h4 h5, hv _ _ Ren.ext_self⟩
theorem post_alloc {elem : TypeId} (ho : o.op = .alloc elem) {nx : ANext} (h : aOp P T s (.alloc elem) = some nx) : Post P B w0 ρ s w ev o nx := by
 simp only [aOp] at h
 split at h
 ·cases h
 ·rename_i z hz
  cases h
  obtain ⟨r1, r2⟩ := run_zeroB (ρ := ρ) hz w
  have hi : ∃ i, P.info? elem = some i := by
   unfold zeroB at hz
   split at hz
   ·rename_i i hi; exact ⟨i, hi⟩
   ·cases hz
  obtain ⟨i, hi⟩ := hi
  refine post_new (rest := []) (mkv := fun n => .pointer (some ⟨n, 0, none⟩)) (info_es hi) r2.flat 0 0 (.inl rfl) ⟨w.alloc (.cells z.cells elem), ?_, ?_, rfl, rfl, rfl⟩ ?_
  ·simp only [execOp, ho, Instr.alloc, Sem.run_bind, r1, Result.andThen_ok, newVar, newRow, run_newObj, Sem.run_pure]
   rfl
  ·show w.heap.push _ = _
   rw [List.append_nil]; rfl
  ·intro id ρ' he
   exact .pointer ⟨rfl, rfl, _, he, rfl, rfl⟩
theorem post_box (hE : ∀ x v, operand T s x = some v → VRel ρ v (ev x)) {elem : TypeId} {x : Operand} (ho : o.op = .box elem x) {nx : ANext} (h : aOp P T s (.box elem x) = some nx) : Post P B w0 ρ s w ev o nx := by
 simp only [aOp] at h
 split at h
 ·rename_i v i hx hi
  cases h
  refine post_new (rest := []) (mkv := fun n => .pointer (some ⟨n, 0, none⟩)) (info_es hi) (hE _ _ hx).flat 0 0 (.inl rfl) ⟨w.alloc (.cells (ev x).cells elem), ?_, ?_, rfl, rfl, rfl⟩ ?_
  ·simp only [execOp, ho, Instr.box, Sem.run_bind, Result.andThen_ok, newVar, newRow, run_newObj, Sem.run_pure]
   rfl
  ·show w.heap.push _ = _
   rw [List.append_nil]; rfl
  ·intro id ρ' he
   exact .pointer ⟨rfl, rfl, _, he, rfl, rfl⟩
 ·cases h
theorem post_buildSlice (hE : ∀ x v, operand T s x = some v → VRel ρ v (ev x)) {t : TypeId} {len : Nat} {parts : Array (Nat × Operand)} (ho : o.op = .buildSlice t len parts) {nx : ANext}
  (h : aOp P T s (.buildSlice t len parts) = some nx) : Post P B w0 ρ s w ev o nx := by
 simp only [aOp] at h
 split at h
 ·rename_i elem ps hu hps
  split at h
  ·rename_i i z hi hz
   obtain ⟨r1, r2⟩ := run_zeroB (ρ := ρ) hz w
   cases hb : (Nat.ble (len * i.size) 16777216 && Nat.beq (flat z).length i.size && Nat.blt 0 i.size) with
   | false => simp [hb] at h
   | true =>
    simp only [hb, cond_true] at h
    simp only [Bool.and_eq_true, Nat.ble_eq, Nat.beq_eq, Nat.blt_eq] at hb
    obtain ⟨⟨hb1, hb2⟩, hb3⟩ := hb
    split at h
    ·cases h
    ·rename_i c hc
     cases h
     obtain ⟨p1, p2⟩ := partsOf_rel hE hps
     obtain ⟨c', q1, q2, q3⟩ := layAt_fill hc (repeatL_rel r2.flat len) p1 p2
     refine post_new (rest := []) (mkv := fun n => .slice (some ⟨n, 0, none⟩) len len) (info_es hi) q2 0 0 (.inl rfl) ⟨w.alloc (.cells ⟨c'⟩ elem), ?_, ?_, rfl, rfl, rfl⟩ ?_
     ·have hsz : (sizeOf elem).run P w = .ok i.size w := by rw [run_sizeOf w hi]; simp [Program.cellsOf, hi]
      have hrep : (Array.range (len * i.size)).map (fun k => z.cells[k % z.cells.size]!) = ⟨repeatL len (flat z)⟩ := by
       apply Array.ext'
       have := repeat_range (flat z) (by omega) len
       rw [hb2] at this
       simpa [flat] using this
      have hmap : (parts.map fun x => (x.1, ev x.2)).toList = parts.toList.map fun q => (q.1, ev q.2) := by simp
      have hn : ¬ (len * i.size > 2 ^ 24) := by omega
      simp only [execOp, ho, Instr.buildSlice, Sem.run_bind, run_underlying hu, Result.andThen_ok, hsz, if_neg hn]
      by_cases h0 : len * i.size = 0
      ·have hl0 : len = 0 := by
        rcases Nat.mul_eq_zero.1 h0 with h | h
        ·exact h
        ·omega
       subst hl0
       have q1' : Instr.fill (fun j => some (j * i.size, i.size)) (Array.map (fun k => (#[] : Array Value)[k % (#[] : Array Value).size]!) (Array.range 0)) (List.map (fun q => (q.fst, ev q.snd)) parts.toList) = some ⟨c'⟩ := by
        have : (Array.range 0).map (fun k => (#[] : Array Value)[k % (#[] : Array Value).size]!) = ⟨repeatL 0 (flat z)⟩ := by apply Array.ext'; simp; rfl
        rw [this]; exact q1
       simp only [h0, if_true, Sem.run_bind, Sem.run_pure, Result.andThen_ok, hmap, q1', newRow, run_newObj]
       rfl
      ·simp only [if_neg h0, Sem.run_bind, r1, Result.andThen_ok, Sem.run_pure, hrep, hmap, q1, newRow, run_newObj]
       rfl
     ·show w.heap.push _ = _
      rw [List.append_nil]
     ·intro id ρ' he
      exact .slice (.inl ⟨rfl, rfl, _, he, rfl, .inl ⟨rfl, rfl, rfl⟩⟩)
  ·cases h
 ·cases h
theorem post_makeSlice (hE : ∀ x v, operand T s x = some v → VRel ρ v (ev x)) {t : TypeId} {l c : Operand} (ho : o.op = .makeSlice t l c) {nx : ANext}
  (h : aOp P T s (.makeSlice t l c) = some nx) : Post P B w0 ρ s w ev o nx := by
 simp only [aOp] at h
 split at h
 ·rename_i elem k1 l' k2 c' hu hl hc
  split at h
  ·rename_i i z hi hz
   obtain ⟨r1, r2⟩ := run_zeroB (ρ := ρ) hz w
   cases hb : (Nat.ble l' c' && Nat.ble (i.bytes * c') 140737488355328 && Nat.ble c' 1073741824 && Nat.beq (flat z).length i.size) with
   | false => simp [hb] at h
   | true =>
    simp only [hb, cond_true] at h
    simp only [Bool.and_eq_true, Nat.ble_eq, Nat.beq_eq] at hb
    obtain ⟨⟨⟨hb1, hb2⟩, hb3⟩, hb4⟩ := hb
    cases h
    have hcell : (Array.range (c' * i.size)).map (fun k => (if c' * i.size = 0 then (#[] : Array Value) else z.cells)[k % (if c' * i.size = 0 then (#[] : Array Value) else z.cells).size]!) = ⟨repeatL c' (flat z)⟩ := by
     by_cases h0 : c' * i.size = 0
     ·rw [h0]
      apply Array.ext'
      have : repeatL c' (flat z) = [] := by
       apply List.eq_nil_of_length_eq_zero
       rw [repeatL_length, hb4, h0]
      simp [this]
     ·rw [if_neg h0]
      apply Array.ext'
      have := repeat_range (flat z) (by rcases Nat.eq_zero_or_pos (flat z).length with e | e; rw [e] at hb4; rw [← hb4] at h0; simp at h0; exact e) c'
      rw [hb4] at this
      simpa [flat] using this
    refine post_new (rest := []) (mkv := fun n => .slice (some ⟨n, 0, none⟩) l' c') (info_es hi) (repeatL_rel r2.flat c') 0 0 (.inl rfl) ⟨w.alloc (.cells ⟨repeatL c' (flat z)⟩ elem), ?_, ?_, rfl, rfl, rfl⟩ ?_
    ·have hsz : (sizeOf elem).run P w = .ok i.size w := by rw [run_sizeOf w hi]; simp [Program.cellsOf, hi]
     have e1 := int_inv (hE _ _ hl)
     have e2 := int_inv (hE _ _ hc)
     obtain ⟨i', hi', hz', -⟩ := zeroB_inv hz
     rw [hi] at hi'; cases hi'
     have hm := run_make (P := P) w t elem i z hu hi hz' k1 k2 l' c' (by omega) (by omega) (by
      have : ((i.bytes * c' : Nat) : Int) ≤ 140737488355328 := by omega
      rw [Int.natCast_mul] at this; omega) (by omega)
     have hmc : madeCells z.cells (c' * i.size) = ⟨repeatL c' (flat z)⟩ := by
      rw [← hcell]
      unfold madeCells
      by_cases h0 : c' * i.size = 0
      ·rw [h0]; simp
      ·rw [if_neg h0]
     simp only [Int.toNat_natCast, hmc] at hm
     simp only [execOp, ho, e1, e2, Sem.run_bind, Sem.run_pure]
     exact congrArg (fun r : Result Value => r.andThen fun v w => Result.ok (Next.value v) w) hm
    ·show w.heap.push _ = _
     rw [List.append_nil]
    ·intro id ρ' he
     exact .slice (.inl ⟨rfl, rfl, _, he, rfl, .inl ⟨rfl, rfl, rfl⟩⟩)
  ·cases h
 ·cases h
end
end Go.Vf
end
