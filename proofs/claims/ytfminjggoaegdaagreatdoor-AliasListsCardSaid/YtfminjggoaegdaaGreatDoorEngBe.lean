import Derived.Test.YtfminjggoaegdaaGreatDoorEngBd
import Derived.Maps.RangeRun
import Derived.BigCall
import Derived.Lib.Bytealg
section
namespace Go.Vf
open Go.RowKit
set_option linter.unusedVariables false
set_option linter.unusedSimpArgs false
section
variable {P : Program} {T : TL} {s : SS} {K : Value → SS → Prop}
theorem srange_W {t : TypeId} {x : Operand} {b : ByteArray} (hc : okC x = true) (hm : P.underlying t = some .string) (hx : opd T s.gl x = some (.string b))
  (h : K (.pointer (some ⟨s.next, 0, none⟩)) { s with heap := (s.next, some (.siter b 0)) :: s.heap, next := s.next + 1 }) : OpW P (.range t x) T s K := by
 refine ⟨_, _, h, Nat.le_succ _, rfl, ?_⟩
 intro o ho nt B w0 ρ w tmps ds H F hf
 have r1 := F.ev H ds _ _ (opd_ok hc hx)
 have e1 := str_inv r1
 have hfree := hf s.next (Nat.le_refl _) (Nat.lt_succ_self _)
 have H' : HRel P B w0 ρ (SS.st { s with heap := (s.next, some (.siter b 0)) :: s.heap, next := s.next + 1 }) w := by
  refine H.same rfl fun i a b hi hb2 => ?_
  simp only [SS.st, toH, Tr.get_put] at hb2 ⊢
  by_cases q : i = s.next
  ·subst q; rw [hfree] at hi; cases hi
  ·rwa [if_neg q] at hb2
 generalize hev : (⟨tmps, ds⟩ : Act).eval = ev at *
 refine ⟨.value (.pointer (some ⟨w.heap.size, 0, none⟩)), _, w.alloc (.stringIter b 0), ρ.ext s.next ⟨w.heap.size, 0, 0, 0, false⟩, ?_, .inl rfl, .pointer ⟨rfl, rfl, _, Ren.ext_self, rfl, rfl⟩, ?_, ?_⟩
 ·simp [execOp, ho, Instr.range, e1, run_underlying hm, Result.andThen]
 ·refine H'.new (b := .siter b 0) hfree (by simp [SS.st, toH]) rfl rfl rfl rfl rfl rfl ⟨rfl, ?_⟩
  show (w.heap.push _)[w.heap.size]? = _
  simp
 ·exact Ext.one hfree (Nat.lt_succ_self _)
theorem snext_W {x : Operand} {id pos : Nat} {b : ByteArray} (hc : okC x = true) (hx : opd T s.gl x = some (.pointer (some ⟨id, 0, none⟩))) (hi : lookH s.heap id = some (.siter b pos))
  (hend : b.size ≤ pos → K (.tuple ⟨[.bool false]⟩) s)
  (hone : pos < b.size → K (.tuple ⟨[.bool true, .int .i64 pos, .int .i32 (Utf8.decode b pos).1]⟩) { s with heap := (id, some (.siter b (pos + (Utf8.decode b pos).2))) :: s.heap }) : OpW P (.next x true) T s K := by
 by_cases hp : pos < b.size
 ·refine ⟨_, _, hone hp, Nat.le_refl _, rfl, ?_⟩
  intro o ho nt B w0 ρ w tmps ds H F hf
  have r1 := F.ev H ds _ _ (opd_ok hc hx)
  obtain ⟨a', ha', q1, q2, ei, q3, q4, q5⟩ := ptr_inv r1
  have hi' : s.st.heap.get id = some (.siter b pos) := by rw [s.get]; exact hi
  obtain ⟨i0, hwi⟩ := H.blk _ _ _ hi' q3
  rw [addr_eq q2, q4, q5, i0] at ha'
  generalize hev : (⟨tmps, ds⟩ : Act).eval = ev at *
  have ha2 : ev x = .pointer (some ⟨ei.blk, 0, none⟩) := ha'
  refine ⟨.value (.tuple #[.bool true, .int .i64 pos, .int .i32 (Utf8.decode b pos).1]), _, { w with heap := w.heap.setIfInBounds ei.blk (.stringIter b (pos + (Utf8.decode b pos).2)) }, ρ, ?_, .inl rfl, .tuple' (b := [.bool true, .int .i64 pos, .int .i32 (Utf8.decode b pos).1]) (.cons (.bool _) (.cons (.int _ _) (.cons (.int _ _) (.nil _)))), ?_, ?_⟩
  ·simp [execOp, ho, ha2, Instr.next, getObj, setObj, hwi, hp, goInt, Sem.run_bind, Sem.run, Result.andThen]
  ·refine H.turn (b' := .siter b (pos + (Utf8.decode b pos).2)) q3 hi' rfl rfl (fun i => ?_) rfl (by simp) (fun k hk => ?_) rfl rfl rfl ⟨i0, ?_⟩
   ·simp only [SS.st, toH, Tr.get_put]
   ·simp [Array.getElem?_setIfInBounds, Ne.symm hk]
   ·have := (Array.getElem?_eq_some_iff.1 hwi).1
    show (w.heap.setIfInBounds ei.blk _)[ei.blk]? = _
    simp [this]
  ·exact .refl _ _ _
 ·refine ⟨_, _, hend (by omega), Nat.le_refl _, rfl, ?_⟩
  intro o ho nt B w0 ρ w tmps ds H F hf
  have r1 := F.ev H ds _ _ (opd_ok hc hx)
  obtain ⟨a', ha', q1, q2, ei, q3, q4, q5⟩ := ptr_inv r1
  have hi' : s.st.heap.get id = some (.siter b pos) := by rw [s.get]; exact hi
  obtain ⟨i0, hwi⟩ := H.blk _ _ _ hi' q3
  rw [addr_eq q2, q4, q5, i0] at ha'
  generalize hev : (⟨tmps, ds⟩ : Act).eval = ev at *
  have ha2 : ev x = .pointer (some ⟨ei.blk, 0, none⟩) := ha'
  refine ⟨.value (.tuple #[.bool false]), _, w, ρ, ?_, .inl rfl, .tuple' (b := [.bool false]) (.cons (.bool _) (.nil _)), H, ?_⟩
  ·simp [execOp, ho, ha2, Instr.next, getObj, hwi, hp, Sem.run_bind, Sem.run, Result.andThen]
  ·exact .refl _ _ _
theorem get_dec {l : List UInt8} {pos : Nat} {c : UInt8} (h : l[pos]? = some c) : (ByteArray.mk ⟨l⟩).get! pos = c := by
 obtain ⟨hp, e⟩ := List.getElem?_eq_some_iff.1 h
 show (Array.mk l)[pos]! = c
 simp [hp, e]
theorem dec_lo {l : List UInt8} {pos : Nat} {c : UInt8} (h : l[pos]? = some c) (hc : c.toNat < 128) : Utf8.decode ⟨⟨l⟩⟩ pos = (c.toNat, 1) := by
 have e : (ByteArray.mk ⟨l⟩).get! (pos + 0) = c := get_dec h
 simp only [Utf8.decode, e, hc, if_true]
theorem dec_hi {l : List UInt8} {pos : Nat} {c : UInt8} (h : l[pos]? = some c) (hc : 128 ≤ c.toNat) : 128 ≤ (Utf8.decode ⟨⟨l⟩⟩ pos).1 ∧ (Utf8.decode ⟨⟨l⟩⟩ pos).1 ≤ 1114111 ∧ 1 ≤ (Utf8.decode ⟨⟨l⟩⟩ pos).2 ∧ (Utf8.decode ⟨⟨l⟩⟩ pos).2 ≤ 4 := by
 have e : (ByteArray.mk ⟨l⟩).get! (pos + 0) = c := get_dec h
 unfold Utf8.decode
 simp only [e]
 rw [if_neg (by omega)]
 have q1 : Utf8.runeError = 65533 := rfl
 have m6 : ∀ n : Nat, n % 64 < 64 := fun n => Nat.mod_lt _ (by omega)
 repeat' split
 all_goals simp only [q1, Bool.and_eq_true, Bool.or_eq_true, decide_eq_true_eq, ge_iff_le, Utf8.valid] at *
 all_goals omega
theorem dec_more {l : List UInt8} {pos r w : Nat} (h : Utf8.decode ⟨⟨l⟩⟩ pos = (r, w)) {c : UInt8} (hc : l[pos]? = some c) (h7 : 128 ≤ c.toNat) : ∀ j, j < w → ∃ d, l[pos + j]? = some d ∧ 128 ≤ d.toNat := by
  have e : (ByteArray.mk ⟨l⟩).get! (pos + 0) = c := get_dec hc
  have cont : ∀ k, pos + k < l.length → ((ByteArray.mk ⟨l⟩).get! (pos + k)).toNat / 64 = 2 → ∃ d, l[pos + k]? = some d ∧ 128 ≤ d.toNat := fun k hk hd => by
    refine ⟨_, List.getElem?_eq_getElem hk, ?_⟩
    rw [get_dec (List.getElem?_eq_getElem hk)] at hd
    omega
  have one : ∀ j, j < 1 → ∃ d, l[pos + j]? = some d ∧ 128 ≤ d.toNat := fun j hj => by
    obtain rfl : j = 0 := by omega
    exact ⟨c, hc, h7⟩
  have sz : (ByteArray.mk ⟨l⟩).size = l.length := rfl
  unfold Utf8.decode at h
  simp only [e, sz] at h
  rw [if_neg (by omega)] at h
  repeat' split at h
  all_goals simp only [Bool.and_eq_true, decide_eq_true_eq, beq_iff_eq, Prod.mk.injEq] at *
  all_goals obtain ⟨-, rfl⟩ := h
  all_goals first
    | exact one
    | (intro j hj
       rcases j with _ | _ | _ | _ | j
       all_goals first
         | exact ⟨c, hc, h7⟩
         | (exact cont 1 (by omega) (by omega))
         | (exact cont 2 (by omega) (by omega))
         | (exact cont 3 (by omega) (by omega))
         | omega)
theorem snext_L {x : Operand} {id pos : Nat} {l : List UInt8} (hc : okC x = true) (hx : opd T s.gl x = some (.pointer (some ⟨id, 0, none⟩))) (hi : lookH s.heap id = some (.siter ⟨⟨l⟩⟩ pos))
  (hend : l.length ≤ pos → K (.tuple ⟨[.bool false]⟩) s)
  (hlo : ∀ c : UInt8, l[pos]? = some c → c.toNat < 128 → K (.tuple ⟨[.bool true, .int .i64 pos, .int .i32 c.toNat]⟩) { s with heap := (id, some (.siter ⟨⟨l⟩⟩ (pos + 1))) :: s.heap })
  (hhi : ∀ (c : UInt8) (r w : Nat), l[pos]? = some c → 128 ≤ c.toNat → 128 ≤ r → r ≤ 1114111 → Utf8.decode ⟨⟨l⟩⟩ pos = (r, w) → 1 ≤ w → w ≤ 4 → K (.tuple ⟨[.bool true, .int .i64 pos, .int .i32 r]⟩) { s with heap := (id, some (.siter ⟨⟨l⟩⟩ (pos + w))) :: s.heap }) : OpW P (.next x true) T s K := by
 refine snext_W hc hx hi hend fun hp => ?_
 obtain ⟨c, h⟩ : ∃ c, l[pos]? = some c := ⟨l[pos]'hp, List.getElem?_eq_getElem hp⟩
 by_cases hc2 : c.toNat < 128
 ·have := hlo c h hc2
  rwa [dec_lo h hc2]
 ·have ⟨h1, h2, h3, h4⟩ := dec_hi h (by omega)
  exact hhi c _ _ h (by omega) h1 h2 rfl h3 h4
end
end Go.Vf
end
section
namespace Go.Vf
set_option linter.unusedVariables false
set_option linter.unusedSimpArgs false
structure It where
 p : Nat
 s : SS
def At (s0 : SS) (id : Nat) (l : List UInt8) (x : It) : Prop := Chg s0 x.s [] ∧ s0.next ≤ id ∧ id < x.s.next ∧ lookH x.s.heap id = some (.siter ⟨⟨l⟩⟩ x.p)
theorem At.start (s : SS) (l : List UInt8) : At s s.next l ⟨0, { s with heap := (s.next, some (.siter ⟨⟨l⟩⟩ 0)) :: s.heap, next := s.next + 1 }⟩ := ⟨.new _, Nat.le_refl _, Nat.lt_succ_self _, lkH⟩
theorem At.go {s0 : SS} {id : Nat} {l : List UInt8} {p : Nat} {s : SS} (h : At s0 id l ⟨p, s⟩) (p' : Nat) : At s0 id l ⟨p', { s with heap := (id, some (.siter ⟨⟨l⟩⟩ p')) :: s.heap }⟩ :=
 ⟨h.1.fresh (Chg.turn h.2.2.1) (by simp [h.2.1]), h.2.1, h.2.2.1, lkH⟩
theorem At.chg {s0 : SS} {id : Nat} {l : List UInt8} {p : Nat} {s s' : SS} {A : List Nat} (h : At s0 id l ⟨p, s⟩) (c : Chg s s' A) (hA : ∀ i ∈ A, s0.next ≤ i ∧ i ≠ id) : At s0 id l ⟨p, s'⟩ :=
 ⟨h.1.fresh c fun i hi => (hA i hi).1, h.2.1, Nat.lt_of_lt_of_le h.2.2.1 c.next, c.blk _ _ h.2.2.1 (fun q => (hA _ q).2 rfl) h.2.2.2⟩
section
variable {P : Program} {T : TL} {s : SS} {K : RR → Prop} {x y : Operand} {e : TypeId} {base : Option Addr} {a l : List UInt8}
def Buf (e : TypeId) (s : SS) (base : Option Addr) (cap : Nat) (l : List UInt8) : Prop :=
 (cap = 0 ∧ Own e s base l) ∨ (cap = l.length ∧ ∃ b g, base = some ⟨b, 0, none⟩ ∧ b < s.next ∧ lookH s.heap b = some (.cells (bytesV l) e false g))
theorem Own.buf (h : Own e s base l) : Buf e s base 0 l := .inl ⟨rfl, h⟩
theorem Buf.lt {cap : Nat} (h : Buf e s base cap l) : ∀ id ∈ blkOf base, id < s.next := by
 rcases h with ⟨_, h⟩ | ⟨_, b, g, rfl, h1, h2⟩
 ·exact h.lt
 ·intro id hid
  simp only [blkOf, List.mem_singleton] at hid
  subst hid
  exact h1
theorem Buf.chg {s' : SS} {cap : Nat} {A : List Nat} (h : Buf e s base cap l) (c : Chg s s' A) (hA : ∀ id ∈ blkOf base, id ∉ A) : Buf e s' base cap l := by
 rcases h with ⟨h0, h⟩ | ⟨h0, b, g, rfl, h1, h2⟩
 ·exact .inl ⟨h0, h.chg c hA⟩
 ·exact .inr ⟨h0, b, g, rfl, Nat.lt_of_lt_of_le h1 c.next, c.blk _ _ h1 (hA b (by simp [blkOf])) h2⟩
theorem Buf.rdb {cap : Nat} (h : Buf e s base cap l) : Rdb s base l.length l := by
 rcases h with ⟨_, h⟩ | ⟨_, b, g, rfl, h1, h2⟩
 ·exact h.rdb
 ·refine ⟨rfl, rfl, h1, _, _, _, _, h2, ?_, bytesV_plain _⟩
  rw [takeN_bytes (by omega), List.drop_zero, List.take_of_length_le (by omega)]
theorem rdb_lit {b : Nat} {g r : Bool} (hb : lookH s.heap b = some (.cells (bytesV l) e g r)) (h : b < s.next) : Rdb s (some ⟨b, 0, none⟩) l.length l := by
 refine ⟨rfl, rfl, h, _, _, _, _, hb, ?_, bytesV_plain _⟩
 rw [takeN_bytes (by omega), List.drop_zero, List.take_of_length_le (by omega)]
theorem app_buf {m n c cap : Nat} {sb : Option Addr} (ho : Buf e s base cap a) (hm : m = a.length) (hx : opd T s.gl x = some (.slice base m cap)) (hy : opd T s.gl y = some (.slice sb n c)) (hr : Rdb s sb n l) (h0 : 0 < n) (hb : m + n ≤ 1073741824)
  (h : ∀ s' : SS, Own e s' (some ⟨s.next, 0, none⟩) (a ++ l) → Chg s s' (blkOf base) → s'.next = s.next + 1 → K (.eff (.slice (some ⟨s.next, 0, none⟩) (m + n) 0) s')) : wN P (.app e 1 1 x y) T s K := by
 rcases ho with ⟨rfl, ho⟩ | ⟨h1, b, g, rfl, h2, h3⟩
 ·exact app_own ho hm hx hy hr h0 hb h
 ·exact appB_new hx h3 hm hy hr (by omega) (by omega) (h _ ⟨rfl, rfl, Nat.lt_succ_self _, true, lkH, fun q => by cases q⟩ (.new _) rfl)
theorem app_byte {m c cap b : Nat} {z : Int} {d : UInt8} {g r : Bool} (ho : Buf e s base cap a) (hm : m = a.length) (hx : opd T s.gl x = some (.slice base m cap)) (hy : opd T s.gl y = some (.slice (some ⟨b, 0, none⟩) 1 c)) (hbk : lookH s.heap b = some (.cells [.int .u8 z] e g r)) (hz : z = d.toNat) (hlt : b < s.next) (hb : m + 1 ≤ 1073741824)
  (h : ∀ s' : SS, Own e s' (some ⟨s.next, 0, none⟩) (a ++ [d]) → Chg s s' (blkOf base) → s'.next = s.next + 1 → K (.eff (.slice (some ⟨s.next, 0, none⟩) (m + 1) 0) s')) : wN P (.app e 1 1 x y) T s K := by
 subst hz
 exact app_buf ho hm hx hy (rdb_lit (l := [d]) hbk hlt) (by omega) hb h
theorem Buf.new {cap : Nat} {b : ABlk} (h : Buf e s base cap l) : Buf e { s with heap := (s.next, some b) :: s.heap, next := s.next + 1 } base cap l := h.chg (.new []) (by simp)
theorem app_lit {m c cap : Nat} {z : Int} {d : UInt8} {g r : Bool} (ho : Buf e s base cap a) (hm : m = a.length) (hx : opd T s.gl x = some (.slice base m cap)) (hy : opd T s.gl y = some (.slice (some ⟨s.next, 0, none⟩) 1 c)) (hz : z = d.toNat) (hb : m + 1 ≤ 1073741824)
  (h : ∀ s' : SS, Own e s' (some ⟨s.next + 1, 0, none⟩) (a ++ [d]) → Chg s s' (blkOf base) → s'.next = s.next + 2 → K (.eff (.slice (some ⟨s.next + 1, 0, none⟩) (m + 1) 0) s')) :
  wN P (.app e 1 1 x y) T { s with heap := (s.next, some (.cells [.int .u8 z] e g r)) :: s.heap, next := s.next + 1 } K :=
 app_byte ho.new hm hx hy lkH hz (Nat.lt_succ_self _) hb fun s' o c n => h s' o ((Chg.new []).nil c) n
end
theorem ret_cell {P : Program} {T : TL} {s : SS} {K : Value → SS → Prop} {a b : Tmp} {t : TypeId} {n c off : Nat} {cs l : List Value} {e : TypeId} {g r : Bool} {v : Value} (hA : aggB P t = some true) (hz : sizeB P t = some n)
  (ha : look T a = some (.pointer (some ⟨c, off, none⟩))) (hb : lookH s.heap c = some (.cells cs e g r)) (hl : takeN n (cs.drop off) = some l) (hv : look T b = some v) (h : K (.tuple ⟨[.agg ⟨l⟩, v]⟩) s) : runQ P [.cell a t, .tmp b] K .ret T s := by
 have h1 : aOp P (toTr T) s.st (.load t (.tmp a)) = some (.val (.agg ⟨l⟩)) := by
  simp only [aOp, operand, toTr_get, ha, hA, hz, loadRow, SS.get, hb, hl]
  rfl
 unfold runQ
 simp only [resS, h1, hv]
 exact h
theorem ret_cell1 {P : Program} {T : TL} {s : SS} {K : Value → SS → Prop} {a : Tmp} {t : TypeId} {n c off : Nat} {cs l : List Value} {e : TypeId} {g r : Bool} (hA : aggB P t = some true) (hz : sizeB P t = some n)
  (ha : look T a = some (.pointer (some ⟨c, off, none⟩))) (hb : lookH s.heap c = some (.cells cs e g r)) (hl : takeN n (cs.drop off) = some l) (h : K (.agg ⟨l⟩) s) : runQ P [.cell a t] K .ret T s := by
 have h1 : aOp P (toTr T) s.st (.load t (.tmp a)) = some (.val (.agg ⟨l⟩)) := by
  simp only [aOp, operand, toTr_get, ha, hA, hz, loadRow, SS.get, hb, hl]
  rfl
 unfold runQ
 simp only [resS, h1]
 exact h
theorem gTup {T : TL} {d : Tmp} {b : Bool} {vs : Array Value} {run skip : Prop} (h : look T d = some (.tuple vs)) (hs : skip) : wG T (some (d, b)) run skip := by
 simp only [wG, h]
 exact hs
theorem take_next {α : Type} {l : List α} {p : Nat} {c : α} (h : l[p]? = some c) : l.take (p + 1) = l.take p ++ [c] := by
 rw [List.take_add_one, h]; rfl
theorem drop_next {α : Type} {l : List α} {p : Nat} {c : α} (h : l[p]? = some c) : l.drop p = c :: l.drop (p + 1) := by
 obtain ⟨hp, e⟩ := List.getElem?_eq_some_iff.1 h
 rw [← e, List.drop_eq_getElem_cons hp]
theorem lt_of_get {α : Type} {l : List α} {p : Nat} {c : α} (h : l[p]? = some c) : p < l.length := (List.getElem?_eq_some_iff.1 h).1
theorem byte_id (c : UInt8) : IntKind.wrap .u8 (c.toNat : Int) = (c.toNat : Int) := by rw [wrap_u8]; have := c.toNat_lt; omega
class Stp (p : Prop) (h : outParam Prop) : Prop where
 i : h → Box p
section
variable {P : Program} {nt k : Nat} {T : TL} {s : SS} {Q : AExit → TL → SS → Prop} {R : TL → SS → Prop}
instance : Stp (wp P nt k .skip T s Q) (Q .normal T s) := ⟨pSkip⟩
instance {l : List MOper} : Stp (wp P nt k (.reg l) T s Q) (Box (wSeq P l T s (regQ Q))) := ⟨pReg⟩
instance {l : List ROp} : Stp (wp P nt k (.row l) T s Q) (Box (wRow P l [] T s (regQ Q))) := ⟨pRow⟩
instance {a b : MC} : Stp (wp P nt k (.seq a b) T s Q) (Box (wp P nt k a T s (seqQ P nt k b Q))) := ⟨pSeq⟩
instance {x : Operand} {a b : MC} : Stp (wp P nt k (.cond x a b) T s Q) (match opd T s.gl x with
  | some (.bool true) => Box (wp P nt k a T s Q)
  | some (.bool false) => Box (wp P nt k b T s Q)
  | _ => False) := ⟨pCond⟩
instance {id : Nat} {c : MC} : Stp (wp P nt k (.block id c) T s Q) (Box (wp P nt k c T s (blockQ id Q))) := ⟨pBlock⟩
instance {id : Nat} : Stp (wp P nt k (.exit id) T s Q) (Q (.exit id) T s) := ⟨pExit⟩
instance : Stp (wp P nt k .ret T s Q) (Q .ret T s) := ⟨pRet⟩
instance : Stp (wSeq P [] T s R) (R T s) := ⟨sNil⟩
instance (priority := 10) {d : Option Tmp} {g : Option (Tmp × Bool)} {m : MOp} {l : List MOper} : Stp (wSeq P (⟨d, g, m⟩ :: l) T s R) (wG T g (wN P m T s (stepK P d l T s R)) (Box (wSeq P l (putL T d (.tuple #[])) s R))) := ⟨sCons⟩
instance {d : Option Tmp} {g : Option (Tmp × Bool)} {op : Op} {l : List MOper} : Stp (wSeq P (⟨d, g, .raw op⟩ :: l) T s R) (wG T g (OpW P op T s fun v s' => Box (wSeq P l (putL T d v) s' R)) (Box (wSeq P l (putL T d (.tuple #[])) s R))) := ⟨sRaw⟩
instance (priority := 20) {d : Option Tmp} {m : MOp} {l : List MOper} : Stp (wSeq P (⟨d, none, m⟩ :: l) T s R) (wN P m T s (stepK P d l T s R)) := ⟨fun h => sCons (gNone h)⟩
instance (priority := 2000) {d : Option Tmp} {op : Op} {l : List MOper} : Stp (wSeq P (⟨d, none, .raw op⟩ :: l) T s R) (OpW P op T s fun v s' => Box (wSeq P l (putL T d v) s' R)) := ⟨fun h => sRaw (gNone h)⟩
instance {pd : List PRec} : Stp (wRow P [] pd T s R) (R T s) := ⟨rNil⟩
instance (priority := 2000) {d : Option Tmp} {m : MOp} {loud chk : Bool} {n : Nat} {l : List ROp} {pd : List PRec} : Stp (wRow P ((⟨d, none, m⟩, loud, chk, n) :: l) pd T s R) (wN P m T s (rowK P m d chk n l pd T s R)) := ⟨fun h => rCons (gNone h)⟩
instance {d : Option Tmp} {g : Option (Tmp × Bool)} {m : MOp} {loud chk : Bool} {n : Nat} {l : List ROp} {pd : List PRec} : Stp (wRow P ((⟨d, g, m⟩, loud, chk, n) :: l) pd T s R) (wG T g (wN P m T s (rowK P m d chk n l pd T s R)) (Box (wRow P l pd (putL T d (.tuple #[])) s R))) := ⟨rCons⟩
end
theorem sb {p h : Prop} [q : Stp p h] (x : h) : Box p := q.i x
end Go.Vf
end
section
namespace Go.Vf
set_option linter.unusedVariables false
set_option linter.unusedSimpArgs false
section
variable {P : Program} {T : TL} {s : SS} {K : Value → SS → Prop}
theorem xtn_W {f : FuncId} {fn : Func} {e : Array Value → Sem Value} {x y : Operand} {ats : Array TypeId} {l : List UInt8} {c z : Int} (hf : P.funcs[f]? = some fn) (hname : (fn.name == "runtime.NumGoroutine") = false)
  (hb : fn.body.isNone = true) (hn : Extern.findNext fn = none) (he : Extern.find fn = some e) (hcx : okC x = true) (hcy : okC y = true) (hx : opd T s.gl x = some (.string ⟨⟨l⟩⟩)) (hy : opd T s.gl y = some (.int .u8 c))
  (run : ∀ w, (e #[.string ⟨⟨l⟩⟩, .int .u8 c]).run P w = .ok (.int .i64 z) w) (h : K (.int .i64 z) s) : OpW P (.call { callee := .value (.func f), args := #[x, y], argTypes := ats }) T s K := by
 refine ⟨_, _, h, Nat.le_refl _, rfl, ?_⟩
 intro o ho nt B w0 ρ w tmps ds H F hfr
 have r1 := str_inv (F.ev H ds _ _ (opd_ok hcx hx))
 have r2 := int_inv (F.ev H ds _ _ (opd_ok hcy hy))
 obtain ⟨dst, op, ty, pos, after, guard⟩ := o
 simp only at ho
 subst ho
 refine ⟨.value (.int .i64 z), _, w, ρ, ?_, .inl rfl, .int _ _, H, .refl _ _ _⟩
 rw [execOp_call_go, run_callFunc_extern hf hname hb hn he]
 have e1 : (#[] ++ #[x, y].map (⟨tmps, ds⟩ : Act).eval ++ #[] : Array Value) = #[.string ⟨⟨l⟩⟩, .int .u8 c] := by
  simp [r1, r2]
 rw [e1, run]
 rfl
end
end Go.Vf
end
section
namespace Go.Vf
open Go.RowKit
set_option linter.unusedVariables false
set_option linter.unusedSimpArgs false
theorem HRel.grown {P : Program} {B : Nat} {w0 : World} {ρ : Ren} {s : ASt} {w w' : World} (H : HRel P B w0 ρ s w) (h : Below w.heap.size w w') : HRel P B w0 ρ s w' :=
 {below := H.below.trans (h.mono H.size), base := H.base
  books := H.books.trans fun k hk => (h.block k (Array.getElem?_eq_some_iff.1 hk).1).trans hk
  blk := fun id b e hb he => (H.blk id b e hb he).mono (.refl _) (h.block _ (H.lt _ _ he))
  own := H.own, inj := H.inj
  lt := fun id e he => Nat.lt_of_lt_of_le (H.lt id e he) h.size
  glob := H.glob }
theorem CallW.kit {P : Program} {f : FuncId} {args : List Value} {s : SS} {v : Value} (hv : plain1 v = true)
  (h : ∀ (B : Nat) (w0 : World) (ρ : Ren) (args' : List Value) (w : World), HRel P B w0 ρ s.st w → LRel ρ args args' → Calls P f ⟨args'⟩ w fun e w' => e = .returned v ∧ Below w.heap.size w w') : CallW P f args s fun u s' => u = v ∧ s' = s :=
 ⟨v, s, ⟨rfl, rfl⟩, Nat.le_refl _, rfl, fun B w0 ρ args' w H ha hf => (h B w0 ρ args' w H ha).mono fun e w' he => ⟨v, ρ, he.1, plain1_rel hv, H.grown he.2, .refl _ _ _⟩⟩
end Go.Vf
end
