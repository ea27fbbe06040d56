import Derived.Test.YtfminjggoaegdaaGreatDoorMg3
import Derived.Test.YtfminjggoaegdaaGreatDoorEngMb
import Derived.Test.YtfminjggoaegdaaGreatDoorFnKR
import Derived.Test.YtfminjggoaegdaaGreatDoorEngSc
section
namespace Go.Vf
open Go.RowKit
set_option linter.unusedVariables false
set_option linter.unusedSimpArgs false
theorem OpW.ofVal {P : Program} {T : TL} {s : SS} {K : Value → SS → Prop} (G : Good P) {op : Op} {v : Value} (h : aOp P (toTr T) s.st op = some (.val v)) (hK : K v s) : OpW P op T s K := by
 refine ⟨v, s, hK, Nat.le_refl _, rfl, fun o ho nt B w0 ρ w tmps ds H F hf => ?_⟩
 obtain ⟨v', h1, h2⟩ := aOp_post G H F ds (o := o) (by rw [ho]; exact h)
 exact ⟨.value v', v', w, ρ, h1, .inl rfl, h2, H, .refl _ _ _⟩
end Go.Vf
namespace Go.Vf.S
open Go Go.Vf Go.Proofs Go.RowKit
attribute [local irreducible] wSeq wRow wp wG
set_option linter.unusedVariables false
set_option linter.unusedSimpArgs false
set_option maxRecDepth 10000
abbrev tMp : TypeId := 23
abbrev tTs : TypeId := 35
theorem um_Mp : pr.underlying tMp = some (.map tS tTs) := by kernel_rfl
structure KvV where
 k : List UInt8
 ts : List Tg
 W : Option Addr
def KvV.v (x : KvV) : Value := .slice x.W x.ts.length 0
def kvP (x : KvV) : Value × Value := (str x.k, x.v)
abbrev kvT (x : KvV) : List UInt8 × List Tg := (x.k, x.ts)
structure MapK (s : SS) (m : Nat) (xs : List KvV) : Prop where
 lt : m < s.next
 at_ : ∃ es clock, lookH s.heap m = some (.map es clock) ∧ es.map (fun e => (e.key, e.val)) = xs.map kvP ∧ (es.map (·.born)).Pairwise (· < ·) ∧ ∀ e ∈ es, e.born < clock
 nd : (xs.map (·.k)).Nodup
theorem MapK.chg {s s' : SS} {m : Nat} {xs : List KvV} {A : List Nat} (h : MapK s m xs) (c : Chg s s' A) (hm : m ∉ A) : MapK s' m xs := by
 obtain ⟨es, clock, h1, h2⟩ := h.at_
 exact ⟨Nat.lt_of_lt_of_le h.lt c.next, ⟨es, clock, c.blk _ _ h.lt hm h1, h2⟩, h.nd⟩
def keyIs (z : List UInt8) : Value → Bool
 | .string b => decide (b.data.toList = z)
 | _ => false
theorem sIs_key (z : List UInt8) (e : MapEntry) : sIs z e = keyIs z e.key := rfl
theorem filt_kv {es : List MapEntry} {xs : List KvV} (h : es.map (fun e => (e.key, e.val)) = xs.map kvP) (z : List UInt8) : (es.filter (sIs z)).map (fun e => (e.key, e.val)) = (xs.filter fun x => decide (x.k = z)).map kvP := by
 have h1 : (es.map (fun e => (e.key, e.val))).filter (fun p => keyIs z p.1) = (es.filter (sIs z)).map (fun e => (e.key, e.val)) := by
  rw [List.filter_map]; rfl
 rw [← h1, h, List.filter_map]
 rfl
theorem sKeys_kv {es : List MapEntry} {xs : List KvV} (h : es.map (fun e => (e.key, e.val)) = xs.map kvP) : sKeys es = true := by
 unfold sKeys
 rw [List.all_eq_true]
 intro e he
 have : (e.key, e.val) ∈ xs.map kvP := by rw [← h]; exact List.mem_map_of_mem he
 obtain ⟨x, _, hx⟩ := List.mem_map.1 this
 rw [show e.key = str x.k from (Prod.mk.inj hx).1.symm]
theorem filt_one {xs : List KvV} (hd : (xs.map (·.k)).Nodup) {x : KvV} (hx : x ∈ xs) : (xs.filter fun y => decide (y.k = x.k)) = [x] := by
 induction xs with
 | nil => cases hx
 | cons y xs ih =>
  rw [List.map_cons, List.nodup_cons] at hd
  rw [List.filter_cons]
  rcases List.mem_cons.1 hx with rfl | hx
  ·rw [if_pos (by simp)]
   congr 1
   rw [List.filter_eq_nil_iff]
   intro z hz q
   rw [decide_eq_true_eq] at q
   exact hd.1 (q ▸ List.mem_map_of_mem hz)
  ·rw [if_neg (by rw [decide_eq_true_eq]; intro q; exact hd.1 (q ▸ List.mem_map_of_mem hx)), ih hd.2 hx]
theorem filt_no {xs : List KvV} {z : List UInt8} (hz : z ∉ xs.map (·.k)) : (xs.filter fun y => decide (y.k = z)) = [] := by
 rw [List.filter_eq_nil_iff]
 intro y hy q
 rw [decide_eq_true_eq] at q
 exact hz (q ▸ List.mem_map_of_mem hy)
theorem MapK.get {s : SS} {m : Nat} {xs : List KvV} (h : MapK s m xs) : ∃ es clock, s.st.heap.get m = some (.map es clock) ∧ es.map (fun e => (e.key, e.val)) = xs.map kvP := by
 obtain ⟨es, clock, h1, h2, _⟩ := h.at_
 exact ⟨es, clock, by rw [SS.get]; exact h1, h2⟩
theorem look_in {s : SS} {m : Nat} {xs : List KvV} (h : MapK s m xs) {x : KvV} (hx : x ∈ xs) : lookS pr s.st tMp (.map (some m)) x.k = some (x.v, true) := by
 obtain ⟨es, clock, h1, h2⟩ := h.get
 have h3 := filt_kv h2 x.k
 rw [filt_one h.nd hx] at h3
 unfold lookS
 rw [um_Mp]
 dsimp only
 rw [un_S, h1]
 dsimp only
 rw [sKeys_kv h2, cond_true]
 cases hf : es.filter (sIs x.k) with
 | nil => rw [hf] at h3; cases h3
 | cons e r =>
  rw [hf] at h3
  cases r with
  | nil =>
   have := (List.cons.inj h3).1
   have : e.val = x.v := (Prod.mk.inj this).2
   dsimp only
   rw [this]
  | cons e2 r => exact absurd (congrArg List.length h3) (by simp)
theorem look_no {s : SS} {m : Nat} {xs : List KvV} (h : MapK s m xs) {z : List UInt8} (hz : z ∉ xs.map (·.k)) : lookS pr s.st tMp (.map (some m)) z = some (.slice none 0 0, false) := by
 obtain ⟨es, clock, h1, h2⟩ := h.get
 have h3 := filt_kv h2 z
 rw [filt_no hz] at h3
 unfold lookS
 rw [um_Mp]
 dsimp only
 rw [un_S, h1]
 dsimp only
 rw [sKeys_kv h2, cond_true, List.map_eq_nil_iff.1 h3]
 rfl
def getV (xs : List KvV) (z : List UInt8) : Option KvV := xs.find? fun x => decide (x.k = z)
theorem getV_in {xs : List KvV} {z : List UInt8} {x : KvV} (h : getV xs z = some x) : x ∈ xs ∧ x.k = z := by
 unfold getV at h
 exact ⟨List.mem_of_find?_eq_some h, by have := List.find?_some h; rwa [decide_eq_true_eq] at this⟩
theorem getV_no {xs : List KvV} {z : List UInt8} (h : getV xs z = none) : z ∉ xs.map (·.k) := by
 unfold getV at h
 rw [List.find?_eq_none] at h
 intro q
 obtain ⟨x, hx, rfl⟩ := List.mem_map.1 q
 exact h x hx (by simp)
theorem getV_K (xs : List KvV) (z : List UInt8) : getK (xs.map kvT) z = (getV xs z).map (·.ts) := by
 unfold getK getV
 rw [List.find?_map, Option.map_map]
 rfl
def fdV (xs : List KvV) (z : List UInt8) : Value := match getV xs z with
 | some x => x.v
 | none => .slice none 0 0
def fdB (xs : List KvV) (z : List UInt8) : Bool := (getV xs z).isSome
theorem look_K {s : SS} {m : Nat} {xs : List KvV} (h : MapK s m xs) (z : List UInt8) : lookS pr s.st tMp (.map (some m)) z = some (fdV xs z, fdB xs z) := by
 unfold fdV fdB
 cases hg : getV xs z with
 | none => exact look_no h (getV_no hg)
 | some x =>
  obtain ⟨h1, rfl⟩ := getV_in hg
  exact look_in h h1
theorem aOp_look {T : TL} {s : SS} {m : Nat} {xs : List KvV} {x y : Operand} {z : List UInt8} (h : MapK s m xs) (hc : (okC x && okC y) = true) (hx : opd T s.gl x = some (.map (some m))) (hy : opd T s.gl y = some (str z)) (ok : Bool) :
  aOp pr (toTr T) s.st (.lookup tMp x y ok) = some (.val (bif ok then .tuple ⟨[fdV xs z, .bool (fdB xs z)]⟩ else fdV xs z)) := by
 rw [Bool.and_eq_true] at hc
 simp only [aOp, opd_ok hc.1 hx, opd_ok hc.2 hy]
 unfold lookA
 dsimp only
 rw [look_K h z]
 rfl
theorem gen_look {T : TL} {s : SS} {K : RR → Prop} {m : Nat} {xs : List KvV} {x y : Operand} {z : List UInt8} {ok : Bool} (h : MapK s m xs) (hc : (okC x && okC y) = true) (hx : opd T s.gl x = some (.map (some m))) (hy : opd T s.gl y = some (str z))
  (hK : K (.val (bif ok then .tuple ⟨[fdV xs z, .bool (fdB xs z)]⟩ else fdV xs z))) : wN pr (.gen (.lookup tMp x y ok)) T s K := ⟨.val _, aOp_look h hc hx hy ok, hK⟩
theorem raw_look {T : TL} {s : SS} {K : Value → SS → Prop} {m : Nat} {xs : List KvV} {x y : Operand} {z : List UInt8} {ok : Bool} (h : MapK s m xs) (hc : (okC x && okC y) = true) (hx : opd T s.gl x = some (.map (some m))) (hy : opd T s.gl y = some (str z))
  (hK : K (bif ok then .tuple ⟨[fdV xs z, .bool (fdB xs z)]⟩ else fdV xs z) s) : OpW pr (.lookup tMp x y ok) T s K := OpW.ofVal good (aOp_look h hc hx hy ok) hK
def setV (xs : List KvV) (y : KvV) : List KvV := if y.k ∈ xs.map (·.k) then xs.map (fun x => if x.k = y.k then y else x) else xs ++ [y]
theorem setV_T (xs : List KvV) (y : KvV) : (setV xs y).map kvT = setK (xs.map kvT) y.k y.ts := by
 unfold setV setK
 rw [List.map_map, show ((fun x : List UInt8 × List Tg => x.1) ∘ kvT) = (·.k) from rfl]
 split
 ·rw [List.map_map, List.map_map]
  refine List.map_congr_left fun x _ => ?_
  show kvT (if x.k = y.k then y else x) = if x.k = y.k then (y.k, y.ts) else kvT x
  split <;> rfl
 ·rw [List.map_append]; rfl
theorem setV_keys (xs : List KvV) (y : KvV) : (setV xs y).map (·.k) = if y.k ∈ xs.map (·.k) then xs.map (·.k) else xs.map (·.k) ++ [y.k] := by
 unfold setV
 split
 ·rw [List.map_map]
  refine List.map_congr_left fun x _ => ?_
  show (if x.k = y.k then y else x).k = x.k
  split
  ·rename_i h; exact h.symm
  ·rfl
 ·rw [List.map_append]; rfl
theorem upd_K {s : SS} {m : Nat} {xs : List KvV} (h : MapK s m xs) (y : KvV) : ∃ s' : SS, updS pr s.st tMp (.map (some m)) (str y.k) y.v = some s'.st ∧ MapK s' m (setV xs y) ∧ Chg s s' [m] ∧ s'.next = s.next := by
 obtain ⟨es, clock, h0, h2, hp, hb⟩ := h.at_
 have h1 : s.st.heap.get m = some (.map es clock) := by rw [SS.get]; exact h0
 have h3 := filt_kv h2 y.k
 have hu : ∀ r, updS pr s.st tMp (.map (some m)) (str y.k) y.v = r ↔ (match es.filter (sIs y.k) with
   | [] => some { s.st with heap := s.st.heap.put m (.map (es ++ [⟨str y.k, y.v, clock⟩]) (clock + 1)) }
   | [_] => some { s.st with heap := s.st.heap.put m (.map (es.map fun x => bif sIs y.k x then { x with key := str y.k, val := y.v } else x) clock) }
   | _ => none) = r := by
  intro r
  unfold updS
  rw [um_Mp]
  dsimp only
  rw [un_S, h1]
  dsimp only
  rw [sKeys_kv h2, cond_true]
  exact Iff.rfl
 have nd : ((setV xs y).map (·.k)).Nodup := by
  rw [setV_keys]
  split
  ·exact h.nd
  ·rename_i hn
   rw [List.nodup_append]
   exact ⟨h.nd, by simp, fun a ha b hb q => hn (by rw [List.mem_singleton.1 hb] at q; rwa [← q])⟩
 by_cases hin : y.k ∈ xs.map (·.k)
 ·obtain ⟨x, hx, hxk⟩ := List.mem_map.1 hin
  rw [← hxk, filt_one h.nd hx, hxk] at h3
  obtain ⟨e, he⟩ : ∃ e, es.filter (sIs y.k) = [e] := by
   cases hf : es.filter (sIs y.k) with
   | nil => rw [hf] at h3; cases h3
   | cons e r =>
    cases r with
    | nil => exact ⟨e, rfl⟩
    | cons e2 r => rw [hf] at h3; exact absurd (congrArg List.length h3) (by simp)
  refine ⟨{ s with heap := (m, some (.map (es.map fun x => bif sIs y.k x then { x with key := str y.k, val := y.v } else x) clock)) :: s.heap }, (hu _).2 (by rw [he]; rfl), ⟨h.lt, ⟨_, _, lkH, ?_, ?_, ?_⟩, nd⟩, Chg.turn h.lt, rfl⟩
  ·unfold setV
   rw [if_pos hin, List.map_map]
   have h4 : ∀ (es : List MapEntry) (xs : List KvV), es.map (fun e => (e.key, e.val)) = xs.map kvP → es.map ((fun e : MapEntry => (e.key, e.val)) ∘ fun x => bif sIs y.k x then { x with key := str y.k, val := y.v } else x) = (xs.map fun x => if x.k = y.k then y else x).map kvP := by
    intro es
    induction es with
    | nil => intro xs q; cases xs with
     | nil => rfl
     | cons x xs => cases q
    | cons e es ih =>
     intro xs q
     cases xs with
     | nil => cases q
     | cons x xs =>
      rw [List.map_cons, List.map_cons] at q
      obtain ⟨q1, q2⟩ := List.cons.inj q
      obtain ⟨q3, q4⟩ := Prod.mk.inj q1
      rw [List.map_cons, List.map_cons, List.map_cons, ih xs q2]
      congr 1
      show ((bif sIs y.k e then { e with key := str y.k, val := y.v } else e : MapEntry).key, (bif sIs y.k e then { e with key := str y.k, val := y.v } else e : MapEntry).val) = kvP (if x.k = y.k then y else x)
      rw [sIs_key, show e.key = str x.k from q3, show keyIs y.k (str x.k) = decide (x.k = y.k) from rfl]
      by_cases hq : x.k = y.k
      ·rw [decide_eq_true hq, if_pos hq]
       rfl
      ·rw [decide_eq_false hq, if_neg hq, cond_false, show e.val = x.v from q4, show e.key = str x.k from q3]
       rfl
   exact h4 es xs h2
  ·rw [List.map_map]
   have : (es.map ((fun e : MapEntry => e.born) ∘ fun x => bif sIs y.k x then { x with key := str y.k, val := y.v } else x)) = es.map (·.born) := List.map_congr_left fun x _ => by
    show (bif sIs y.k x then { x with key := str y.k, val := y.v } else x : MapEntry).born = x.born
    cases sIs y.k x <;> rfl
   rw [this]
   exact hp
  ·intro e he
   obtain ⟨x, hx, rfl⟩ := List.mem_map.1 he
   have := hb x hx
   cases sIs y.k x <;> exact this
 ·rw [filt_no hin] at h3
  refine ⟨{ s with heap := (m, some (.map (es ++ [⟨str y.k, y.v, clock⟩]) (clock + 1))) :: s.heap }, (hu _).2 (by rw [List.map_eq_nil_iff.1 h3]; rfl), ⟨h.lt, ⟨_, _, lkH, ?_, ?_, ?_⟩, nd⟩, Chg.turn h.lt, rfl⟩
  ·unfold setV
   rw [if_neg hin, List.map_append, h2, List.map_append]
   rfl
  ·rw [List.map_append, List.pairwise_append]
   refine ⟨hp, by simp, fun a ha b hb2 => ?_⟩
   obtain ⟨e, he, rfl⟩ := List.mem_map.1 ha
   rw [List.mem_singleton.1 hb2]
   exact hb e he
  ·intro e he
   rcases List.mem_append.1 he with he | he
   ·exact Nat.lt_succ_of_lt (hb e he)
   ·rw [List.mem_singleton.1 he]
    exact Nat.lt_succ_self _
theorem aOp_upd {T : TL} {s : SS} {m : Nat} {xs : List KvV} {a b c : Operand} {y : KvV} (h : MapK s m xs) (hc : (okC a && okC b && okC c) = true) (ha : opd T s.gl a = some (.map (some m))) (hb : opd T s.gl b = some (str y.k)) (hv : opd T s.gl c = some y.v) :
  ∃ s' : SS, aOp pr (toTr T) s.st (.mapUpdate tMp a b c) = some (.eff (.tuple #[]) s'.st) ∧ MapK s' m (setV xs y) ∧ Chg s s' [m] ∧ s'.next = s.next := by
 obtain ⟨s', h1, h2⟩ := upd_K h y
 simp only [Bool.and_eq_true] at hc
 refine ⟨s', ?_, h2⟩
 simp only [aOp, opd_ok hc.1.1 ha, opd_ok hc.1.2 hb, opd_ok hc.2 hv, h1]
theorem gen_upd {T : TL} {s : SS} {K : RR → Prop} {m : Nat} {xs : List KvV} {a b c : Operand} (y : KvV) (h : MapK s m xs) (hc : (okC a && okC b && okC c) = true) (ha : opd T s.gl a = some (.map (some m))) (hb : opd T s.gl b = some (str y.k)) (hv : opd T s.gl c = some y.v)
  (hK : ∀ s' : SS, MapK s' m (setV xs y) → Chg s s' [m] → s'.next = s.next → K (.eff (.tuple #[]) s')) : wN pr (.gen (.mapUpdate tMp a b c)) T s K := by
 obtain ⟨s', h1, h2, h3, h4⟩ := aOp_upd h hc ha hb hv
 exact ⟨.eff (.tuple #[]) s', h1, hK s' h2 h3 h4⟩
end Go.Vf.S
end
section
namespace Go.Vf.S
open Go Go.Vf Go.Proofs Go.RowKit
attribute [local irreducible] wSeq wRow wp wG
set_option linter.unusedVariables false
set_option linter.unusedSimpArgs false
set_option maxRecDepth 10000
abbrev tRd13 : TypeId := 158
def RdL (s : SS) (b : Nat) (r : List UInt8) (en w : Bool) : Prop := b < s.next ∧ lookH s.heap b = some (.cells [str r, .bool en, .bool w] tRd13 false false)
theorem RdL.chg {s s' : SS} {b : Nat} {r : List UInt8} {en w : Bool} {A : List Nat} (h : RdL s b r en w) (c : Chg s s' A) (hA : b ∉ A) : RdL s' b r en w := ⟨Nat.lt_of_lt_of_le h.1 c.next, c.blk _ _ h.1 hA h.2⟩
theorem bytesV_at {l : List UInt8} {j : Nat} {x : UInt8} (h : l[j]? = some x) : (bytesV l)[j]? = some (.int .u8 x.toNat) := by
 unfold bytesV
 rw [List.getElem?_map, h]
 rfl
structure QIx where
 i : Nat
 e : Bool
 a : List UInt8
 base : Option Addr
 s : SS
theorem drop_at {l : List UInt8} {i : Nat} {c : UInt8} (h : l[i]? = some c) : l.drop i = c :: l.drop (i + 1) := by
 obtain ⟨hi, e⟩ := List.getElem?_eq_some_iff.1 h
 rw [List.drop_eq_getElem_cons hi, e]
set_option maxHeartbeats 2000000 in
theorem quoted13_w {s : SS} {b : Nat} {r : List UInt8} {en w : Bool} (f : Fine s) (h : RdL s b (34 :: r) en w) (hr : r.length ≤ 100000) : CallW pr n_lines_reader_quoted [ptrV b] s fun v s' => Chg s s' [b] ∧ match quF r with
  | none => v = str [] ∧ RdL s' b (34 :: r) en true
  | some (x, t) => v = str x ∧ RdL s' b t en w := by
 refine CallW.run good ok_lines_reader_quoted (by simp) rfl ?_
 (try refine pSeq ?_); (repeat(first|refine sb ?_|refine gOn rfl ?_|refine gOff rfl rfl ?_|refine gTup rfl ?_))
 refine ldS_is rfl h.2 rfl ?_
 (repeat(first|refine sb ?_|refine gOn rfl ?_|refine gOff rfl rfl ?_|refine gTup rfl ?_))
 refine slS_lo 1 rfl rfl rfl (by simp) ?_
 rw [show (34 :: r).drop 1 = r from rfl]
 (repeat(first|refine sb ?_|refine gOn rfl ?_|refine gOff rfl rfl ?_|refine gTup rfl ?_))
 refine ⟨by omega, ?_⟩
 (repeat(first|refine sb ?_|refine gOn rfl ?_|refine gOff rfl rfl ?_|refine gTup rfl ?_))
 refine pLoop (MW.head good (fun x : QIx => r.length - x.i) (fun x => x.i ≤ r.length ∧ x.a.length ≤ x.i ∧ quF r = (quG x.e (r.drop x.i)).map (fun y => (x.a ++ y.1, y.2)) ∧ lookH x.s.heap s.next = some (.cells (bytesV r) tB true false) ∧ s.next < x.s.next ∧ Chg s x.s [] ∧ Own tB x.s x.base x.a ∧ ∀ id ∈ blkOf x.base, s.next < id)
  (fun x => [(0, ptrV b), (3, .slice x.base x.a.length 0), (4, .bool x.e), (12, .slice (some ⟨s.next, 0, none⟩) r.length 0), (13, .int .i64 (r.length : Int)), (14, .int .i64 (x.i : Int))]) (fun x => x.s) ⟨0, false, [], none, _⟩
  ⟨Nat.zero_le _, Nat.zero_le _, by show quG false r = _; rw [List.drop_zero]; cases quG false r <;> rfl, lkH, Nat.lt_succ_self _, .new _, rfl, by simp [blkOf]⟩ (Wk.same ⟨rfl, rfl, rfl, rfl, rfl, rfl, trivial⟩) ?_)
 rintro ⟨i, e, a, base, s4⟩ ⟨hi, hai, hq4, hb4, hlt4, c4, ho, hn4⟩
 dsimp only at hi hai hq4 hb4 hlt4 c4 ho hn4 ⊢
 have h4 := h.chg c4 (by simp)
 (repeat(first|refine sb ?_|refine gOn rfl ?_|refine gOff rfl rfl ?_|refine gTup rfl ?_))
 intro q hq
 by_cases hlt : i < r.length
 ·obtain rfl : q = true := by rw [hq]; simp; omega
  obtain ⟨c, hc⟩ : ∃ c, r[i]? = some c := ⟨_, List.getElem?_eq_getElem hlt⟩
  rw [drop_at hc] at hq4
  (repeat(first|refine sb ?_|refine gOn rfl ?_|refine gOff rfl rfl ?_|refine gTup rfl ?_))
  refine ⟨by omega, ?_⟩
  intro m hm o ho1
  obtain rfl : m = i := by omega
  (repeat(first|refine sb ?_|refine gOn rfl ?_|refine gOff rfl rfl ?_|refine gTup rfl ?_))
  refine ldI_is rfl hb4 (by rw [ho1, Nat.mul_one, Nat.zero_add]; exact bytesV_at hc) ?_
  (repeat(first|refine sb ?_|refine gOn rfl ?_|refine gOff rfl rfl ?_|refine gTup rfl ?_))
  cases e with
  | true =>
   intro q hq
   obtain rfl : q = false := by rw [hq]; rfl
   (repeat(first|refine sb ?_|refine gOn rfl ?_|refine gOff rfl rfl ?_|refine gTup rfl ?_))
   intro q hq
   obtain rfl : q = false := by rw [hq]; rfl
   have hst : quG true (c :: r.drop (m + 1)) = (quG false (r.drop (m + 1))).map fun x => (c :: x.1, x.2) := by rw [quG]
   (repeat(first|refine sb ?_|refine gOn rfl ?_|refine gOff rfl rfl ?_|refine gTup rfl ?_))
   refine app_mine1 (c := c) ho rfl rfl rfl rfl (by omega) fun s5 o5 c5 n5 => ?_
   (repeat(first|refine sb ?_|refine gOn rfl ?_|refine gOff rfl rfl ?_|refine gTup rfl ?_))
   intro z hz
   rw [i64_id (by omega)] at hz
   (repeat(first|refine sb ?_|refine gOn rfl ?_|refine gOff rfl rfl ?_|refine gTup rfl ?_))
   refine ⟨⟨m + 1, false, a ++ [c], some ⟨s4.next + 1, 0, none⟩, s5⟩, ⟨by show m + 1 ≤ r.length; omega, by show (a ++ [c]).length ≤ m + 1; simp; omega, ?_, c5.blk _ _ hlt4 (fun q => by have := hn4 _ q; omega) hb4, by show s.next < s5.next; omega, c4.fresh c5 (fun id q => by have := hn4 id q; omega), o5, by simp [blkOf]; omega⟩, by show r.length - (m + 1) < r.length - m; omega, Wk.same ⟨rfl, ?_, rfl, rfl, rfl, ?_, trivial⟩⟩
   ·show quF r = _
    rw [hq4, hst]
    cases quG false (r.drop (m + 1)) with
    | none => rfl
    | some y => simp
   ·show some (Value.slice (some ⟨s4.next + 1, 0, none⟩) (a.length + 1) 0) = some (.slice _ (a ++ [c]).length 0)
    rw [List.length_append]
    rfl
   ·rw [show z = ((m + 1 : Nat) : Int) by omega]; rfl
  | false =>
   intro q hq
   obtain rfl : q = true := by rw [hq]; rfl
   (repeat(first|refine sb ?_|refine gOn rfl ?_|refine gOff rfl rfl ?_|refine gTup rfl ?_))
   refine ⟨⟨Int.le_refl _, by decide⟩, ?_⟩
   intro m2 hm2
   obtain rfl : m2 = 0 := by omega
   refine ⟨34, rfl, ?_⟩
   (repeat(first|refine sb ?_|refine gOn rfl ?_|refine gOff rfl rfl ?_|refine gTup rfl ?_))
   intro q hq
   by_cases h34 : c = 34
   ·subst h34
    obtain rfl : q = true := by rw [hq]; rfl
    rw [quG, if_pos rfl] at hq4
    (repeat(first|refine sb ?_|refine gOn rfl ?_|refine gOff rfl rfl ?_|refine gTup rfl ?_))
    refine ldS_is rfl h4.2 rfl ?_
    (repeat(first|refine sb ?_|refine gOn rfl ?_|refine gOff rfl rfl ?_|refine gTup rfl ?_))
    intro z hz
    rw [i64_id (by omega)] at hz
    (repeat(first|refine sb ?_|refine gOn rfl ?_|refine gOff rfl rfl ?_|refine gTup rfl ?_))
    intro z2 hz2
    rw [i64_id (by omega)] at hz2
    (repeat(first|refine sb ?_|refine gOn rfl ?_|refine gOff rfl rfl ?_|refine gTup rfl ?_))
    refine slS_lo (m + 2) rfl rfl (by omega) (by simp; omega) ?_
    rw [show (34 :: r).drop (m + 2) = r.drop (m + 1) from rfl]
    (repeat(first|refine sb ?_|refine gOn rfl ?_|refine gOff rfl rfl ?_|refine gTup rfl ?_))
    refine st_abs (cs' := [str (r.drop (m + 1)), .bool en, .bool w]) rfl rfl h4.2 h4.1 rfl rfl fun s5 e5 c5 n5 => ?_
    (repeat(first|refine sb ?_|refine gOn rfl ?_|refine gOff rfl rfl ?_|refine gTup rfl ?_))
    have hbn : ∀ id ∈ blkOf base, id ∉ [b] := fun id q => by have := hn4 id q; have := h.1; simp; omega
    refine toStr_Rdb rfl ((ho.chg c5 hbn).rdb) ?_
    (repeat(first|refine sb ?_|refine gOn rfl ?_|refine gOff rfl rfl ?_|refine gTup rfl ?_))
    refine ⟨c4.nil c5, ?_⟩
    rw [hq4]
    refine ⟨?_, by have := h4.1; omega, e5⟩
    simp
    rfl
   ·obtain rfl : q = false := by rw [hq]; exact decide_eq_false (fun q => h34 (UInt8.toNat_inj.1 (by have : (34 : UInt8).toNat = 34 := rfl; omega)))
    (repeat(first|refine sb ?_|refine gOn rfl ?_|refine gOff rfl rfl ?_|refine gTup rfl ?_))
    intro q hq
    obtain rfl : q = true := by rw [hq]; rfl
    (repeat(first|refine sb ?_|refine gOn rfl ?_|refine gOff rfl rfl ?_|refine gTup rfl ?_))
    refine ⟨⟨Int.le_refl _, by decide⟩, ?_⟩
    intro m2 hm2
    obtain rfl : m2 = 0 := by omega
    refine ⟨92, rfl, ?_⟩
    (repeat(first|refine sb ?_|refine gOn rfl ?_|refine gOff rfl rfl ?_|refine gTup rfl ?_))
    intro q hq
    by_cases h92 : c = 92
    ·subst h92
     obtain rfl : q = true := by rw [hq]; rfl
     rw [quG, if_neg (by decide), if_pos rfl] at hq4
     (repeat(first|refine sb ?_|refine gOn rfl ?_|refine gOff rfl rfl ?_|refine gTup rfl ?_))
     intro z hz
     rw [i64_id (by omega)] at hz
     (repeat(first|refine sb ?_|refine gOn rfl ?_|refine gOff rfl rfl ?_|refine gTup rfl ?_))
     refine ⟨⟨m + 1, true, a, base, s4⟩, ⟨by show m + 1 ≤ r.length; omega, by show a.length ≤ m + 1; omega, hq4, hb4, hlt4, c4, ho, hn4⟩, by show r.length - (m + 1) < r.length - m; omega, Wk.same ⟨rfl, rfl, rfl, rfl, rfl, ?_, trivial⟩⟩
     rw [show z = ((m + 1 : Nat) : Int) by omega]; rfl
    ·obtain rfl : q = false := by rw [hq]; exact decide_eq_false (fun q => h92 (UInt8.toNat_inj.1 (by have : (92 : UInt8).toNat = 92 := rfl; omega)))
     have hst : quG false (c :: r.drop (m + 1)) = (quG false (r.drop (m + 1))).map fun x => (c :: x.1, x.2) := by rw [quG, if_neg h34, if_neg h92]
     (repeat(first|refine sb ?_|refine gOn rfl ?_|refine gOff rfl rfl ?_|refine gTup rfl ?_))
     refine app_mine1 (c := c) ho rfl rfl rfl rfl (by omega) fun s5 o5 c5 n5 => ?_
     (repeat(first|refine sb ?_|refine gOn rfl ?_|refine gOff rfl rfl ?_|refine gTup rfl ?_))
     intro z hz
     rw [i64_id (by omega)] at hz
     (repeat(first|refine sb ?_|refine gOn rfl ?_|refine gOff rfl rfl ?_|refine gTup rfl ?_))
     refine ⟨⟨m + 1, false, a ++ [c], some ⟨s4.next + 1, 0, none⟩, s5⟩, ⟨by show m + 1 ≤ r.length; omega, by show (a ++ [c]).length ≤ m + 1; simp; omega, ?_, c5.blk _ _ hlt4 (fun q => by have := hn4 _ q; omega) hb4, by show s.next < s5.next; omega, c4.fresh c5 (fun id q => by have := hn4 id q; omega), o5, by simp [blkOf]; omega⟩, by show r.length - (m + 1) < r.length - m; omega, Wk.same ⟨rfl, ?_, rfl, rfl, rfl, ?_, trivial⟩⟩
     ·show quF r = _
      rw [hq4, hst]
      cases quG false (r.drop (m + 1)) with
      | none => rfl
      | some y => simp
     ·show some (Value.slice (some ⟨s4.next + 1, 0, none⟩) (a.length + 1) 0) = some (.slice _ (a ++ [c]).length 0)
      rw [List.length_append]
      rfl
     ·rw [show z = ((m + 1 : Nat) : Int) by omega]; rfl
 ·obtain rfl : q = false := by rw [hq]; simp; omega
  obtain rfl : i = r.length := by omega
  rw [List.drop_length, quG] at hq4
  (repeat(first|refine sb ?_|refine gOn rfl ?_|refine gOff rfl rfl ?_|refine gTup rfl ?_))
  refine st_abs (cs' := [str (34 :: r), .bool en, .bool true]) rfl rfl h4.2 h4.1 rfl rfl fun s5 e5 c5 n5 => ?_
  (repeat(first|refine sb ?_|refine gOn rfl ?_|refine gOff rfl rfl ?_|refine gTup rfl ?_))
  refine ⟨(c4.nil c5), ?_⟩
  rw [hq4]
  exact ⟨rfl, by have := h4.1; omega, e5⟩
end Go.Vf.S
end
section
namespace Go.Vf.S
open Go Go.Vf Go.Proofs Go.RowKit
attribute [local irreducible] wSeq wRow wp wG
set_option linter.unusedVariables false
set_option linter.unusedSimpArgs false
set_option maxRecDepth 10000
theorem dropW_trL (l : List UInt8) : l.dropWhile wh = trL l := by unfold trL; rw [ws_wh]
set_option maxHeartbeats 2000000 in
theorem part13_w {s : SS} {b : Nat} {r : List UInt8} {en w : Bool} {e : UInt8} (f : Fine s) (he : e ≠ 34) (h : RdL s b r en w) (hr : r.length ≤ 100000) : CallW pr n_lines_reader_part [ptrV b, str [e]] s fun v s' =>
  v = str (lpF e r).1 ∧ RdL s' b (lpF e r).2.1 (lpF e r).2.2.1 (w || (lpF e r).2.2.2) ∧ Chg s s' [b] := by
 refine CallW.run good ok_lines_reader_part (by simp) rfl ?_
 have htl := trL_len r
 (try refine pSeq ?_); (repeat(first|refine sb ?_|refine gOn rfl ?_|refine gOff rfl rfl ?_|refine gTup rfl ?_))
 refine ldS_is rfl h.2 rfl ?_
 (repeat(first|refine sb ?_|refine gOn rfl ?_|refine gOff rfl rfl ?_|refine gTup rfl ?_))
 refine (trimLeft_w (by omega)).mono fun v s1 q => ?_
 obtain ⟨rfl, c1⟩ := q
 rw [dropW_trL]
 have h1 := h.chg c1 (by simp)
 (repeat(first|refine sb ?_|refine gOn rfl ?_|refine gOff rfl rfl ?_|refine gTup rfl ?_))
 refine st_abs (cs' := [str (trL r), .bool en, .bool w]) rfl rfl h1.2 h1.1 rfl rfl fun s2 e2 c2 n2 => ?_
 have h2 : RdL s2 b (trL r) en w := ⟨by have := h1.1; omega, e2⟩
 have c02 : Chg s s2 [b] := c1.nil c2
 (repeat(first|refine sb ?_|refine gOn rfl ?_|refine gOff rfl rfl ?_|refine gTup rfl ?_))
 refine ldS_is rfl h2.2 rfl ?_
 (repeat(first|refine sb ?_|refine gOn rfl ?_|refine gOff rfl rfl ?_|refine gTup rfl ?_))
 refine prefix_w.mono fun v s2 q => ?_
 obtain ⟨rfl, rfl⟩ := q
 obtain ⟨s0, hs0⟩ : ∃ x, x = s := ⟨s, rfl⟩
 rw [← hs0] at c02 ⊢
 by_cases h34 : (trL r).head? = some 34
 ·obtain ⟨x, hx⟩ : ∃ x, trL r = 34 :: x := by
   cases hT : trL r with
   | nil => rw [hT] at h34; cases h34
   | cons c x => rw [hT] at h34; exact ⟨x, by rw [Option.some.inj h34]⟩
  have hlp : lpF e r = (match quF x with
   | none => ([], (cutF e (34 :: x)).2.1, !(cutF e (34 :: x)).2.2, true)
   | some (w, t) => if trR (cutF e t).1 = [] then (w, (cutF e t).2.1, !(cutF e t).2.2, false) else ([], (cutF e t).2.1, !(cutF e t).2.2, true)) := by
   unfold lpF
   rw [if_pos h34, hx]
   rfl
  rw [hx] at h2 htl ⊢
  rw [show decide ((34 :: x).take [(34 : UInt8)].length = [34]) = true from decide_eq_true rfl]
  have hxl : x.length ≤ 100000 := by simp at htl; omega
  (repeat(first|refine sb ?_|refine gOn rfl ?_|refine gOff rfl rfl ?_|refine gTup rfl ?_))
  refine (quoted13_w (c02.fine (hs0 ▸ f)) h2 hxl).mono fun v s3 q => ?_
  obtain ⟨c3, q⟩ := q
  have cX : Chg s0 s3 [b] := (c02.trans c3).sub (by simp)
  cases hQ : quF x with
  | none =>
   rw [hQ] at q hlp
   dsimp only at q hlp
   obtain ⟨rfl, hX⟩ := q
   obtain ⟨W, hW⟩ : ∃ y, y = true := ⟨true, rfl⟩
   rw [← hW] at hX
   obtain ⟨R, hR⟩ : ∃ y, y = 34 :: x := ⟨_, rfl⟩
   rw [← hR] at hX hlp
   have hRl : R.length ≤ 1000000 := by rw [hR]; simp; omega
   have hy : trR (cutF e R).1 = [] → lpF e r = ([], (cutF e R).2.1, !(cutF e R).2.2, true) := fun _ => hlp
   have hn : trR (cutF e R).1 ≠ [] → lpF e r = ([], (cutF e R).2.1, !(cutF e R).2.2, true) := fun _ => hlp
   have hwt : (w || true) = W := by rw [hW, Bool.or_true]
   (repeat(first|refine sb ?_|refine gOn rfl ?_|refine gOff rfl rfl ?_|refine gTup rfl ?_))
   refine ldS_is rfl hX.2 rfl ?_
   (repeat(first|refine sb ?_|refine gOn rfl ?_|refine gOff rfl rfl ?_|refine gTup rfl ?_))
   refine (cut1_w (c := e) hRl).mono fun v s q => ?_
   obtain ⟨rfl, rfl⟩ := q
   have hcl := cutF_len e R
   generalize hC : cutF e R = C at *
   obtain ⟨a, d, more⟩ := C
   dsimp only at hcl ⊢
   (repeat(first|refine sb ?_|refine gOn rfl ?_|refine gOff rfl rfl ?_|refine gTup rfl ?_))
   refine (TrimRight_w (by omega)).mono fun v s4 q => ?_
   obtain ⟨rfl, c4⟩ := q
   rw [dropR_trR]
   have h4 := hX.chg c4 (by simp)
   (repeat(first|refine sb ?_|refine gOn rfl ?_|refine gOff rfl rfl ?_|refine gTup rfl ?_))
   intro q hq
   subst hq
   (repeat(first|refine sb ?_|refine gOn rfl ?_|refine gOff rfl rfl ?_|refine gTup rfl ?_))
   refine st_abs (cs' := [str d, .bool en, .bool W]) rfl rfl h4.2 h4.1 rfl rfl fun s5 e5 c5 n5 => ?_
   (repeat(first|refine sb ?_|refine gOn rfl ?_|refine gOff rfl rfl ?_|refine gTup rfl ?_))
   refine st_abs (cs' := [str d, .bool (!more), .bool W]) rfl rfl e5 (by have := h4.1; omega) rfl rfl fun s6 e6 c6 n6 => ?_
   have l6 : b < s6.next := by have := h4.1; omega
   have c06 : Chg s0 s6 [b] := (((cX.trans c4).trans c5).trans c6).sub (by simp)
   (repeat(first|refine sb ?_|refine gOn rfl ?_|refine gOff rfl rfl ?_|refine gTup rfl ?_))
   intro q hq
   by_cases h1 : trR a = []
   ·obtain rfl : q = true := by rw [hq, h1]; rfl
    (repeat(first|refine sb ?_|refine gOn rfl ?_|refine gOff rfl rfl ?_|refine gTup rfl ?_))
    have hp := hy h1
    rw [hp]
    dsimp only
    rw [hwt]
    exact ⟨rfl, ⟨l6, e6⟩, c06⟩
   ·obtain rfl : q = false := by rw [hq]; simp [h1]
    (repeat(first|refine sb ?_|refine gOn rfl ?_|refine gOff rfl rfl ?_|refine gTup rfl ?_))
    refine st_abs (cs' := [str d, .bool (!more), .bool true]) rfl rfl e6 l6 rfl rfl fun s7 e7 c7 n7 => ?_
    (repeat(first|refine sb ?_|refine gOn rfl ?_|refine gOff rfl rfl ?_|refine gTup rfl ?_))
    have hp := hn h1
    rw [hp, Bool.or_true]
    exact ⟨rfl, ⟨by omega, e7⟩, (c06.trans c7).sub (by simp)⟩
  | some y =>
   obtain ⟨u, R⟩ := y
   rw [hQ] at q hlp
   dsimp only at q hlp
   obtain ⟨rfl, hX⟩ := q
   have hRl : R.length ≤ 1000000 := by
    have := qg_len _ _ _ _ hQ
    omega
   obtain ⟨W, hW⟩ : ∃ y, y = w := ⟨w, rfl⟩
   rw [← hW] at hX
   have hy : trR (cutF e R).1 = [] → lpF e r = (u, (cutF e R).2.1, !(cutF e R).2.2, false) := fun q => by rw [hlp, if_pos q]
   have hn : trR (cutF e R).1 ≠ [] → lpF e r = ([], (cutF e R).2.1, !(cutF e R).2.2, true) := fun q => by rw [hlp, if_neg q]
   (repeat(first|refine sb ?_|refine gOn rfl ?_|refine gOff rfl rfl ?_|refine gTup rfl ?_))
   refine ldS_is rfl hX.2 rfl ?_
   (repeat(first|refine sb ?_|refine gOn rfl ?_|refine gOff rfl rfl ?_|refine gTup rfl ?_))
   refine (cut1_w (c := e) hRl).mono fun v s q => ?_
   obtain ⟨rfl, rfl⟩ := q
   have hcl := cutF_len e R
   generalize hC : cutF e R = C at *
   obtain ⟨a, d, more⟩ := C
   dsimp only at hcl ⊢
   (repeat(first|refine sb ?_|refine gOn rfl ?_|refine gOff rfl rfl ?_|refine gTup rfl ?_))
   refine (TrimRight_w (by omega)).mono fun v s4 q => ?_
   obtain ⟨rfl, c4⟩ := q
   rw [dropR_trR]
   have h4 := hX.chg c4 (by simp)
   (repeat(first|refine sb ?_|refine gOn rfl ?_|refine gOff rfl rfl ?_|refine gTup rfl ?_))
   intro q hq
   subst hq
   (repeat(first|refine sb ?_|refine gOn rfl ?_|refine gOff rfl rfl ?_|refine gTup rfl ?_))
   refine st_abs (cs' := [str d, .bool en, .bool W]) rfl rfl h4.2 h4.1 rfl rfl fun s5 e5 c5 n5 => ?_
   (repeat(first|refine sb ?_|refine gOn rfl ?_|refine gOff rfl rfl ?_|refine gTup rfl ?_))
   refine st_abs (cs' := [str d, .bool (!more), .bool W]) rfl rfl e5 (by have := h4.1; omega) rfl rfl fun s6 e6 c6 n6 => ?_
   have l6 : b < s6.next := by have := h4.1; omega
   have c06 : Chg s0 s6 [b] := (((cX.trans c4).trans c5).trans c6).sub (by simp)
   (repeat(first|refine sb ?_|refine gOn rfl ?_|refine gOff rfl rfl ?_|refine gTup rfl ?_))
   intro q hq
   by_cases h1 : trR a = []
   ·obtain rfl : q = true := by rw [hq, h1]; rfl
    (repeat(first|refine sb ?_|refine gOn rfl ?_|refine gOff rfl rfl ?_|refine gTup rfl ?_))
    have hp := hy h1
    rw [hp, Bool.or_false, ← hW]
    exact ⟨rfl, ⟨l6, e6⟩, c06⟩
   ·obtain rfl : q = false := by rw [hq]; simp [h1]
    (repeat(first|refine sb ?_|refine gOn rfl ?_|refine gOff rfl rfl ?_|refine gTup rfl ?_))
    refine st_abs (cs' := [str d, .bool (!more), .bool true]) rfl rfl e6 l6 rfl rfl fun s7 e7 c7 n7 => ?_
    (repeat(first|refine sb ?_|refine gOn rfl ?_|refine gOff rfl rfl ?_|refine gTup rfl ?_))
    have hp := hn h1
    rw [hp, Bool.or_true]
    exact ⟨rfl, ⟨by omega, e7⟩, (c06.trans c7).sub (by simp)⟩
 ·obtain ⟨R, hR⟩ : ∃ y, y = trL r := ⟨_, rfl⟩
  obtain ⟨W, hW⟩ : ∃ y, y = w := ⟨w, rfl⟩
  have hlp : lpF e r = (if trR (cutF e R).1 = [] ∨ (34 : UInt8) ∈ trR (cutF e R).1 then ([], (cutF e R).2.1, !(cutF e R).2.2, true) else (trR (cutF e R).1, (cutF e R).2.1, !(cutF e R).2.2, false)) := by
   unfold lpF
   rw [if_neg h34, hR]
  rw [show decide ((trL r).take [(34 : UInt8)].length = [34]) = false from decide_eq_false (fun q => h34 (by cases hT : trL r with | nil => rw [hT] at q; cases q | cons c x => rw [hT] at q; simpa using q))]
  rw [← hR] at h2 htl
  rw [← hW] at h2 ⊢
  have hX := h2
  have cX := c02
  have hRl : R.length ≤ 1000000 := by omega
  (repeat(first|refine sb ?_|refine gOn rfl ?_|refine gOff rfl rfl ?_|refine gTup rfl ?_))
  refine ldS_is rfl hX.2 rfl ?_
  (repeat(first|refine sb ?_|refine gOn rfl ?_|refine gOff rfl rfl ?_|refine gTup rfl ?_))
  refine (cut1_w (c := e) hRl).mono fun v s q => ?_
  obtain ⟨rfl, rfl⟩ := q
  have hcl := cutF_len e R
  generalize hC : cutF e R = C at *
  obtain ⟨a, d, more⟩ := C
  dsimp only at hcl ⊢
  (repeat(first|refine sb ?_|refine gOn rfl ?_|refine gOff rfl rfl ?_|refine gTup rfl ?_))
  refine (TrimRight_w (by omega)).mono fun v s4 q => ?_
  obtain ⟨rfl, c4⟩ := q
  rw [dropR_trR]
  have h4 := hX.chg c4 (by simp)
  (repeat(first|refine sb ?_|refine gOn rfl ?_|refine gOff rfl rfl ?_|refine gTup rfl ?_))
  intro q hq
  subst hq
  (repeat(first|refine sb ?_|refine gOn rfl ?_|refine gOff rfl rfl ?_|refine gTup rfl ?_))
  refine st_abs (cs' := [str d, .bool en, .bool W]) rfl rfl h4.2 h4.1 rfl rfl fun s5 e5 c5 n5 => ?_
  (repeat(first|refine sb ?_|refine gOn rfl ?_|refine gOff rfl rfl ?_|refine gTup rfl ?_))
  refine st_abs (cs' := [str d, .bool (!more), .bool W]) rfl rfl e5 (by have := h4.1; omega) rfl rfl fun s6 e6 c6 n6 => ?_
  have l6 : b < s6.next := by have := h4.1; omega
  have c06 : Chg s0 s6 [b] := (((cX.trans c4).trans c5).trans c6).sub (by simp)
  (repeat(first|refine sb ?_|refine gOn rfl ?_|refine gOff rfl rfl ?_|refine gTup rfl ?_))
  intro q hq
  by_cases h1 : trR a = []
  ·obtain rfl : q = true := by rw [hq, h1]; rfl
   (repeat(first|refine sb ?_|refine gOn rfl ?_|refine gOff rfl rfl ?_|refine gTup rfl ?_))
   refine st_abs (cs' := [str d, .bool (!more), .bool true]) rfl rfl e6 l6 rfl rfl fun s7 e7 c7 n7 => ?_
   (repeat(first|refine sb ?_|refine gOn rfl ?_|refine gOff rfl rfl ?_|refine gTup rfl ?_))
   have hp : lpF e r = ([], d, !more, true) := by rw [hlp, if_pos (.inl h1)]
   rw [hp, Bool.or_true]
   exact ⟨rfl, ⟨by omega, e7⟩, (c06.trans c7).sub (by simp)⟩
  ·obtain rfl : q = false := by rw [hq]; simp [h1]
   (repeat(first|refine sb ?_|refine gOn rfl ?_|refine gOff rfl rfl ?_|refine gTup rfl ?_))
   refine contains1_w.mono fun v s q => ?_
   obtain ⟨rfl, rfl⟩ := q
   by_cases h2 : (34 : UInt8) ∈ trR a
   ·rw [show decide ((34 : UInt8) ∈ trR a) = true from decide_eq_true h2]
    (repeat(first|refine sb ?_|refine gOn rfl ?_|refine gOff rfl rfl ?_|refine gTup rfl ?_))
    refine st_abs (cs' := [str d, .bool (!more), .bool true]) rfl rfl e6 l6 rfl rfl fun s7 e7 c7 n7 => ?_
    (repeat(first|refine sb ?_|refine gOn rfl ?_|refine gOff rfl rfl ?_|refine gTup rfl ?_))
    have hp : lpF e r = ([], d, !more, true) := by rw [hlp, if_pos (.inr h2)]
    rw [hp, Bool.or_true]
    exact ⟨rfl, ⟨by omega, e7⟩, (c06.trans c7).sub (by simp)⟩
   ·rw [show decide ((34 : UInt8) ∈ trR a) = false from decide_eq_false h2]
    (repeat(first|refine sb ?_|refine gOn rfl ?_|refine gOff rfl rfl ?_|refine gTup rfl ?_))
    have hp : lpF e r = (trR a, d, !more, false) := by rw [hlp, if_neg (by simp [h1, h2])]
    rw [hp, Bool.or_false]
    exact ⟨rfl, ⟨l6, e6⟩, c06⟩
end Go.Vf.S
end
section
namespace Go.Vf.S
open Go Go.Vf Go.Proofs Go.RowKit
attribute [local irreducible] wSeq wRow wp wG
set_option linter.unusedVariables false
set_option linter.unusedSimpArgs false
set_option maxRecDepth 10000
theorem key13_w {s : SS} {b : Nat} {r : List UInt8} {en w : Bool} (f : Fine s) (h : RdL s b r en w) (hr : r.length ≤ 100000) : CallW pr n_lines_reader_key [ptrV b] s fun v s' =>
  v = str (lpF 58 r).1 ∧ RdL s' b (lpF 58 r).2.1 (lpF 58 r).2.2.1 (w || ((lpF 58 r).2.2.2 || decide ((lpF 58 r).1 = []) || (lpF 58 r).2.2.1)) ∧ Chg s s' [b] := by
 refine CallW.run good ok_lines_reader_key (by simp) rfl ?_
 (try refine pSeq ?_); (repeat(first|refine sb ?_|refine gOn rfl ?_|refine gOff rfl rfl ?_|refine gTup rfl ?_))
 refine (part13_w f (by decide) h hr).mono fun v s1 q => ?_
 obtain ⟨rfl, h1, c1⟩ := q
 generalize lpF 58 r = P at *
 obtain ⟨k, d, e, x⟩ := P
 dsimp only at h1 ⊢
 (repeat(first|refine sb ?_|refine gOn rfl ?_|refine gOff rfl rfl ?_|refine gTup rfl ?_))
 intro q hq
 by_cases hk : k = []
 ·obtain rfl : q = true := by rw [hq, hk]; rfl
  (repeat(first|refine sb ?_|refine gOn rfl ?_|refine gOff rfl rfl ?_|refine gTup rfl ?_))
  refine st_abs (cs' := [str d, .bool e, .bool true]) rfl rfl h1.2 h1.1 rfl rfl fun s2 e2 c2 n2 => ?_
  (repeat(first|refine sb ?_|refine gOn rfl ?_|refine gOff rfl rfl ?_|refine gTup rfl ?_))
  refine ⟨rfl, ⟨by have := h1.1; omega, ?_⟩, (c1.trans c2).sub (by simp)⟩
  rw [e2, hk]
  simp
 ·obtain rfl : q = false := by rw [hq]; simp [hk]
  (repeat(first|refine sb ?_|refine gOn rfl ?_|refine gOff rfl rfl ?_|refine gTup rfl ?_))
  refine ldB_is rfl h1.2 rfl ?_
  cases e with
  | true =>
   (repeat(first|refine sb ?_|refine gOn rfl ?_|refine gOff rfl rfl ?_|refine gTup rfl ?_))
   refine st_abs (cs' := [str d, .bool true, .bool true]) rfl rfl h1.2 h1.1 rfl rfl fun s2 e2 c2 n2 => ?_
   (repeat(first|refine sb ?_|refine gOn rfl ?_|refine gOff rfl rfl ?_|refine gTup rfl ?_))
   refine ⟨rfl, ⟨by have := h1.1; omega, ?_⟩, (c1.trans c2).sub (by simp)⟩
   rw [e2]
   simp
  | false =>
   (repeat(first|refine sb ?_|refine gOn rfl ?_|refine gOff rfl rfl ?_|refine gTup rfl ?_))
   refine ⟨rfl, ⟨h1.1, ?_⟩, c1⟩
   rw [h1.2]
   simp [hk]
abbrev TsO (s : SS) (W : Option Addr) (ws : List (List UInt8)) : Prop := OwnR tS s W 0 ws.length (strV ws)
structure VIx where
 ws : List (List UInt8)
 r : List UInt8
 en : Bool
 w : Bool
 W : Option Addr
 s : SS
def vaF (en : Bool) (ws : List (List UInt8)) (r : List UInt8) (w : Bool) : List (List UInt8) × Bool := if en = true then (ws, w) else (ws ++ (vwA r).1, w || (vwA r).2)
theorem va_step (ws : List (List UInt8)) (r : List UInt8) (w : Bool) : vaF false ws r w = vaF (lpF 44 r).2.2.1 (ws ++ [(lpF 44 r).1]) (lpF 44 r).2.1 (w || (lpF 44 r).2.2.2) := by
 unfold vaF
 rw [if_neg (by simp), vw_step]
 by_cases h : (lpF 44 r).2.2.1 = true
 ·rw [if_pos h, if_pos h]
 ·rw [if_neg h, if_neg h, List.append_assoc, Bool.or_assoc]
  rfl
set_option maxHeartbeats 1000000 in
theorem values13_w {s : SS} {b : Nat} {r : List UInt8} {en w : Bool} (f : Fine s) (h : RdL s b r en w) (hr : r.length ≤ 100000) : CallW pr n_lines_reader_values [ptrV b] s fun v s' =>
  ∃ W, v = .tuple ⟨[.slice W (vwE (vaF en [] r w).2 (vaF en [] r w).1).1.length 0, .int .i64 (vwE (vaF en [] r w).2 (vaF en [] r w).1).2]⟩ ∧ TsO s' W (vwE (vaF en [] r w).2 (vaF en [] r w).1).1 ∧ (∀ id ∈ blkOf W, s.next ≤ id) ∧ Chg s s' [b] := by
 refine CallW.run good ok_lines_reader_values (by simp) rfl ?_
 (try refine pSeq ?_); (repeat refine sb ?_)
 refine pLoop (MW.head good (fun x : VIx => if x.en = true then 0 else x.r.length + 1) (fun x => RdL x.s b x.r x.en x.w ∧ TsO x.s x.W x.ws ∧ Chg s x.s [b] ∧ (∀ id ∈ blkOf x.W, s.next ≤ id) ∧ vaF x.en x.ws x.r x.w = vaF en [] r w ∧ x.ws.length + x.r.length ≤ r.length + 1 ∧ (x.en = false → x.ws.length + x.r.length ≤ r.length))
  (fun x => [(0, ptrV b), (2, .slice x.W x.ws.length 0), (3, .int .i64 0)]) (fun x => x.s) ⟨[], r, en, w, none, s⟩ ⟨h, ⟨rfl, rfl, rfl⟩, .refl _ _, by simp [blkOf], rfl, by simp, fun _ => by simp⟩ (Wk.same ⟨rfl, rfl, rfl, trivial⟩) ?_)
 rintro ⟨ws, r1, en1, w1, W, s1⟩ ⟨h1, o1, c1, hW, hva, hl, hl2⟩
 dsimp only at h1 o1 c1 hW hva hl hl2 ⊢
 (repeat refine sb ?_)
 refine ldB_is rfl h1.2 rfl ?_
 (repeat refine sb ?_)
 intro q hq
 cases en1 with
 | true =>
  obtain rfl : q = false := by rw [hq]; rfl
  (repeat refine sb ?_)
  refine ldB_is rfl h1.2 rfl ?_
  have hv : vaF en [] r w = (ws, w1) := by rw [← hva]; rfl
  rw [hv]
  unfold vwE
  cases w1 with
  | true =>
   (repeat refine sb ?_)
   exact ⟨none, rfl, ⟨rfl, rfl, rfl⟩, by simp [blkOf], c1⟩
  | false =>
   (repeat refine sb ?_)
   intro q hq
   by_cases h16 : 16 < ws.length
   ·obtain rfl : q = true := by rw [hq]; simp; omega
    rw [if_neg (by simp), if_pos h16]
    (repeat refine sb ?_)
    exact ⟨none, rfl, ⟨rfl, rfl, rfl⟩, by simp [blkOf], c1⟩
   ·obtain rfl : q = false := by rw [hq]; simp; omega
    rw [if_neg (by simp), if_neg h16]
    (repeat refine sb ?_)
    exact ⟨W, rfl, o1, hW, c1⟩
 | false =>
  obtain rfl : q = true := by rw [hq]; rfl
  have hl2 := hl2 rfl
  (repeat refine sb ?_)
  refine (part13_w (c1.fine f) (by decide) h1 (by omega)).mono fun v s2 q => ?_
  obtain ⟨rfl, h2, c2⟩ := q
  have hst := va_step ws r1 w1
  have hln := lp_len 44 r1
  generalize lpF 44 r1 = P at *
  obtain ⟨k, d, e, x⟩ := P
  dsimp only at h2 hst hln ⊢
  (repeat refine sb ?_)
  have c0 : Chg s2 { s2 with heap := (s2.next, some (.cells [str k] tS false false)) :: s2.heap, next := s2.next + 1 } [] := .new []
  have hbW : b ∉ blkOf W := fun q => by have := hW _ q; have := h.1; omega
  have o2 := (o1.chg c2 (fun id q1 q2 => by rw [List.mem_singleton.1 q2] at q1; exact hbW q1)).chg c0 (fun _ _ q => by cases q)
  refine appR o2 (by unfold strV; rw [List.length_map, Nat.mul_one]) ⟨by omega, by omega⟩ rfl rfl lkH rfl rfl fun s3 o3 c3 n3 => ?_
  have c23 := c0.nil c3
  (repeat refine sb ?_)
  refine ⟨⟨ws ++ [k], d, e, w1 || x, some ⟨s2.next + 1, 0, none⟩, s3⟩, ⟨h2.chg c23 hbW, ?_, ((c1.trans c2).trans c23).sub (fun id q1 q2 => by
   rcases List.mem_append.1 q1 with q | q
   ·rcases List.mem_append.1 q with q | q <;> exact q
   ·exact absurd (hW _ q) (by omega)), fun id q => by
    have : id = s2.next + 1 := by simpa [blkOf] using q
    have := (c1.trans c2).next
    omega, by show vaF e (ws ++ [k]) d (w1 || x) = _; rw [← hst]; exact hva, by show (ws ++ [k]).length + d.length ≤ r.length + 1; rw [List.length_append, List.length_singleton]; omega, fun he => by
     have := hln.2.2 he
     show (ws ++ [k]).length + d.length ≤ r.length
     rw [List.length_append, List.length_singleton]; omega⟩, ?_, Wk.same ⟨rfl, ?_, rfl, trivial⟩⟩
  ·show OwnR tS s3 (some ⟨s2.next + 1, 0, none⟩) 0 (ws ++ [k]).length (strV (ws ++ [k]))
   rw [List.length_append, show strV (ws ++ [k]) = strV ws ++ [str k] by unfold strV; simp]
   exact o3
  ·show (if e = true then 0 else d.length + 1) < (if false = true then 0 else r1.length + 1)
   rw [if_neg (show ¬false = true by simp)]
   cases e with
   | true => rw [if_pos rfl]; omega
   | false =>
    rw [if_neg (by simp)]
    have := hln.2.2 rfl
    omega
  ·show some (Value.slice _ (ws.length + 1) 0) = some (.slice _ (ws ++ [k]).length 0)
   rw [List.length_append]
   rfl
theorem whole13_w {s : SS} {b : Nat} {r : List UInt8} {en w : Bool} (f : Fine s) (h : RdL s b r en w) (hr : r.length ≤ 100000) : CallW pr n_lines_reader_whole [ptrV b] s fun v s' =>
  v = (if w = true ∨ (34 : UInt8) ∈ trB r then .tuple ⟨[str [], .int .i64 5]⟩ else .tuple ⟨[str (trB r), .int .i64 0]⟩) ∧ Chg s s' [] := by
 refine CallW.run good ok_lines_reader_whole (by simp) rfl ?_
 (try refine pSeq ?_); (repeat(first|refine sb ?_|refine gOn rfl ?_|refine gOff rfl rfl ?_|refine gTup rfl ?_))
 refine ldS_is rfl h.2 rfl ?_
 (repeat(first|refine sb ?_|refine gOn rfl ?_|refine gOff rfl rfl ?_|refine gTup rfl ?_))
 refine (Trim_w (by omega)).mono fun v s1 q => ?_
 obtain ⟨rfl, c1⟩ := q
 rw [trimF_trB]
 have h1 := h.chg c1 (by simp)
 (repeat(first|refine sb ?_|refine gOn rfl ?_|refine gOff rfl rfl ?_|refine gTup rfl ?_))
 refine ldB_is rfl h1.2 rfl ?_
 cases w with
 | true =>
  (repeat(first|refine sb ?_|refine gOn rfl ?_|refine gOff rfl rfl ?_|refine gTup rfl ?_))
  rw [if_pos (.inl rfl)]
  exact ⟨rfl, c1⟩
 | false =>
  (repeat(first|refine sb ?_|refine gOn rfl ?_|refine gOff rfl rfl ?_|refine gTup rfl ?_))
  refine contains1_w.mono fun v s q => ?_
  obtain ⟨rfl, rfl⟩ := q
  by_cases h34 : (34 : UInt8) ∈ trB r
  ·rw [show decide ((34 : UInt8) ∈ trB r) = true from decide_eq_true h34]
   (repeat(first|refine sb ?_|refine gOn rfl ?_|refine gOff rfl rfl ?_|refine gTup rfl ?_))
   rw [if_pos (.inr h34)]
   exact ⟨rfl, c1⟩
  ·rw [show decide ((34 : UInt8) ∈ trB r) = false from decide_eq_false h34]
   (repeat(first|refine sb ?_|refine gOn rfl ?_|refine gOff rfl rfl ?_|refine gTup rfl ?_))
   rw [if_neg (by simp [h34])]
   exact ⟨rfl, c1⟩
end Go.Vf.S
end
section
namespace Go.Vf.S
open Go Go.Vf Go.Proofs Go.RowKit
attribute [local irreducible] wSeq wRow wp wG
set_option linter.unusedVariables false
set_option linter.unusedSimpArgs false
set_option maxRecDepth 10000
theorem alloc13 {P : Program} {T : TL} {s : SS} {K : RR → Prop} {e : TypeId} {z : List Value} (h : K (.new (.cells z e false false) fun id => .pointer (some ⟨id, 0, none⟩))) : wN P (.alloc e z) T s K := h
abbrev tRw13 : TypeId := 129
abbrev tEn13 : TypeId := 77
def saC (x : Sai) : List Value := [.int .i64 (x.n : Int), str x.t, .bool x.al]
theorem agg_En : aggB pr tEn13 = some true := by kernel_rfl
theorem sz_En : sizeB pr tEn13 = some 3 := by kernel_rfl
set_option maxHeartbeats 1000000 in
theorem entry13_w {s : SS} {x : Sai} {vals : Bool} (f : Fine s) (hl : x.t.length ≤ 100000) : CallW pr n_lines_row_entry [.agg ⟨saC x⟩, .bool vals] s fun v s' =>
  ∃ k W ws, v = .tuple ⟨[.agg ⟨[.int .i64 (x.n : Int), str k, .slice W ws.length 0]⟩, .int .i64 (enF vals x).2]⟩ ∧ TsO s' W ws ∧ (∀ id ∈ blkOf W, s.next ≤ id) ∧ Chg s s' [] ∧ ((enF vals x).2 = 0 → (enF vals x).1 = ⟨x.n, k, ws⟩) := by
 refine CallW.run good ok_lines_row_entry (by simp) rfl ?_
 obtain ⟨n, t, al⟩ := x
 dsimp only at hl ⊢
 obtain ⟨k0, k1, c2, f2⟩ := new2_at f (.cells (saC ⟨n, t, al⟩) tRw13 false false) (.cells [.int .i64 0, str [], .slice none 0 0] tEn13 false false)
 obtain ⟨j0, j1, j2, c3, f3⟩ := new3_at f (.cells (saC ⟨n, t, al⟩) tRw13 false false) (.cells [.int .i64 0, str [], .slice none 0 0] tEn13 false false) (.cells [str [], .bool false, .bool false] tRd13 false false)
 (try refine pSeq ?_); (repeat(first|refine sb ?_|refine kNo ?_|refine gOn rfl ?_|refine gOff rfl rfl ?_|refine gTup rfl ?_))
 refine ldS_is (l := t) rfl k0 rfl ?_
 (repeat(first|refine sb ?_|refine kNo ?_|refine gOn rfl ?_|refine gOff rfl rfl ?_|refine gTup rfl ?_))
 refine ldB_is rfl k0 rfl ?_
 cases al with
 | true =>
  (repeat(first|refine sb ?_|refine kNo ?_|refine gOn rfl ?_|refine gOff rfl rfl ?_|refine gTup rfl ?_))
  refine alloc13 (rNew f2.at ?_)
  (repeat(first|refine sb ?_|refine kNo ?_|refine gOn rfl ?_|refine gOff rfl rfl ?_|refine gTup rfl ?_))
  refine st_abs (cs' := [str t, .bool false, .bool true]) rfl rfl j2 (Nat.lt_succ_self _) rfl rfl fun sX eX cx nX => ?_
  have nX : sX.next = s.next + 1 + 1 + 1 := nX
  obtain ⟨W0, hW⟩ : ∃ y, y = true := ⟨true, rfl⟩
  rw [← hW] at eX
  have RX : RdL sX (s.next + 1 + 1) t false W0 := ⟨by omega, eX⟩
  have cX : Chg s sX [] := c3.fresh cx (by simp; omega)
  have kr := cx.blk _ _ (show s.next < s.next + 1 + 1 + 1 by omega) (by simp; omega) j0
  have kc := cx.blk _ _ (show s.next + 1 < s.next + 1 + 1 + 1 by omega) (by simp) j1
  have hW0 : (true || !(t.all txB)) = W0 := by rw [hW, Bool.true_or]
  refine kNo ?_
  (repeat(first|refine sb ?_|refine kNo ?_|refine gOn rfl ?_|refine gOff rfl rfl ?_|refine gTup rfl ?_))
  refine ldI_is rfl kr rfl ?_
  (repeat(first|refine sb ?_|refine kNo ?_|refine gOn rfl ?_|refine gOff rfl rfl ?_|refine gTup rfl ?_))
  refine st_abs (cs' := [.int .i64 (n : Int), str [], .slice none 0 0]) rfl rfl lkH (Nat.lt_succ_self _) rfl rfl fun s5 e5 c5 n5 => ?_
  have n5 : s5.next = sX.next + 1 := n5
  have c05 : Chg sX s5 [] := (Chg.new []).fresh c5 (by simp)
  have R5 := RX.chg c05 (by simp)
  have kc5 := c05.blk _ _ (by omega) (by simp) kc
  have f5 := c05.fine (cX.fine f)
  (repeat(first|refine sb ?_|refine kNo ?_|refine gOn rfl ?_|refine gOff rfl rfl ?_|refine gTup rfl ?_))
  cases vals with
  | true =>
   have hen := en_true (x := ⟨n, t, true⟩)
   unfold keF at hen
   dsimp only at hen
   rw [hW0] at hen
   (repeat(first|refine sb ?_|refine kNo ?_|refine gOn rfl ?_|refine gOff rfl rfl ?_|refine gTup rfl ?_))
   refine (key13_w f5 R5 hl).mono fun v s6 q => ?_
   obtain ⟨rfl, R6, c6⟩ := q
   have hlp := lp_len 58 t
   generalize lpF 58 t = P at *
   obtain ⟨k, d, e, xw⟩ := P
   dsimp only at R6 hen hlp ⊢
   have e6 := c6.blk _ _ (show sX.next < s5.next by omega) (by simp; omega) e5
   have n6 := c6.next
   (repeat(first|refine sb ?_|refine kNo ?_|refine gOn rfl ?_|refine gOff rfl rfl ?_|refine gTup rfl ?_))
   refine st_abs (cs' := [.int .i64 (n : Int), str k, .slice none 0 0]) rfl rfl e6 (by omega) rfl rfl fun s7 e7 c7 n7 => ?_
   have R7 := R6.chg c7 (by simp; omega)
   have f7 := c7.fine (c6.fine f5)
   (repeat(first|refine sb ?_|refine kNo ?_|refine gOn rfl ?_|refine gOff rfl rfl ?_|refine gTup rfl ?_))
   refine (values13_w f7 R7 (by omega)).mono fun v s8 q => ?_
   obtain ⟨W, rfl, o8, hW, c8⟩ := q
   have e8 := c8.blk _ _ (show sX.next < s7.next by omega) (by simp; omega) e7
   have n8 := c8.next
   have hE : ∀ ve, ve = vwE (vaF e [] d (W0 || (xw || decide (k = []) || e))).2 (vaF e [] d (W0 || (xw || decide (k = []) || e))).1 → (enF true ⟨n, t, true⟩).2 = ve.2 ∧ (ve.2 = 0 → (enF true ⟨n, t, true⟩).1 = ⟨n, k, ve.1⟩) := by
    intro ve hve
    rw [hen]
    by_cases hw : (W0 || (xw || decide (k = []) || e)) = true
    ·rw [if_pos hw]
     have : (vaF e [] d (W0 || (xw || decide (k = []) || e))).2 = true := by
      rw [hw]
      unfold vaF
      split <;> simp
     rw [hve]
     unfold vwE
     rw [if_pos this]
     exact ⟨rfl, fun q => by cases q⟩
    ·rw [if_neg hw]
     have hw : (W0 || (xw || decide (k = []) || e)) = false := by simpa using hw
     have he : e = false := by cases e <;> simp_all
     rw [hw, he] at hve
     have : vaF false [] d false = ((vwA d).1, (vwA d).2) := by unfold vaF; rw [if_neg (by simp)]; simp
     rw [this] at hve
     rw [← hve]
     obtain ⟨ws, z⟩ := ve
     cases z with
     | zero => exact ⟨rfl, fun _ => rfl⟩
     | succ z => exact ⟨rfl, fun q => by cases q⟩
   generalize hve : vwE (vaF e [] d (W0 || (xw || decide (k = []) || e))).2 (vaF e [] d (W0 || (xw || decide (k = []) || e))).1 = ve at o8 ⊢
   obtain ⟨hE1, hE2⟩ := hE ve hve.symm
   (repeat(first|refine sb ?_|refine kNo ?_|refine gOn rfl ?_|refine gOff rfl rfl ?_|refine gTup rfl ?_))
   refine st_abs (cs' := [.int .i64 (n : Int), str k, .slice W ve.1.length 0]) rfl rfl e8 (by omega) rfl rfl fun s9 e9 c9 n9 => ?_
   (repeat(first|refine sb ?_|refine kNo ?_|refine gOn rfl ?_|refine gOff rfl rfl ?_|refine gTup rfl ?_))
   refine ldN_is rfl e9 rfl ?_
   have kc6 := c6.blk _ _ (show s.next + 1 < s5.next by omega) (by simp) kc5
   have kc7 := c7.blk _ _ (show s.next + 1 < s6.next by omega) (by simp; omega) kc6
   have kc8 := c8.blk _ _ (show s.next + 1 < s7.next by omega) (by simp) kc7
   have kc9 := c9.blk _ _ (show s.next + 1 < s8.next by omega) (by simp; omega) kc8
   (repeat(first|refine sb ?_|refine kNo ?_|refine gOn rfl ?_|refine gOff rfl rfl ?_|refine gTup rfl ?_))
   refine st_abs (cs' := [.int .i64 (n : Int), str k, .slice W ve.1.length 0]) rfl rfl kc9 (by show s.next + 1 < s9.next; omega) rfl rfl fun sA eA cA nA => ?_
   (repeat(first|refine sb ?_|refine kNo ?_|refine gOn rfl ?_|refine gOff rfl rfl ?_|refine gTup rfl ?_))
   (repeat (first | with_reducible refine sqRet ?_ | with_reducible refine bkRet ?_ | with_reducible refine hdRet ?_))
   refine ret_cell agg_En sz_En rfl eA rfl rfl ⟨k, W, ve.1, by rw [hE1], (o8.chg c9 (fun id q1 q2 => by have := hW id q1; simp at q2; omega)).chg cA (fun id q1 q2 => by have := hW id q1; simp at q2; omega), fun id q => by have := hW id q; omega, ?_, fun q => hE2 (by rw [← hE1]; exact q)⟩
   exact ((((((cX.nil c05).fresh c6 (by simp; omega)).fresh c7 (by simp; omega)).fresh c8 (by simp; omega)).fresh c9 (by simp; omega)).fresh cA (by simp))
  | false =>
   have hen := en_false (x := ⟨n, t, true⟩)
   dsimp only at hen
   rw [hW0] at hen
   (repeat(first|refine sb ?_|refine kNo ?_|refine gOn rfl ?_|refine gOff rfl rfl ?_|refine gTup rfl ?_))
   refine (whole13_w f5 R5 hl).mono fun v s6 q => ?_
   obtain ⟨hv, c6⟩ := q
   obtain ⟨k, z, hv2, hz1, hz2⟩ : ∃ (k : List UInt8) (z : Nat), v = .tuple ⟨[str k, .int .i64 (z : Int)]⟩ ∧ (enF false ⟨n, t, true⟩).2 = z ∧ (z = 0 → (enF false ⟨n, t, true⟩).1 = ⟨n, k, []⟩) := by
    rw [hen]
    split at hv
    ·rename_i hc
     rw [if_pos hc]
     exact ⟨[], 5, hv, rfl, fun q => by cases q⟩
    ·rename_i hc
     rw [if_neg hc]
     exact ⟨trB t, 0, hv, rfl, fun _ => rfl⟩
   subst hv2
   have e6 := c6.blk _ _ (show sX.next < s5.next by omega) (by simp) e5
   have kc6 := c6.blk _ _ (show s.next + 1 < s5.next by omega) (by simp) kc5
   have n6 := c6.next
   (repeat(first|refine sb ?_|refine kNo ?_|refine gOn rfl ?_|refine gOff rfl rfl ?_|refine gTup rfl ?_))
   refine st_abs (cs' := [.int .i64 (n : Int), str k, .slice none 0 0]) rfl rfl e6 (by omega) rfl rfl fun s9 e9 c9 n9 => ?_
   (repeat(first|refine sb ?_|refine kNo ?_|refine gOn rfl ?_|refine gOff rfl rfl ?_|refine gTup rfl ?_))
   refine ldN_is rfl e9 rfl ?_
   have kc9 := c9.blk _ _ (show s.next + 1 < s6.next by omega) (by simp; omega) kc6
   (repeat(first|refine sb ?_|refine kNo ?_|refine gOn rfl ?_|refine gOff rfl rfl ?_|refine gTup rfl ?_))
   refine st_abs (cs' := [.int .i64 (n : Int), str k, .slice none 0 0]) rfl rfl kc9 (by show s.next + 1 < s9.next; omega) rfl rfl fun sA eA cA nA => ?_
   (repeat(first|refine sb ?_|refine kNo ?_|refine gOn rfl ?_|refine gOff rfl rfl ?_|refine gTup rfl ?_))
   (repeat (first | with_reducible refine sqRet ?_ | with_reducible refine bkRet ?_ | with_reducible refine hdRet ?_))
   refine ret_cell agg_En sz_En rfl eA rfl rfl ⟨k, none, [], by rw [hz1]; rfl, ⟨rfl, rfl, rfl⟩, by simp [blkOf], ?_, fun q => hz2 (by rw [← hz1]; exact q)⟩
   exact (((cX.nil c05).nil c6).fresh c9 (by simp; omega)).fresh cA (by simp)
 | false =>
  (repeat(first|refine sb ?_|refine kNo ?_|refine gOn rfl ?_|refine gOff rfl rfl ?_|refine gTup rfl ?_))
  refine ldS_is (l := t) rfl k0 rfl ?_
  (repeat(first|refine sb ?_|refine kNo ?_|refine gOn rfl ?_|refine gOff rfl rfl ?_|refine gTup rfl ?_))
  refine alloc13 (rNew f2.at ?_)
  (repeat(first|refine sb ?_|refine kNo ?_|refine gOn rfl ?_|refine gOff rfl rfl ?_|refine gTup rfl ?_))
  refine printable_w.mono fun v s4 q => ?_
  obtain ⟨rfl, c4⟩ := q
  have i0 := c4.blk _ _ (show s.next < s.next + 1 + 1 + 1 by omega) (by simp) j0
  have i1 := c4.blk _ _ (show s.next + 1 < s.next + 1 + 1 + 1 by omega) (by simp) j1
  have i2 := c4.blk _ _ (show s.next + 1 + 1 < s.next + 1 + 1 + 1 by omega) (by simp) j2
  have n4 : s.next + 1 + 1 + 1 ≤ s4.next := c4.next
  refine kAll (c4.keep f3) ?_
  (repeat(first|refine sb ?_|refine kNo ?_|refine gOn rfl ?_|refine gOff rfl rfl ?_|refine gTup rfl ?_))
  intro q hq
  subst hq
  (repeat(first|refine sb ?_|refine kNo ?_|refine gOn rfl ?_|refine gOff rfl rfl ?_|refine gTup rfl ?_))
  refine st_abs (cs' := [str t, .bool false, .bool (!(t.all txB))]) rfl rfl i2 (by show s.next + 1 + 1 < s4.next; omega) rfl rfl fun sX eX cx nX => ?_
  obtain ⟨W0, hW⟩ : ∃ y, y = !(t.all txB) := ⟨_, rfl⟩
  rw [← hW] at eX
  have RX : RdL sX (s.next + 1 + 1) t false W0 := ⟨by omega, eX⟩
  have cX : Chg s sX [] := (c3.nil c4).fresh cx (by simp; omega)
  have kr := cx.blk _ _ (show s.next < s4.next by omega) (by simp; omega) i0
  have kc := cx.blk _ _ (show s.next + 1 < s4.next by omega) (by simp) i1
  have hW0 : (false || !(t.all txB)) = W0 := by rw [hW, Bool.false_or]
  refine kNo ?_
  (repeat(first|refine sb ?_|refine kNo ?_|refine gOn rfl ?_|refine gOff rfl rfl ?_|refine gTup rfl ?_))
  refine ldI_is rfl kr rfl ?_
  (repeat(first|refine sb ?_|refine kNo ?_|refine gOn rfl ?_|refine gOff rfl rfl ?_|refine gTup rfl ?_))
  refine st_abs (cs' := [.int .i64 (n : Int), str [], .slice none 0 0]) rfl rfl lkH (Nat.lt_succ_self _) rfl rfl fun s5 e5 c5 n5 => ?_
  have n5 : s5.next = sX.next + 1 := n5
  have c05 : Chg sX s5 [] := (Chg.new []).fresh c5 (by simp)
  have R5 := RX.chg c05 (by simp)
  have kc5 := c05.blk _ _ (by omega) (by simp) kc
  have f5 := c05.fine (cX.fine f)
  (repeat(first|refine sb ?_|refine kNo ?_|refine gOn rfl ?_|refine gOff rfl rfl ?_|refine gTup rfl ?_))
  cases vals with
  | true =>
   have hen := en_true (x := ⟨n, t, false⟩)
   unfold keF at hen
   dsimp only at hen
   rw [hW0] at hen
   (repeat(first|refine sb ?_|refine kNo ?_|refine gOn rfl ?_|refine gOff rfl rfl ?_|refine gTup rfl ?_))
   refine (key13_w f5 R5 hl).mono fun v s6 q => ?_
   obtain ⟨rfl, R6, c6⟩ := q
   have hlp := lp_len 58 t
   generalize lpF 58 t = P at *
   obtain ⟨k, d, e, xw⟩ := P
   dsimp only at R6 hen hlp ⊢
   have e6 := c6.blk _ _ (show sX.next < s5.next by omega) (by simp; omega) e5
   have n6 := c6.next
   (repeat(first|refine sb ?_|refine kNo ?_|refine gOn rfl ?_|refine gOff rfl rfl ?_|refine gTup rfl ?_))
   refine st_abs (cs' := [.int .i64 (n : Int), str k, .slice none 0 0]) rfl rfl e6 (by omega) rfl rfl fun s7 e7 c7 n7 => ?_
   have R7 := R6.chg c7 (by simp; omega)
   have f7 := c7.fine (c6.fine f5)
   (repeat(first|refine sb ?_|refine kNo ?_|refine gOn rfl ?_|refine gOff rfl rfl ?_|refine gTup rfl ?_))
   refine (values13_w f7 R7 (by omega)).mono fun v s8 q => ?_
   obtain ⟨W, rfl, o8, hW, c8⟩ := q
   have e8 := c8.blk _ _ (show sX.next < s7.next by omega) (by simp; omega) e7
   have n8 := c8.next
   have hE : ∀ ve, ve = vwE (vaF e [] d (W0 || (xw || decide (k = []) || e))).2 (vaF e [] d (W0 || (xw || decide (k = []) || e))).1 → (enF true ⟨n, t, false⟩).2 = ve.2 ∧ (ve.2 = 0 → (enF true ⟨n, t, false⟩).1 = ⟨n, k, ve.1⟩) := by
    intro ve hve
    rw [hen]
    by_cases hw : (W0 || (xw || decide (k = []) || e)) = true
    ·rw [if_pos hw]
     have : (vaF e [] d (W0 || (xw || decide (k = []) || e))).2 = true := by
      rw [hw]
      unfold vaF
      split <;> simp
     rw [hve]
     unfold vwE
     rw [if_pos this]
     exact ⟨rfl, fun q => by cases q⟩
    ·rw [if_neg hw]
     have hw : (W0 || (xw || decide (k = []) || e)) = false := by simpa using hw
     have he : e = false := by cases e <;> simp_all
     rw [hw, he] at hve
     have : vaF false [] d false = ((vwA d).1, (vwA d).2) := by unfold vaF; rw [if_neg (by simp)]; simp
     rw [this] at hve
     rw [← hve]
     obtain ⟨ws, z⟩ := ve
     cases z with
     | zero => exact ⟨rfl, fun _ => rfl⟩
     | succ z => exact ⟨rfl, fun q => by cases q⟩
   generalize hve : vwE (vaF e [] d (W0 || (xw || decide (k = []) || e))).2 (vaF e [] d (W0 || (xw || decide (k = []) || e))).1 = ve at o8 ⊢
   obtain ⟨hE1, hE2⟩ := hE ve hve.symm
   (repeat(first|refine sb ?_|refine kNo ?_|refine gOn rfl ?_|refine gOff rfl rfl ?_|refine gTup rfl ?_))
   refine st_abs (cs' := [.int .i64 (n : Int), str k, .slice W ve.1.length 0]) rfl rfl e8 (by omega) rfl rfl fun s9 e9 c9 n9 => ?_
   (repeat(first|refine sb ?_|refine kNo ?_|refine gOn rfl ?_|refine gOff rfl rfl ?_|refine gTup rfl ?_))
   refine ldN_is rfl e9 rfl ?_
   have kc6 := c6.blk _ _ (show s.next + 1 < s5.next by omega) (by simp) kc5
   have kc7 := c7.blk _ _ (show s.next + 1 < s6.next by omega) (by simp; omega) kc6
   have kc8 := c8.blk _ _ (show s.next + 1 < s7.next by omega) (by simp) kc7
   have kc9 := c9.blk _ _ (show s.next + 1 < s8.next by omega) (by simp; omega) kc8
   (repeat(first|refine sb ?_|refine kNo ?_|refine gOn rfl ?_|refine gOff rfl rfl ?_|refine gTup rfl ?_))
   refine st_abs (cs' := [.int .i64 (n : Int), str k, .slice W ve.1.length 0]) rfl rfl kc9 (by show s.next + 1 < s9.next; omega) rfl rfl fun sA eA cA nA => ?_
   (repeat(first|refine sb ?_|refine kNo ?_|refine gOn rfl ?_|refine gOff rfl rfl ?_|refine gTup rfl ?_))
   (repeat (first | with_reducible refine sqRet ?_ | with_reducible refine bkRet ?_ | with_reducible refine hdRet ?_))
   refine ret_cell agg_En sz_En rfl eA rfl rfl ⟨k, W, ve.1, by rw [hE1], (o8.chg c9 (fun id q1 q2 => by have := hW id q1; simp at q2; omega)).chg cA (fun id q1 q2 => by have := hW id q1; simp at q2; omega), fun id q => by have := hW id q; omega, ?_, fun q => hE2 (by rw [← hE1]; exact q)⟩
   exact ((((((cX.nil c05).fresh c6 (by simp; omega)).fresh c7 (by simp; omega)).fresh c8 (by simp; omega)).fresh c9 (by simp; omega)).fresh cA (by simp))
  | false =>
   have hen := en_false (x := ⟨n, t, false⟩)
   dsimp only at hen
   rw [hW0] at hen
   (repeat(first|refine sb ?_|refine kNo ?_|refine gOn rfl ?_|refine gOff rfl rfl ?_|refine gTup rfl ?_))
   refine (whole13_w f5 R5 hl).mono fun v s6 q => ?_
   obtain ⟨hv, c6⟩ := q
   obtain ⟨k, z, hv2, hz1, hz2⟩ : ∃ (k : List UInt8) (z : Nat), v = .tuple ⟨[str k, .int .i64 (z : Int)]⟩ ∧ (enF false ⟨n, t, false⟩).2 = z ∧ (z = 0 → (enF false ⟨n, t, false⟩).1 = ⟨n, k, []⟩) := by
    rw [hen]
    split at hv
    ·rename_i hc
     rw [if_pos hc]
     exact ⟨[], 5, hv, rfl, fun q => by cases q⟩
    ·rename_i hc
     rw [if_neg hc]
     exact ⟨trB t, 0, hv, rfl, fun _ => rfl⟩
   subst hv2
   have e6 := c6.blk _ _ (show sX.next < s5.next by omega) (by simp) e5
   have kc6 := c6.blk _ _ (show s.next + 1 < s5.next by omega) (by simp) kc5
   have n6 := c6.next
   (repeat(first|refine sb ?_|refine kNo ?_|refine gOn rfl ?_|refine gOff rfl rfl ?_|refine gTup rfl ?_))
   refine st_abs (cs' := [.int .i64 (n : Int), str k, .slice none 0 0]) rfl rfl e6 (by omega) rfl rfl fun s9 e9 c9 n9 => ?_
   (repeat(first|refine sb ?_|refine kNo ?_|refine gOn rfl ?_|refine gOff rfl rfl ?_|refine gTup rfl ?_))
   refine ldN_is rfl e9 rfl ?_
   have kc9 := c9.blk _ _ (show s.next + 1 < s6.next by omega) (by simp; omega) kc6
   (repeat(first|refine sb ?_|refine kNo ?_|refine gOn rfl ?_|refine gOff rfl rfl ?_|refine gTup rfl ?_))
   refine st_abs (cs' := [.int .i64 (n : Int), str k, .slice none 0 0]) rfl rfl kc9 (by show s.next + 1 < s9.next; omega) rfl rfl fun sA eA cA nA => ?_
   (repeat(first|refine sb ?_|refine kNo ?_|refine gOn rfl ?_|refine gOff rfl rfl ?_|refine gTup rfl ?_))
   (repeat (first | with_reducible refine sqRet ?_ | with_reducible refine bkRet ?_ | with_reducible refine hdRet ?_))
   refine ret_cell agg_En sz_En rfl eA rfl rfl ⟨k, none, [], by rw [hz1]; rfl, ⟨rfl, rfl, rfl⟩, by simp [blkOf], ?_, fun q => hz2 (by rw [← hz1]; exact q)⟩
   exact (((cX.nil c05).nil c6).fresh c9 (by simp; omega)).fresh cA (by simp)
end Go.Vf.S
end
section
namespace Go.Vf.S
open Go Go.Vf
set_option linter.unusedVariables false
set_option linter.unusedSimpArgs false
set_option maxRecDepth 10000
theorem ln_suf (l : List UInt8) : (if [13] <:+ l then l.take (l.length - [(13 : UInt8)].length) else l) = lnE l := by
 unfold lnE
 by_cases h : l.getLast? = some 13
 ·obtain ⟨ys, rfl⟩ := List.getLast?_eq_some_iff.1 h
  rw [if_pos h, if_pos ⟨ys, rfl⟩]
  simp
 ·rw [if_neg h, if_neg]
  rintro ⟨ys, rfl⟩
  exact h (by simp)
theorem ln_len (l : List UInt8) : (lnE l).length ≤ l.length := by
 unfold lnE
 split
 ·simp
 ·exact Nat.le_refl _
theorem trB_len (l : List UInt8) : (trB l).length ≤ l.length := by
 unfold trB
 have h1 := trR_len (trL l)
 have h2 := trL_len l
 omega
theorem heads {l : List UInt8} (h : trB l ≠ []) : ∃ c r d q, l = c :: r ∧ trB l = d :: q ∧ (ctB l = false ↔ c = d) := by
 obtain ⟨p, h1, h2, h3⟩ := trL_dec l
 have h0 : trL l ≠ [] := fun e => h (by unfold trB; rw [e]; rfl)
 obtain ⟨d, r, hd, hw⟩ := h3.resolve_left h0
 obtain ⟨p2, g1, g2⟩ := trR_dec (trL l)
 have hq : ∃ q, trB l = d :: q := by
  cases hb : trB l with
  | nil => exact absurd hb h
  | cons x q =>
   unfold trB at hb
   rw [hb, hd] at g2
   exact ⟨q, by rw [(List.cons.inj g2).1]⟩
 obtain ⟨q, hq⟩ := hq
 rw [hd] at h2
 cases p with
 | nil => exact ⟨d, r, d, q, h2, hq, by unfold ctB; rw [h2]; simp [hw]⟩
 | cons c p =>
  have hc : wsB c = true := List.all_eq_true.1 h1 c (by simp)
  refine ⟨c, p ++ d :: r, d, q, h2, hq, ?_⟩
  unfold ctB
  rw [h2]
  simp only [List.cons_append, List.head?_cons, hc]
  constructor
  ·intro e; cases e
  ·intro e; rw [e, hw] at hc; cases hc
theorem pass_is (l : List UInt8) : (trB l = [] ∨ (trB l).head? = some 35) ↔ (trB l = [] ∨ (trB l).take 1 = [35]) := by
 cases trB l with
 | nil => simp
 | cons c r => simp
theorem sp_sum (c : UInt8) : ∀ l : List UInt8, ((splitF c l).map fun x => x.length + 1).sum = l.length + 1
 | [] => rfl
 | x :: l => by
  have ih := sp_sum c l
  unfold splitF at ih ⊢
  rw [sp]
  by_cases h : x = c
  ·rw [if_pos h]
   simp only [List.map_cons, List.sum_cons, List.length_nil, List.length_cons] at ih ⊢
   omega
  ·rw [if_neg h]
   simp only [List.map_cons, List.sum_cons, List.length_cons] at ih ⊢
   omega
def cuL (cur : Option (Nat × List UInt8)) : Nat := match cur with
 | none => 0
 | some x => x.2.length
theorem sa_len : ∀ (ls : List (List UInt8)) (n : Nat) (cur : Option (Nat × List UInt8)), ∀ x ∈ saG n cur ls, x.t.length ≤ cuL cur + (ls.map fun x => x.length + 1).sum
 | [], n, cur, x, hx => by
  rw [saG] at hx
  cases cur with
  | none => cases hx
  | some y => obtain ⟨a, b⟩ := y; rw [List.mem_singleton.1 hx]; simp [cuL]
 | l :: r, n, cur, x, hx => by
  have h1 := ln_len l
  have h2 := trB_len (lnE l)
  rw [List.map_cons, List.sum_cons]
  rw [saG] at hx
  split at hx
  ·have := sa_len r (n + 1) cur x hx
   omega
  ·split at hx
   ·rcases List.mem_append.1 hx with hx | hx
    ·cases cur with
     | none => rw [List.mem_singleton.1 hx]; simp
     | some y => cases hx
    ·have := sa_len r (n + 1) _ x hx
     cases cur with
     | none => simp only [onS, Option.map_none, cuL] at this ⊢; omega
     | some y => simp only [onS, Option.map_some, cuL, List.length_append, List.length_cons] at this ⊢; omega
   ·rcases List.mem_append.1 hx with hx | hx
    ·cases cur with
     | none => cases hx
     | some y => obtain ⟨a, b⟩ := y; rw [List.mem_singleton.1 hx]; simp [cuL]
    ·have := sa_len r (n + 1) _ x hx
     simp only [cuL] at this
     omega
theorem saF_len {l : List UInt8} : ∀ x ∈ saF l, x.t.length ≤ l.length + 1 := by
 intro x hx
 have := sa_len (splitF 10 l) 1 none x hx
 rw [sp_sum] at this
 simpa [cuL] using this
theorem sa_many : ∀ (ls : List (List UInt8)) (n : Nat) (cur : Option (Nat × List UInt8)), (saG n cur ls).length ≤ ls.length + (if cur = none then 0 else 1)
 | [], n, cur => by
  rw [saG]
  cases cur with
  | none => simp [flS]
  | some y => simp [flS]
 | l :: r, n, cur => by
  rw [saG]
  split
  ·have := sa_many r (n + 1) cur
   simp only [List.length_cons]; omega
  ·split
   ·have := sa_many r (n + 1) (onS cur (trB (lnE l)))
    rw [List.length_append]
    cases cur with
    | none => simp only [onS, Option.map_none, alS, if_true, List.length_cons, List.length_nil] at this ⊢; omega
    | some y => simp only [onS, Option.map_some, alS, reduceCtorEq, if_false, List.length_cons, List.length_nil] at this ⊢; omega
   ·have := sa_many r (n + 1) (some (n, lnE l))
    rw [List.length_append]
    cases cur with
    | none => simp only [flS, reduceCtorEq, if_false, if_true, List.length_cons, List.length_nil] at this ⊢; omega
    | some y => simp only [flS, reduceCtorEq, if_false, List.length_cons, List.length_nil] at this ⊢; omega
theorem splitN_len (c : UInt8) (l : List UInt8) : (splitF c l).length ≤ l.length + 1 := by
 have h := sp_sum c l
 have : ∀ ls : List (List UInt8), ls.length ≤ (ls.map fun x => x.length + 1).sum := by
  intro ls
  induction ls with
  | nil => exact Nat.le_refl _
  | cons a r ih => rw [List.map_cons, List.sum_cons, List.length_cons]; omega
 have := this (splitF c l)
 omega
theorem saF_many (l : List UInt8) : (saF l).length ≤ l.length + 1 := by
 have h1 := sa_many (splitF 10 l) 1 none
 have h2 := splitN_len 10 l
 unfold saF
 simp only [if_true] at h1
 omega
theorem part_le {c : UInt8} {l x : List UInt8} (h : x ∈ splitF c l) : x.length ≤ l.length := by
 have h1 := sp_sum c l
 have : ∀ ls : List (List UInt8), x ∈ ls → x.length + 1 ≤ (ls.map fun x => x.length + 1).sum := by
  intro ls
  induction ls with
  | nil => intro q; cases q
  | cons a r ih =>
   intro q
   rw [List.map_cons, List.sum_cons]
   rcases List.mem_cons.1 q with rfl | q
   ·omega
   ·have := ih q; omega
 have := this _ h
 omega
end Go.Vf.S
end
section
namespace Go.Vf.S
open Go Go.Vf Go.Proofs Go.RowKit
attribute [local irreducible] wSeq wRow wp wG
set_option linter.unusedVariables false
set_option linter.unusedSimpArgs false
set_option maxRecDepth 10000
def saCs (R : List Sai) : List Value := R.flatMap saC
theorem saCs_len (R : List Sai) : (saCs R).length = R.length * 3 := by
 unfold saCs
 induction R with
 | nil => rfl
 | cons x R ih => rw [List.flatMap_cons, List.length_append, ih, List.length_cons]; simp [saC]; omega
theorem saCs_app (R : List Sai) (x : Sai) : saCs (R ++ [x]) = saCs R ++ saC x := by unfold saCs; rw [List.flatMap_append]; simp
theorem saCs_last (R : List Sai) (x : Sai) (j : Nat) : (saCs (R ++ [x]))[R.length * 3 + j]? = (saC x)[j]? := by
 rw [saCs_app, List.getElem?_append_right (by rw [saCs_len]; omega), saCs_len, show R.length * 3 + j - R.length * 3 = j by omega]
theorem saCs_drop (R : List Sai) (k : Nat) : (saCs R).drop (k * 3) = saCs (R.drop k) := by
 unfold saCs
 induction R generalizing k with
 | nil => simp
 | cons x R ih =>
  cases k with
  | zero => simp
  | succ k =>
   rw [List.drop_succ_cons, ← ih k, List.flatMap_cons, List.drop_append, show (k + 1) * 3 = (saC x).length + k * 3 by simp [saC]; omega, List.drop_of_length_le (by omega), List.nil_append]
   congr 1
   omega
abbrev RwO (s : SS) (W : Option Addr) (R : List Sai) : Prop := OwnR tRw13 s W 0 R.length (saCs R)
theorem ownR_set {t : TypeId} {s s' : SS} {b n : Nat} {cs cs' : List Value} {g : Bool} (h : OwnR t s (some ⟨b, 0, none⟩) 0 n cs) (hn : 0 < n) (hl : lookH s'.heap b = some (.cells cs' t g false)) (hlt : b < s'.next) (hg : lookH s.heap b = some (.cells cs t g false)) : OwnR t s' (some ⟨b, 0, none⟩) 0 n cs' := by
 obtain ⟨_, _, _, g', h4, h5⟩ := h
 rw [hg] at h4
 cases h4
 exact ⟨rfl, rfl, hlt, g, hl, fun q => by have := h5 q; omega⟩
theorem trimSuffix13_w {s : SS} {l : List UInt8} (hl : l.length ≤ 1000000) : CallW pr n_strings_TrimSuffix [str l, str [13]] s fun v s' => v = str (lnE l) ∧ s' = s := by
 refine (trimSuffix_w hl).mono fun v s q => ?_
 obtain ⟨rfl, rfl⟩ := q
 exact ⟨by rw [ln_suf], rfl⟩
theorem len_snoc (R : List Sai) (x : Sai) : (R ++ [x]).length = R.length + 1 := by rw [List.length_append]; rfl
def bigS (i : Nat) : Nat := i * 200000
theorem bigS_next (i : Nat) : bigS (i + 1) = bigS i + 200000 := by unfold bigS; omega
theorem bigS_le {i : Nat} (h : i ≤ 20000) : bigS i ≤ 4000000000 := by unfold bigS; omega
attribute [local irreducible] bigS
structure RowIx where
 i : Nat
 R : List Sai
 W : Option Addr
 s : SS
theorem strings_split_w {s : SS} {l : List UInt8} (hl : l.length ≤ 1000000) : CallW pr n_strings_Split [str l, str [10]] s fun v s' => ∃ base cap, v = .slice base (splitF 10 l).length cap ∧ StrsAt s' base (splitF 10 l) ∧ Chg s s' [] ∧ (∀ id ∈ blkOf base, s.next ≤ id) := by
 refine CallW.run good ok_strings_Split (by simp) rfl ?_
 (try refine pSeq ?_); (repeat refine sb ?_)
 refine (split_w (c := 10) hl).mono fun v s1 q => ?_
 obtain ⟨base, cap, rfl, h1, c1, h2, _⟩ := q
 (repeat refine sb ?_)
 exact ⟨base, cap, rfl, h1, c1, h2⟩
set_option maxHeartbeats 2000000 in
theorem rows13_w {s : SS} {l : List UInt8} (f : Fine s) (hl : l.length ≤ 10000) : CallW pr n_lines_rows [str l] s fun v s' =>
  ∃ W, v = .slice W (saF l).length 0 ∧ RwO s' W (saF l) ∧ (∀ id ∈ blkOf W, s.next ≤ id) ∧ Chg s s' [] := by
 refine CallW.pieces (nt := 70) (res := [.tmp 2]) (c := .seq code_KR_R0 (.scope (.seq (.label 0) code_KR_X))) (by kernel_rfl) (by kernel_rfl) (by kernel_rfl) (by kernel_rfl) (by simp) ?_
 refine W.seq (comp_ok good ok_KR_R0 (Box.out (p := wp pr 70 s.next _ _ _ _) ?_))
 (try (first|refine pSeq ?_|refine pReg ?_)); (repeat(first|refine sb ?_|refine kNo ?_|refine gOn rfl ?_|refine gOff rfl rfl ?_|refine gTup rfl ?_))
 refine W.scope (k := s.next) (W.seq (k := s.next) (W.label (k := s.next) ?_))
 refine comp_ok good ok_KR_X (Box.out (p := wp pr 70 s.next _ _ _ _) ?_)
 (try (first|refine pSeq ?_|refine pReg ?_)); (repeat(first|refine sb ?_|refine kNo ?_|refine gOn rfl ?_|refine gOff rfl rfl ?_|refine gTup rfl ?_))
 refine (strings_split_w (by omega)).mono fun v s1 q => ?_
 obtain ⟨base, cap, rfl, h1, c1, hB⟩ := q
 have hpl := fun x => part_le (c := 10) (l := l) (x := x)
 have hnl := splitN_len 10 l
 have hrw := rw_0 l
 generalize hls : splitF 10 l = ls at *
 obtain ⟨b, rfl, cs, t, g, r, hb, hcs⟩ := h1.at
 have lb : b < s1.next := by obtain ⟨b', _, _, _, _, e, q, _⟩ := h1; cases e; exact q
 (repeat(first|refine sb ?_|refine kNo ?_|refine gOn rfl ?_|refine gOff rfl rfl ?_|refine gTup rfl ?_))
 refine pLoop (MW.head good (fun x : RowIx => ls.length - x.i) (fun x => x.i ≤ ls.length ∧ RwO x.s x.W x.R ∧ Chg s1 x.s [] ∧ (∀ id ∈ blkOf x.W, s1.next ≤ id) ∧ rwI x.R x.i (ls.drop x.i) = saF l ∧ (∀ y ∈ x.R, y.t.length ≤ bigS x.i) ∧ x.R.length ≤ x.i)
  (fun x => [(2, .slice x.W x.R.length 0), (8, .slice (some ⟨b, 0, none⟩) ls.length cap), (9, .int .i64 (ls.length : Int)), (10, .int .i64 (x.i : Int))]) (fun x => x.s) ⟨0, [], none, s1⟩ ⟨Nat.zero_le _, ⟨rfl, rfl, rfl⟩, .refl _ _, by simp [blkOf], hrw, by simp, by simp⟩ (Wk.same ⟨rfl, rfl, rfl, rfl, trivial⟩) ?_)
 rintro ⟨i, R, W, s2⟩ ⟨hi, o2, c2, hW, hR, hRl, hRi⟩
 dsimp only at hi o2 c2 hW hR hRl hRi ⊢
 (repeat(first|refine sb ?_|refine kNo ?_|refine gOn rfl ?_|refine gOff rfl rfl ?_|refine gTup rfl ?_))
 intro q hq
 by_cases hlt : i < ls.length
 ·obtain rfl : q = true := by rw [hq]; simp; omega
  obtain ⟨x, hx⟩ : ∃ x, ls[i]? = some x := ⟨_, List.getElem?_eq_getElem hlt⟩
  have hxl := hpl x (List.mem_of_getElem? hx)
  have hb2 := c2.blk _ _ lb (by simp) hb
  have hbn := bigS_next i
  have hbl := bigS_le (i := i) (by omega)
  rw [List.drop_eq_getElem_cons hlt, show ls[i] = x from by rw [List.getElem?_eq_getElem hlt] at hx; exact Option.some.inj hx] at hR
  (repeat(first|refine sb ?_|refine kNo ?_|refine gOn rfl ?_|refine gOff rfl rfl ?_|refine gTup rfl ?_))
  refine ⟨by omega, ?_⟩
  intro m hm o ho
  obtain rfl : m = i := by omega
  (repeat(first|refine sb ?_|refine kNo ?_|refine gOn rfl ?_|refine gOff rfl rfl ?_|refine gTup rfl ?_))
  refine ldS_is (l := x) rfl hb2 (by rw [ho, Nat.mul_one, Nat.zero_add]; exact hcs m x hx) ?_
  (repeat(first|refine sb ?_|refine kNo ?_|refine gOn rfl ?_|refine gOff rfl rfl ?_|refine gTup rfl ?_))
  refine (trimSuffix13_w (by omega)).mono fun v s q => ?_
  obtain ⟨rfl, rfl⟩ := q
  have hln := ln_len x
  (repeat(first|refine sb ?_|refine kNo ?_|refine gOn rfl ?_|refine gOff rfl rfl ?_|refine gTup rfl ?_))
  refine (Trim_w (by omega)).mono fun v s3 q => ?_
  obtain ⟨rfl, c3⟩ := q
  rw [trimF_trB]
  have o3 := o2.chg c3 (fun _ _ q => by cases q)
  have c23 := c2.nil c3
  (repeat(first|refine sb ?_|refine kNo ?_|refine gOn rfl ?_|refine gOff rfl rfl ?_|refine gTup rfl ?_))
  intro z hz
  rw [i64_id (by omega)] at hz
  (repeat(first|refine sb ?_|refine kNo ?_|refine gOn rfl ?_|refine gOff rfl rfl ?_|refine gTup rfl ?_))
  intro q hq
  by_cases hi0 : trB (lnE x) = []
  ·obtain rfl : q = true := by rw [hq, hi0]; rfl
   (repeat(first|refine sb ?_|refine kNo ?_|refine gOn rfl ?_|refine gOff rfl rfl ?_|refine gTup rfl ?_))
   intro z2 hz2
   rw [i64_id (by omega)] at hz2
   (repeat(first|refine sb ?_|refine kNo ?_|refine gOn rfl ?_|refine gOff rfl rfl ?_|refine gTup rfl ?_))
   refine ⟨⟨m + 1, R, W, s3⟩, ⟨by show m + 1 ≤ ls.length; omega, o3, c23, hW, by show rwI R (m + 1) _ = _; rw [← hR]; exact (rw_pass (.inl hi0)).symm, fun y hy => by have := hRl y hy; dsimp only; omega, by show R.length ≤ m + 1; omega⟩, by show ls.length - (m + 1) < ls.length - m; omega, Wk.same ⟨rfl, rfl, rfl, ?_, trivial⟩⟩
   rw [show z2 = ((m + 1 : Nat) : Int) by omega]; rfl
  ·obtain rfl : q = false := by rw [hq]; simp [hi0]
   (repeat(first|refine sb ?_|refine kNo ?_|refine gOn rfl ?_|refine gOff rfl rfl ?_|refine gTup rfl ?_))
   refine prefix_w.mono fun v s3 q => ?_
   obtain ⟨rfl, rfl⟩ := q
   by_cases hi1 : (trB (lnE x)).take 1 = [35]
   ·rw [show decide ((trB (lnE x)).take [(35 : UInt8)].length = [35]) = true from decide_eq_true hi1]
    (repeat(first|refine sb ?_|refine kNo ?_|refine gOn rfl ?_|refine gOff rfl rfl ?_|refine gTup rfl ?_))
    intro z2 hz2
    rw [i64_id (by omega)] at hz2
    (repeat(first|refine sb ?_|refine kNo ?_|refine gOn rfl ?_|refine gOff rfl rfl ?_|refine gTup rfl ?_))
    refine ⟨⟨m + 1, R, W, s3⟩, ⟨by show m + 1 ≤ ls.length; omega, o3, c23, hW, by show rwI R (m + 1) _ = _; rw [← hR]; exact (rw_pass ((pass_is (lnE x)).2 (.inr hi1))).symm, fun y hy => by have := hRl y hy; dsimp only; omega, by show R.length ≤ m + 1; omega⟩, by show ls.length - (m + 1) < ls.length - m; omega, Wk.same ⟨rfl, rfl, rfl, ?_, trivial⟩⟩
    rw [show z2 = ((m + 1 : Nat) : Int) by omega]; rfl
   ·rw [show decide ((trB (lnE x)).take [(35 : UInt8)].length = [35]) = false from decide_eq_false hi1]
    have hnp : ¬(trB (lnE x) = [] ∨ (trB (lnE x)).head? = some 35) := fun q => ((pass_is (lnE x)).1 q).elim hi0 hi1
    obtain ⟨c, r1, d, q1, hL, hI, hcd⟩ := heads hi0
    (repeat(first|refine sb ?_|refine kNo ?_|refine gOn rfl ?_|refine gOff rfl rfl ?_|refine gTup rfl ?_))
    refine ⟨⟨Int.le_refl _, by rw [hL, List.length_cons]; omega⟩, ?_⟩
    intro m1 hm1
    obtain rfl : m1 = 0 := by omega
    refine ⟨c, by rw [hL]; rfl, ?_⟩
    (repeat(first|refine sb ?_|refine kNo ?_|refine gOn rfl ?_|refine gOff rfl rfl ?_|refine gTup rfl ?_))
    refine ⟨⟨Int.le_refl _, by rw [hI, List.length_cons]; omega⟩, ?_⟩
    intro m1 hm1
    obtain rfl : m1 = 0 := by omega
    refine ⟨d, by rw [hI]; rfl, ?_⟩
    (repeat(first|refine sb ?_|refine kNo ?_|refine gOn rfl ?_|refine gOff rfl rfl ?_|refine gTup rfl ?_))
    intro q hq
    by_cases he : c = d
    ·have hct : ctB (lnE x) = false := hcd.2 he
     obtain rfl : q = true := by rw [hq, he]; exact decide_eq_true rfl
     (repeat(first|refine sb ?_|refine kNo ?_|refine gOn rfl ?_|refine gOff rfl rfl ?_|refine gTup rfl ?_))
     intro z1 hz1
     rw [i64_id (by omega)] at hz1
     obtain rfl : z1 = ((m + 1 : Nat) : Int) := by omega
     (repeat(first|refine sb ?_|refine kNo ?_|refine gOn rfl ?_|refine gOff rfl rfl ?_|refine gTup rfl ?_))
     have c0 : Chg s3 { s3 with heap := (s3.next, some (.cells (saC (⟨m + 1, lnE x, false⟩ : Sai)) tRw13 false false)) :: s3.heap, next := s3.next + 1 } [] := .new []
     refine appR (o3.chg c0 (fun _ _ q => by cases q)) (saCs_len R) ⟨by omega, by omega⟩ rfl rfl lkH rfl rfl fun s4 o4 c4 n4 => ?_
     have c34 := c0.nil c4
     (repeat(first|refine sb ?_|refine kNo ?_|refine gOn rfl ?_|refine gOff rfl rfl ?_|refine gTup rfl ?_))
     intro z2 hz2
     rw [i64_id (by omega)] at hz2
     (repeat(first|refine sb ?_|refine kNo ?_|refine gOn rfl ?_|refine gOff rfl rfl ?_|refine gTup rfl ?_))
     refine ⟨⟨m + 1, R ++ [(⟨m + 1, lnE x, false⟩ : Sai)], some ⟨s3.next + 1, 0, none⟩, s4⟩, ⟨by show m + 1 ≤ ls.length; omega, ?_, c23.fresh c34 hW, fun id q => by simp [blkOf] at q; have := c23.next; omega, ?_, ?_, by show (R ++ [(⟨m + 1, lnE x, false⟩ : Sai)]).length ≤ m + 1; rw [List.length_append, List.length_singleton]; omega⟩, by show ls.length - (m + 1) < ls.length - m; omega, Wk.same ⟨?_, rfl, rfl, ?_, trivial⟩⟩
     ·show OwnR tRw13 s4 _ 0 (R ++ [(⟨m + 1, lnE x, false⟩ : Sai)]).length (saCs (R ++ [(⟨m + 1, lnE x, false⟩ : Sai)]))
      rw [List.length_append, saCs_app]
      exact o4
     ·show rwI (R ++ [(⟨m + 1, lnE x, false⟩ : Sai)]) (m + 1) _ = _
      rw [← hR]
      exact (rw_new hnp hct).symm
     ·intro y hy
      dsimp only
      rcases List.mem_append.1 hy with hy | hy
      ·have := hRl y hy; omega
      ·rw [List.mem_singleton.1 hy]
       show (lnE x).length ≤ _
       omega
     ·show some (Value.slice _ (R.length + 1) 0) = some (.slice _ (R ++ [(⟨m + 1, lnE x, false⟩ : Sai)]).length 0)
      rw [len_snoc (R) (⟨m + 1, lnE x, false⟩ : Sai)]
     ·rw [show z2 = ((m + 1 : Nat) : Int) by omega]; rfl
    ·have hct : ctB (lnE x) = true := by cases h : ctB (lnE x) with | true => rfl | false => exact absurd (hcd.1 h) he
     obtain rfl : q = false := by rw [hq]; exact decide_eq_false (fun q => he (UInt8.toNat_inj.1 (by omega)))
     (repeat(first|refine sb ?_|refine kNo ?_|refine gOn rfl ?_|refine gOff rfl rfl ?_|refine gTup rfl ?_))
     intro q hq
     rcases List.eq_nil_or_concat R with rfl | ⟨R', y, hRe⟩
     ·obtain rfl : q = true := by rw [hq]; simp at hz; simp; omega
      have hcur : curR ([] : List Sai) = none := rfl
      (repeat(first|refine sb ?_|refine kNo ?_|refine gOn rfl ?_|refine gOff rfl rfl ?_|refine gTup rfl ?_))
      intro z1 hz1
      rw [i64_id (by omega)] at hz1
      obtain rfl : z1 = ((m + 1 : Nat) : Int) := by omega
      (repeat(first|refine sb ?_|refine kNo ?_|refine gOn rfl ?_|refine gOff rfl rfl ?_|refine gTup rfl ?_))
      have c0 : Chg s3 { s3 with heap := (s3.next, some (.cells (saC (⟨m + 1, [], true⟩ : Sai)) tRw13 false false)) :: s3.heap, next := s3.next + 1 } [] := .new []
      refine appR (o3.chg c0 (fun _ _ q => by cases q)) (saCs_len []) ⟨by omega, by omega⟩ rfl rfl lkH rfl rfl fun s4 o4 c4 n4 => ?_
      have c34 := c0.nil c4
      (repeat(first|refine sb ?_|refine kNo ?_|refine gOn rfl ?_|refine gOff rfl rfl ?_|refine gTup rfl ?_))
      intro z2 hz2
      rw [i64_id (by omega)] at hz2
      (repeat(first|refine sb ?_|refine kNo ?_|refine gOn rfl ?_|refine gOff rfl rfl ?_|refine gTup rfl ?_))
      refine ⟨⟨m + 1, [] ++ [(⟨m + 1, [], true⟩ : Sai)], some ⟨s3.next + 1, 0, none⟩, s4⟩, ⟨by show m + 1 ≤ ls.length; omega, ?_, c23.fresh c34 hW, fun id q => by simp [blkOf] at q; have := c23.next; omega, ?_, ?_, by show ([] ++ [(⟨m + 1, [], true⟩ : Sai)]).length ≤ m + 1; rw [List.length_append, List.length_singleton]; omega⟩, by show ls.length - (m + 1) < ls.length - m; omega, Wk.same ⟨?_, rfl, rfl, ?_, trivial⟩⟩
      ·show OwnR tRw13 s4 _ 0 ([] ++ [(⟨m + 1, [], true⟩ : Sai)]).length (saCs ([] ++ [(⟨m + 1, [], true⟩ : Sai)]))
       rw [List.length_append, saCs_app]
       exact o4
      ·show rwI ([] ++ [(⟨m + 1, [], true⟩ : Sai)]) (m + 1) _ = _
       rw [← hR]
       exact (rw_stray hnp hct hcur).symm
      ·intro y hy
       dsimp only
       rcases List.mem_append.1 hy with hy | hy
       ·have := hRl y hy; omega
       ·rw [List.mem_singleton.1 hy]
        show ([] : List UInt8).length ≤ _
        simp
      ·show some (Value.slice _ (([] : List Sai).length + 1) 0) = some (.slice _ ([] ++ [(⟨m + 1, [], true⟩ : Sai)]).length 0)
       rw [len_snoc [] (⟨m + 1, [], true⟩ : Sai)]
      ·rw [show z2 = ((m + 1 : Nat) : Int) by omega]; rfl
     ·obtain rfl : R = R' ++ [y] := by rw [hRe, List.concat_eq_append]
      have hlen : (R' ++ [y]).length = R'.length + 1 := by rw [List.length_append, List.length_singleton]
      obtain rfl : q = false := by rw [hq]; simp; omega
      obtain ⟨wb, g2, rfl, kb⟩ := o3.pos (by omega)
      (repeat(first|refine sb ?_|refine kNo ?_|refine gOn rfl ?_|refine gOff rfl rfl ?_|refine gTup rfl ?_))
      refine ⟨by omega, ?_⟩
      intro m2 hm2 o2' ho2
      obtain rfl : m2 = R'.length := by omega
      (repeat(first|refine sb ?_|refine kNo ?_|refine gOn rfl ?_|refine gOff rfl rfl ?_|refine gTup rfl ?_))
      refine ldB_is (z := y.al) rfl kb (by rw [ho2, Nat.zero_add]; exact saCs_last R' y 2) ?_
      cases hya : y.al with
      | true =>
       have hcur : curR (R' ++ [y]) = none := by rw [curR_app, if_pos hya]
       (repeat(first|refine sb ?_|refine kNo ?_|refine gOn rfl ?_|refine gOff rfl rfl ?_|refine gTup rfl ?_))
       intro z1 hz1
       rw [i64_id (by omega)] at hz1
       obtain rfl : z1 = ((m + 1 : Nat) : Int) := by omega
       (repeat(first|refine sb ?_|refine kNo ?_|refine gOn rfl ?_|refine gOff rfl rfl ?_|refine gTup rfl ?_))
       have c0 : Chg s3 { s3 with heap := (s3.next, some (.cells (saC (⟨m + 1, [], true⟩ : Sai)) tRw13 false false)) :: s3.heap, next := s3.next + 1 } [] := .new []
       refine appR (o3.chg c0 (fun _ _ q => by cases q)) (saCs_len (R' ++ [y])) ⟨by omega, by omega⟩ rfl rfl lkH rfl rfl fun s4 o4 c4 n4 => ?_
       have c34 := c0.nil c4
       (repeat(first|refine sb ?_|refine kNo ?_|refine gOn rfl ?_|refine gOff rfl rfl ?_|refine gTup rfl ?_))
       intro z2 hz2
       rw [i64_id (by omega)] at hz2
       (repeat(first|refine sb ?_|refine kNo ?_|refine gOn rfl ?_|refine gOff rfl rfl ?_|refine gTup rfl ?_))
       refine ⟨⟨m + 1, (R' ++ [y]) ++ [(⟨m + 1, [], true⟩ : Sai)], some ⟨s3.next + 1, 0, none⟩, s4⟩, ⟨by show m + 1 ≤ ls.length; omega, ?_, c23.fresh c34 hW, fun id q => by simp [blkOf] at q; have := c23.next; omega, ?_, ?_, by show ((R' ++ [y]) ++ [(⟨m + 1, [], true⟩ : Sai)]).length ≤ m + 1; rw [List.length_append, List.length_singleton]; omega⟩, by show ls.length - (m + 1) < ls.length - m; omega, Wk.same ⟨?_, rfl, rfl, ?_, trivial⟩⟩
       ·show OwnR tRw13 s4 _ 0 ((R' ++ [y]) ++ [(⟨m + 1, [], true⟩ : Sai)]).length (saCs ((R' ++ [y]) ++ [(⟨m + 1, [], true⟩ : Sai)]))
        rw [List.length_append, saCs_app]
        exact o4
       ·show rwI ((R' ++ [y]) ++ [(⟨m + 1, [], true⟩ : Sai)]) (m + 1) _ = _
        rw [← hR]
        exact (rw_stray hnp hct hcur).symm
       ·intro y hy
        dsimp only
        rcases List.mem_append.1 hy with hy | hy
        ·have := hRl y hy; omega
        ·rw [List.mem_singleton.1 hy]
         show ([] : List UInt8).length ≤ _
         simp
       ·show some (Value.slice _ ((R' ++ [y]).length + 1) 0) = some (.slice _ ((R' ++ [y]) ++ [(⟨m + 1, [], true⟩ : Sai)]).length 0)
        rw [len_snoc (R' ++ [y]) (⟨m + 1, [], true⟩ : Sai)]
       ·rw [show z2 = ((m + 1 : Nat) : Int) by omega]; rfl
      | false =>
       (repeat(first|refine sb ?_|refine kNo ?_|refine gOn rfl ?_|refine gOff rfl rfl ?_|refine gTup rfl ?_))
       refine ⟨by omega, ?_⟩
       intro m2 hm2 o2' ho2
       obtain rfl : m2 = R'.length := by omega
       (repeat(first|refine sb ?_|refine kNo ?_|refine gOn rfl ?_|refine gOff rfl rfl ?_|refine gTup rfl ?_))
       refine ldS_is (l := y.t) rfl kb (by rw [ho2, Nat.zero_add]; exact saCs_last R' y 1) ?_
       have hyl : y.t.length ≤ bigS m := hRl y (by simp)
       have htl := trB_len (lnE x)
       (repeat(first|refine sb ?_|refine kNo ?_|refine gOn rfl ?_|refine gOff rfl rfl ?_|refine gTup rfl ?_))
       refine ⟨by simp only [List.length_cons, List.length_nil]; omega, ?_⟩
       intro w1 hw1
       subst hw1
       (repeat(first|refine sb ?_|refine kNo ?_|refine gOn rfl ?_|refine gOff rfl rfl ?_|refine gTup rfl ?_))
       refine ⟨by simp only [List.length_append, List.length_cons, List.length_nil]; omega, ?_⟩
       intro w1 hw1
       subst hw1
       (repeat(first|refine sb ?_|refine kNo ?_|refine gOn rfl ?_|refine gOff rfl rfl ?_|refine gTup rfl ?_))
       refine ⟨by omega, ?_⟩
       intro m3 hm3 o3' ho3
       obtain rfl : m3 = R'.length := by omega
       (repeat(first|refine sb ?_|refine kNo ?_|refine gOn rfl ?_|refine gOff rfl rfl ?_|refine gTup rfl ?_))
       refine st_abs (cs' := saCs (R' ++ [(⟨y.n, y.t ++ 32 :: trB (lnE x), false⟩ : Sai)])) rfl rfl kb o3.2.2.1 rfl ?_ fun s4 e4 c4 n4 => ?_
       ·rw [ho3, Nat.zero_add]
        refine (setRow_one (by rw [saCs_len, List.length_append, List.length_singleton]; omega)).trans ?_
        rw [saCs_app, saCs_app, List.set_append_right _ _ (by rw [saCs_len]; omega), saCs_len, show R'.length * 3 + 1 - R'.length * 3 = 1 by omega]
        obtain ⟨a1, a2, a3⟩ := y
        obtain rfl : a3 = false := hya
        rfl
       (repeat(first|refine sb ?_|refine kNo ?_|refine gOn rfl ?_|refine gOff rfl rfl ?_|refine gTup rfl ?_))
       intro z2 hz2
       rw [i64_id (by omega)] at hz2
       (repeat(first|refine sb ?_|refine kNo ?_|refine gOn rfl ?_|refine gOff rfl rfl ?_|refine gTup rfl ?_))
       refine ⟨⟨m + 1, R' ++ [(⟨y.n, y.t ++ 32 :: trB (lnE x), false⟩ : Sai)], some ⟨wb, 0, none⟩, s4⟩, ⟨by show m + 1 ≤ ls.length; omega, ?_, c23.fresh c4 (fun id q => hW id q), hW, ?_, ?_, by show (R' ++ [_]).length ≤ m + 1; rw [List.length_append, List.length_singleton]; omega⟩, by show ls.length - (m + 1) < ls.length - m; omega, Wk.same ⟨?_, rfl, rfl, ?_, trivial⟩⟩
       ·show OwnR tRw13 s4 _ 0 (R' ++ [_]).length (saCs (R' ++ [_]))
        rw [List.length_append] at o3 ⊢
        exact ownR_set o3 (by simp) e4 (by have := o3.2.2.1; omega) kb
       ·show rwI (R' ++ [_]) (m + 1) _ = _
        rw [← hR]
        exact (rw_on hnp hct hya).symm
       ·intro z hz
        dsimp only
        rcases List.mem_append.1 hz with hz | hz
        ·have := hRl z (by simp [hz]); omega
        ·rw [List.mem_singleton.1 hz]
         show (y.t ++ 32 :: trB (lnE x)).length ≤ _
         rw [List.length_append, List.length_cons]
         omega
       ·show some (Value.slice _ (R' ++ [y]).length 0) = some (.slice _ (R' ++ [_]).length 0)
        rw [List.length_append, List.length_append]
        rfl
       ·rw [show z2 = ((m + 1 : Nat) : Int) by omega]; rfl
 ·obtain rfl : q = false := by rw [hq]; simp; omega
  obtain rfl : i = ls.length := by omega
  rw [List.drop_length, rw_end] at hR
  subst hR
  (repeat(first|refine sb ?_|refine kNo ?_|refine gOn rfl ?_|refine gOff rfl rfl ?_|refine gTup rfl ?_))
  exact ⟨W, rfl, o2, fun id q => by have := hW id q; have := c1.next; omega, c1.nil c2⟩
end Go.Vf.S
end
section
namespace Go.Vf.S
open Go Go.Vf Go.Proofs Go.RowKit
attribute [local irreducible] wSeq wRow wp wG
set_option linter.unusedVariables false
set_option linter.unusedSimpArgs false
set_option maxRecDepth 10000
theorem fold_eq (x y : UInt8) : Lib.foldEq x y = decide (lowB x = lowB y) := by
 unfold Lib.foldEq
 rw [Bool.eq_iff_iff]
 simp only [decide_eq_true_eq]
 have e : ∀ c : UInt8, (lowB c).toNat = if 65 ≤ c.toNat ∧ c.toNat ≤ 90 then c.toNat + 32 else c.toNat := by
  intro c
  by_cases h : upB c = true
  ·rw [lowB_up h, if_pos (by simpa [upB] using h)]
  ·rw [lowB_no h, if_neg (by simpa [upB] using h)]
 rw [← UInt8.toNat_inj, e, e]
 split <;> split <;> omega
theorem fold_is : ∀ l m : List UInt8, Lib.equalFold l m = decide (lwF l = lwF m)
 | [], [] => rfl
 | [], y :: m => by simp [Lib.equalFold, lwF]
 | x :: l, [] => by simp [Lib.equalFold, lwF]
 | x :: l, y :: m => by
  rw [Lib.equalFold, fold_eq, fold_is l m, Bool.eq_iff_iff]
  simp only [Bool.and_eq_true, decide_eq_true_eq, lwF, List.map_cons, List.cons.injEq]
  exact ⟨fun ⟨a, b⟩ => ⟨a, of_decide_eq_true b⟩, fun ⟨a, b⟩ => ⟨a, decide_eq_true b⟩⟩
theorem equalFold13_w {s : SS} {l m : List UInt8} (hl : l.length ≤ 1000000) (ha : asc l) (hm : asc m) : CallW pr 108 [str l, str m] s fun v s' => v = .bool (decide (lwF l = lwF m)) ∧ s' = s := by
 rw [← fold_is]
 refine CallW.kit rfl fun B w0 ρ args' w H hr => ?_
 obtain ⟨v1, v2, rfl, q1, q2⟩ := lrel_2 hr
 obtain rfl := str_inv q1
 obtain rfl := str_inv q2
 exact (Any.strings_EqualFold Tryz.lays164 ⟨⟨l⟩⟩ ⟨⟨m⟩⟩ w (by show l.length < _; omega) (asc_at ha) (asc_at hm)).mono fun e w' ⟨q, r⟩ => ⟨q, by rw [r]; exact Below.refl _ _⟩
structure EnV where
 e : Ent
 W : Option Addr
def enC (x : EnV) : List Value := [.int .i64 (x.e.n : Int), str x.e.k, .slice x.W x.e.vs.length 0]
def enCs (xs : List EnV) : List Value := xs.flatMap enC
theorem enCs_len (R : List EnV) : (enCs R).length = R.length * 3 := by
 unfold enCs
 induction R with
 | nil => rfl
 | cons x R ih => rw [List.flatMap_cons, List.length_append, ih, List.length_cons]; simp [enC]; omega
theorem enCs_app (R : List EnV) (x : EnV) : enCs (R ++ [x]) = enCs R ++ enC x := by unfold enCs; rw [List.flatMap_append]; simp
theorem enCs_drop (R : List EnV) (k : Nat) : (enCs R).drop (k * 3) = enCs (R.drop k) := by
 unfold enCs
 induction R generalizing k with
 | nil => simp
 | cons x R ih =>
  cases k with
  | zero => simp
  | succ k =>
   rw [List.drop_succ_cons, ← ih k, List.flatMap_cons, List.drop_append, show (k + 1) * 3 = (enC x).length + k * 3 by simp [enC]; omega, List.drop_of_length_le (by omega), List.nil_append]
   congr 1
   omega
theorem enCs_take {R : List EnV} {k : Nat} {x : EnV} (h : R[k]? = some x) : takeN 3 ((enCs R).drop (k * 3)) = some (enC x) := by
 obtain ⟨hk, e⟩ := List.getElem?_eq_some_iff.1 h
 rw [enCs_drop, List.drop_eq_getElem_cons hk, e]
 rfl
def EsR (s : SS) (W : Option Addr) (xs : List EnV) : Prop := (xs = [] ∨ ∃ b t g r, W = some ⟨b, 0, none⟩ ∧ b < s.next ∧ lookH s.heap b = some (.cells (enCs xs) t g r))
theorem EsR.chg {s s' : SS} {W : Option Addr} {xs : List EnV} {A : List Nat} (h : EsR s W xs) (c : Chg s s' A) (hA : ∀ id ∈ blkOf W, id ∉ A) : EsR s' W xs := by
 rcases h with h | ⟨b, t, g, r, rfl, h1, h2⟩
 ·exact .inl h
 ·exact .inr ⟨b, t, g, r, rfl, Nat.lt_of_lt_of_le h1 c.next, c.blk _ _ h1 (hA b (by simp [blkOf])) h2⟩
abbrev EsO (s : SS) (W : Option Addr) (xs : List EnV) : Prop := OwnR tEn13 s W 0 xs.length (enCs xs)
theorem EsO.rd {s : SS} {W : Option Addr} {xs : List EnV} (h : EsO s W xs) : EsR s W xs := by
 cases W with
 | none => exact .inl (List.eq_nil_of_length_eq_zero h.2.1)
 | some a =>
  obtain ⟨b, off, sp⟩ := a
  obtain ⟨rfl, rfl, h3, g, h4, _⟩ := h
  exact .inr ⟨b, _, _, _, rfl, h3, h4⟩
abbrev clT (c : Nat) : Value := .func (.func n_lines_there_1) #[] #[ptrV c]
theorem gen_mf {T : TL} {s : SS} {K : RR → Prop} {g : Nat} {c : Tmp} {u : Value} (hc : look T c = some u) (hK : K (.val (.func (.func g) #[] #[u]))) : wN pr (.gen (.makeFunc (.func g) #[] #[.tmp c])) T s K := by
 refine ⟨.val (.func (.func g) #[] #[u]), ?_, hK⟩
 simp only [aOp, operands, operand, toTr_get, hc]
 rfl
theorem gen_th {T : TL} {s : SS} {K : RR → Prop} {x a : Tmp} {ts : Array TypeId} {u : Value} {c : Nat} (hx : look T x = some (clT c)) (ha : look T a = some u) (hK : K (.call n_lines_there_1 [u, ptrV c])) : wN pr (.gen (.call ⟨.value (.tmp x), #[.tmp a], ts⟩)) T s K := by
 refine ⟨.call n_lines_there_1 [u, ptrV c], ?_, hK⟩
 simp only [aOp, operand, operands, toTr_get, hx, ha]
 exact (show callV pr (clT c) [u] = some (.enter n_lines_there_1 ([] ++ [u] ++ [ptrV c])) by kernel_rfl)
theorem there1_w {s : SS} {x : EnV} {c : Nat} {k : List UInt8} {t : TypeId} (f : Fine s) (hc : lookH s.heap c = some (.cells [str k] t false false)) (lc : c < s.next) (hl : x.e.k.length ≤ 100000) (ha : asc x.e.k) (hk : asc k) :
  CallW pr n_lines_there_1 [.agg ⟨enC x⟩, ptrV c] s fun v s' => v = .bool (decide (lwF x.e.k = lwF k)) ∧ Chg s s' [] := by
 refine CallW.run good ok_lines_there_1 (by simp) rfl ?_
 have c0 : Chg s { s with heap := (s.next, some (.cells (enC x) tEn13 false false)) :: s.heap, next := s.next + 1 } [] := .new []
 (try refine pSeq ?_); (repeat refine sb ?_)
 refine ldS_is (l := x.e.k) rfl lkH rfl ?_
 (repeat refine sb ?_)
 refine ldS_is (l := k) rfl (c0.blk _ _ lc (by simp) hc) rfl ?_
 (repeat refine sb ?_)
 refine (equalFold13_w (by omega) ha hk).mono fun v s q => ?_
 obtain ⟨rfl, rfl⟩ := q
 (repeat refine sb ?_)
 exact ⟨rfl, c0⟩
def hasV (xs : List EnV) (k : List UInt8) : Bool := xs.any fun z => decide (lwF z.e.k = lwF k)
theorem ixth_w {s : SS} {W : Option Addr} {xs : List EnV} {c cw : Nat} {k : List UInt8} {t : TypeId} (f : Fine s) (hc : lookH s.heap c = some (.cells [str k] t false false)) (lc : c < s.next) (hx : EsR s W xs) (hn : xs.length ≤ 100000) (ha : ∀ x ∈ xs, asc x.e.k ∧ x.e.k.length ≤ 100000) (hk : asc k) :
  CallW pr n_slices_IndexFunc_lines_Entry_lines_Entry [.slice W xs.length cw, clT c] s fun v s' => (∃ z : Int, v = .int .i64 z ∧ decide (0 ≤ z) = hasV xs k) ∧ Chg s s' [] := by
 refine CallW.run good ok_slices_IndexFunc_lines_Entry_lines_Entry (by simp) rfl ?_
 (try refine pSeq ?_); (repeat refine sb ?_)
 refine pLoop (MW.head good (fun x : Nat × SS => xs.length - x.1) (fun x => x.1 ≤ xs.length ∧ hasV (xs.take x.1) k = false ∧ Chg s x.2 []) (fun x => [(0, .slice W xs.length cw), (1, clT c), (7, .int .i64 (xs.length : Int)), (8, .int .i64 (x.1 : Int))]) (fun x => x.2) (0, s) ⟨Nat.zero_le _, rfl, .refl _ _⟩ (Wk.same ⟨rfl, rfl, rfl, rfl, trivial⟩) ?_)
 rintro ⟨i, s1⟩ ⟨hi, h0, c1⟩
 dsimp only at hi h0 c1 ⊢
 (repeat refine sb ?_)
 intro q hq
 by_cases hlt : i < xs.length
 ·obtain rfl : q = true := by rw [hq]; simp; omega
  obtain ⟨x, hxi⟩ : ∃ x, xs[i]? = some x := ⟨_, List.getElem?_eq_getElem hlt⟩
  obtain ⟨b, tb, g, r, rfl, lb, hb⟩ := hx.resolve_left (fun e => by rw [e] at hlt; simp at hlt)
  have hm := List.mem_of_getElem? hxi
  have hb1 := c1.blk _ _ lb (by simp) hb
  have e : hasV (xs.take (i + 1)) k = decide (lwF x.e.k = lwF k) := by
   unfold hasV at h0 ⊢
   rw [List.take_add_one, hxi, List.any_append, h0]
   simp
  (repeat refine sb ?_)
  refine ⟨by omega, ?_⟩
  intro m hm2 o ho
  obtain rfl : m = i := by omega
  (repeat refine sb ?_)
  refine ldN_is rfl hb1 (by rw [ho, Nat.zero_add]; exact enCs_take hxi) ?_
  (repeat refine sb ?_)
  refine gen_th rfl rfl ?_
  (repeat refine sb ?_)
  refine (there1_w (c1.fine f) (c1.blk _ _ lc (by simp) hc) (Nat.lt_of_lt_of_le lc c1.next) (ha x hm).2 (ha x hm).1 hk).mono fun v s2 q => ?_
  obtain ⟨rfl, c2⟩ := q
  by_cases he : lwF x.e.k = lwF k
  ·rw [show decide (lwF x.e.k = lwF k) = true from decide_eq_true he]
   (repeat refine sb ?_)
   refine ⟨⟨_, rfl, ?_⟩, c1.nil c2⟩
   have : hasV xs k = true := by
    unfold hasV
    exact List.any_eq_true.2 ⟨x, hm, decide_eq_true he⟩
   rw [this]
   exact decide_eq_true (Int.natCast_nonneg m)
  ·rw [show decide (lwF x.e.k = lwF k) = false from decide_eq_false he] at e ⊢
   (repeat refine sb ?_)
   intro z hz
   rw [i64_id (by omega)] at hz
   (repeat refine sb ?_)
   exact ⟨(m + 1, s2), ⟨by show m + 1 ≤ xs.length; omega, e, c1.nil c2⟩, by show xs.length - (m + 1) < xs.length - m; omega, Wk.same ⟨rfl, rfl, rfl, by rw [show z = ((m + 1 : Nat) : Int) by omega]; rfl, trivial⟩⟩
 ·obtain rfl : q = false := by rw [hq]; simp; omega
  obtain rfl : i = xs.length := by omega
  rw [List.take_length] at h0
  (repeat refine sb ?_)
  exact ⟨⟨_, rfl, by rw [h0]; rfl⟩, c1⟩
theorem there_w {s : SS} {W : Option Addr} {xs : List EnV} {cw : Nat} {k : List UInt8} (f : Fine s) (hx : EsR s W xs) (hn : xs.length ≤ 100000) (ha : ∀ x ∈ xs, asc x.e.k ∧ x.e.k.length ≤ 100000) (hk : asc k) :
  CallW pr n_lines_there [.slice W xs.length cw, str k] s fun v s' => v = .bool (hasV xs k) ∧ Chg s s' [] := by
 refine CallW.run good ok_lines_there (by simp) rfl ?_
 have c0 : Chg s { s with heap := (s.next, some (.cells [str k] tS false false)) :: s.heap, next := s.next + 1 } [] := .new []
 (try refine pSeq ?_); (repeat refine sb ?_)
 refine gen_mf rfl ?_
 (repeat refine sb ?_)
 refine (show CallW pr n_slices_ContainsFunc_lines_Entry_lines_Entry [.slice W xs.length cw, clT s.next] _ fun v s' => v = .bool (hasV xs k) ∧ Chg s s' [] from ?_).mono fun v s1 q => ?_
 ·refine CallW.run good ok_slices_ContainsFunc_lines_Entry_lines_Entry (by simp) rfl ?_
  (try refine pSeq ?_); (repeat refine sb ?_)
  refine (ixth_w (c0.fine f) lkH (Nat.lt_succ_self _) (hx.chg c0 (fun _ _ q => by cases q)) hn ha hk).mono fun v s1 q => ?_
  obtain ⟨⟨z, rfl, hz⟩, c1⟩ := q
  (repeat refine sb ?_)
  intro q hq
  (repeat refine sb ?_)
  exact ⟨by rw [hq, hz]; rfl, c0.nil c1⟩
 ·obtain ⟨rfl, c1⟩ := q
  (repeat refine sb ?_)
  exact ⟨rfl, c1⟩
end Go.Vf.S
end
