import Derived.Test.YtioildcpkcijkaaDoorFrE
import Derived.Test.YtioildcpkcijkaaDoorEngBd
/- The frames' forms. -/
namespace Go.Vf.S
open Go Go.Vf Go.Vf.Fr
attribute [local irreducible] wSeq wRow wp wG
set_option linter.unusedVariables false
set_option linter.unusedSimpArgs false
set_option maxRecDepth 10000

/-- What was there stays. -/
structure Old (s s' : SS) : Prop where
  gl : s'.gl = s.gl
  next : s.next ≤ s'.next
  blk : ∀ id b, id < s.next → lookH s.heap id = some b → lookH s'.heap id = some b
  fine : Fine s → Fine s'

theorem Old.refl (s : SS) : Old s s := ⟨rfl, Nat.le_refl _, fun _ _ _ h => h, fun f => f⟩
theorem Old.trans {a b c : SS} (h : Old a b) (k : Old b c) : Old a c := ⟨k.gl.trans h.gl, Nat.le_trans h.next k.next, fun id x hid hx => k.blk id x (Nat.lt_of_lt_of_le hid h.next) (h.blk id x hid hx), fun f => k.fine (h.fine f)⟩
theorem Rdb_old {s s' : SS} {base : Option Addr} {n : Nat} {l : List UInt8} (h : Rdb s base n l) (o : Old s s') : Rdb s' base n l := Rdb.step h o.next o.blk
theorem Pre.old {s s' : SS} {base : Option Addr} {n : Nat} {l : List UInt8} (h : Pre s base n l) (o : Old s s') : Pre s' base n l :=
  ⟨o.gl.trans h.gl, o.blk _ _ (by have := h.next; omega) h.steps, Nat.le_trans h.next o.next, Rdb_old h.rd o⟩

theorem repeat_bytes : ∀ n : Nat, repeatL n [.int .u8 0] = bytesV (List.replicate n 0)
  | 0 => rfl
  | n + 1 => by
    have := repeat_bytes n
    show [.int .u8 0] ++ repeatL n [.int .u8 0] = _
    rw [this, List.replicate_succ]
    rfl

def half (n : Nat) : List UInt8 := [UInt8.ofNat (n / 256), UInt8.ofNat n]
def sealS (a k : BitVec 32) (n : Nat) (l : List UInt8) : List UInt8 := half n ++ be4 k ++ be4 (sumS a k n l) ++ l

theorem sealS_len (a k : BitVec 32) (n : Nat) (l : List UInt8) : (sealS a k n l).length = 10 + l.length := by simp [sealS, half, be4]; omega

/-- One block turned, nothing else. -/
structure Upd (s : SS) (b : Nat) (x : ABlk) (s' : SS) : Prop where
  gl : s'.gl = s.gl
  next : s.next ≤ s'.next
  at_ : lookH s'.heap b = some x
  blk : ∀ id y, id < s.next → id ≠ b → lookH s.heap id = some y → lookH s'.heap id = some y
  fine : Fine s → Fine s'

theorem Upd.trans {s s' s'' : SS} {b : Nat} {x y : ABlk} (h : Upd s b x s') (k : Upd s' b y s'') : Upd s b y s'' :=
  ⟨k.gl.trans h.gl, Nat.le_trans h.next k.next, k.at_, fun id z hid hne hz => k.blk id z (Nat.lt_of_lt_of_le hid h.next) hne (h.blk id z hid hne hz), fun f => k.fine (h.fine f)⟩

theorem word_put {s : SS} {b m cap : Nat} {a : List UInt8} (x : BitVec 32) (hbk : lookH s.heap b = some (.cells (bytesV a) 5 false false)) (hlt : b < s.next) (hcap : a.length = cap) (hm : m + 4 ≤ cap) (hb : cap ≤ 4294967296) :
    CallW pr n_frame_word [.slice (some ⟨b, 0, none⟩) m cap, .int .u32 x.toNat] s fun v s' => v = .slice (some ⟨b, 0, none⟩) (m + 4) cap ∧ Upd s b (.cells (bytesV (a.take m ++ be4 x ++ a.drop (m + 4))) 5 false false) s' :=
  (word_room hbk hlt hcap hm hb).mono fun v s' ⟨q1, q2⟩ => ⟨q1, by
    subst q2
    exact ⟨rfl, Nat.le_succ _, look_head, fun id y hid hne hy => look_tail' (fun e => hne e.symm) (look_tail' (by omega) hy), fun f id hid => by
      have hid' : s.next + 1 ≤ id := hid
      exact lkN (by omega) (lkN (by omega) (f id (by omega)))⟩⟩

theorem half_put {s : SS} {b m cap k : Nat} {a : List UInt8} (hk : k < 65536) (hbk : lookH s.heap b = some (.cells (bytesV a) 5 false false)) (hlt : b < s.next) (hcap : a.length = cap) (hm : m + 2 ≤ cap) (hb : cap ≤ 4294967296) :
    CallW pr n_frame_half [.slice (some ⟨b, 0, none⟩) m cap, .int .i64 k] s fun v s' => v = .slice (some ⟨b, 0, none⟩) (m + 2) cap ∧ Upd s b (.cells (bytesV (a.take m ++ half k ++ a.drop (m + 2))) 5 false false) s' :=
  (half_room hk hbk hlt hcap hm hb).mono fun v s' ⟨q1, q2⟩ => ⟨q1, by
    subst q2
    exact ⟨rfl, Nat.le_succ _, look_head, fun id y hid hne hy => look_tail' (fun e => hne e.symm) (look_tail' (by omega) hy), fun f id hid => by
      have hid' : s.next + 1 ≤ id := hid
      exact lkN (by omega) (lkN (by omega) (f id (by omega)))⟩⟩

theorem sealed_w {s : SS} {base : Option Addr} {n c : Nat} {l : List UInt8} (h : Pre s base n l) (hn : n ≤ 16384) (a k : BitVec 32) :
    CallW pr n_frame_Seal [.int .u32 a.toNat, .int .u32 k.toNat, .slice base n c] s fun v s' => ∃ b c', v = .tuple ⟨[.slice b (10 + n) c', .int .i64 0]⟩ ∧ Slc pr s' b (10 + n) c' (sealS a k n l) ∧ Old s s' := by
  have hnl := h.rd.1
  refine CallW.run good ok_frame_Seal (by simp) rfl ?_
  (repeat(first|refine pSeq ?_|refine pReg ?_|refine sCons ?_|refine sNil ?_|refine pSkip ?_|refine pRet ?_|refine pCond ?_|refine gNone ?_))
  intro q hq
  obtain rfl : q = false := by rw [hq]; simp; omega
  (repeat(first|refine pSeq ?_|refine pReg ?_|refine sCons ?_|refine sNil ?_|refine pSkip ?_|refine pRet ?_|refine pCond ?_|refine gNone ?_))
  intro z hz
  rw [i64_id (by omega)] at hz
  subst hz
  (repeat(first|refine pSeq ?_|refine pReg ?_|refine sCons ?_|refine sNil ?_|refine pSkip ?_|refine pRet ?_|refine pCond ?_|refine gNone ?_))
  refine ⟨by omega, ?_⟩
  intro m m' hm hm' cs hcs
  obtain rfl : m = 0 := by omega
  obtain rfl : m' = 10 + n := by omega
  rw [repeat_bytes] at hcs
  subst hcs
  (repeat(first|refine pSeq ?_|refine pReg ?_|refine sCons ?_|refine sNil ?_|refine pSkip ?_|refine pRet ?_|refine pCond ?_|refine gNone ?_))
  refine (half_put (m := 0) (cap := 10 + n) (a := List.replicate (10 + n) 0) (by omega) look_head (Nat.lt_succ_self _) (by simp) (by omega) (by omega)).mono fun v s1 q => ?_
  obtain ⟨rfl, u1⟩ := q
  have e1 : List.take 0 (List.replicate (10 + n) (0 : UInt8)) ++ half n ++ List.drop (0 + 2) (List.replicate (10 + n) 0) = half n ++ List.replicate (8 + n) 0 := by simp; omega
  rw [e1] at u1
  have n1 : s.next < s1.next := u1.next
  (repeat(first|refine pSeq ?_|refine pReg ?_|refine sCons ?_|refine sNil ?_|refine pSkip ?_|refine pRet ?_|refine pCond ?_|refine gNone ?_))
  refine (word_put k (m := 2) (cap := 10 + n) (a := half n ++ List.replicate (8 + n) 0) u1.at_ n1 (by simp [half]; omega) (by omega) (by omega)).mono fun v s2 q => ?_
  obtain ⟨rfl, u2⟩ := q
  have e2 : List.take 2 (half n ++ List.replicate (8 + n) 0) ++ be4 k ++ List.drop (2 + 4) (half n ++ List.replicate (8 + n) 0) = half n ++ be4 k ++ List.replicate (4 + n) 0 := by
    simp [half]; omega
  rw [e2] at u2
  have n2 : s.next < s2.next := Nat.lt_of_lt_of_le n1 u2.next
  have v2 := u1.trans u2
  have o2 : Old s s2 := ⟨v2.gl, by omega, fun id x hid hx => v2.blk id x (Nat.lt_succ_of_lt hid) (by omega) (look_tail' (by omega) hx), fun f => v2.fine fun id hid => by
    have hid' : s.next + 1 ≤ id := hid
    exact lkN (by omega) (f id (by omega))⟩
  (repeat(first|refine pSeq ?_|refine pReg ?_|refine sCons ?_|refine sNil ?_|refine pSkip ?_|refine pRet ?_|refine pCond ?_|refine gNone ?_))
  refine (CallW.of_ok (sum_ok (h.old o2) hn a k) ⟨rfl, rfl⟩ : CallW pr n_frame_Sum _ _ fun v s' => v = _ ∧ s' = _).mono fun v s' q => ?_
  obtain ⟨rfl, rfl⟩ := q
  (repeat(first|refine pSeq ?_|refine pReg ?_|refine sCons ?_|refine sNil ?_|refine pSkip ?_|refine pRet ?_|refine pCond ?_|refine gNone ?_))
  refine (word_put (sumS a k n l) (m := 6) (cap := 10 + n) (a := half n ++ be4 k ++ List.replicate (4 + n) 0) u2.at_ n2 (by simp [half, be4]; omega) (by omega) (by omega)).mono fun v s3 q => ?_
  obtain ⟨rfl, u3⟩ := q
  have e3 : List.take 6 (half n ++ be4 k ++ List.replicate (4 + n) 0) ++ be4 (sumS a k n l) ++ List.drop (6 + 4) (half n ++ be4 k ++ List.replicate (4 + n) 0) = half n ++ be4 k ++ be4 (sumS a k n l) ++ List.replicate n 0 := by
    simp [half, be4]
  rw [e3] at u3
  have n3 : s.next < s3.next := Nat.lt_of_lt_of_le n2 u3.next
  have v3 := v2.trans u3
  have o3 : Old s s3 := ⟨v3.gl, by omega, fun id x hid hx => v3.blk id x (Nat.lt_succ_of_lt hid) (by omega) (look_tail' (by omega) hx), fun f => v3.fine fun id hid => by
    have hid' : s.next + 1 ≤ id := hid
    exact lkN (by omega) (f id (by omega))⟩
  (repeat(first|refine pSeq ?_|refine pReg ?_|refine sCons ?_|refine sNil ?_|refine pSkip ?_|refine pRet ?_|refine pCond ?_|refine gNone ?_))
  refine appB_room (m := 10) (cap := 10 + n) (l := l) (a := half n ++ be4 k ++ be4 (sumS a k n l) ++ List.replicate n 0) rfl u3.at_ (by simp [half, be4]; omega) rfl (h.old o3).rd (by omega) (by omega) ?_
  have e4 : List.take 10 (half n ++ be4 k ++ be4 (sumS a k n l) ++ List.replicate n 0) ++ l ++ List.drop (10 + n) (half n ++ be4 k ++ be4 (sumS a k n l) ++ List.replicate n 0) = sealS a k n l := by
    simp [sealS, half, be4]; omega
  rw [e4]
  (repeat(first|refine pSeq ?_|refine pReg ?_|refine sCons ?_|refine sNil ?_|refine pSkip ?_|refine pRet ?_|refine pCond ?_|refine gNone ?_))
  refine ⟨_, _, rfl, ⟨⟨by rw [sealS_len, hnl], rfl, n3, _, _, _, _, look_head, ?_, bytesV_plain _⟩, _, _, _, _, look_head, (fun q => by cases q), fun _ => Nat.le_refl _⟩, o3.gl, o3.next, fun id x hid hx => look_tail' (by omega) (o3.blk id x hid hx), fun f id hid => lkN (by have hid' : s3.next ≤ id := hid; omega) (o3.fine f id hid)⟩
  rw [takeN_bytes (by rw [sealS_len]; omega), List.drop_zero, List.take_of_length_le (by rw [sealS_len]; omega)]

theorem seal_w {s : SS} {base : Option Addr} {n c : Nat} {l : List UInt8} (h : Pre s base n l) (hn : n ≤ 16384) (a k : BitVec 32) :
    CallW pr n_frame_Seal [.int .u32 a.toNat, .int .u32 k.toNat, .slice base n c] s fun v s' => ∃ b c', v = .tuple ⟨[.slice b (10 + n) c', .int .i64 0]⟩ ∧ Rdb s' b (10 + n) (sealS a k n l) ∧ Old s s' :=
  (sealed_w h hn a k).mono fun v s' ⟨b, c', h1, h2, h3⟩ => ⟨b, c', h1, h2.1, h3⟩

theorem seal_long {s : SS} {base : Option Addr} {n c : Nat} {l : List UInt8} (h : Rdb s base n l) (hn : 16384 < n) (a k : BitVec 32) :
    CallW pr n_frame_Seal [.int .u32 a.toNat, .int .u32 k.toNat, .slice base n c] s fun v s' => v = .tuple ⟨[.slice none 0 0, .int .i64 3]⟩ ∧ s' = s := by
  refine CallW.run good ok_frame_Seal (by simp) rfl ?_
  (repeat(first|refine pSeq ?_|refine pReg ?_|refine sCons ?_|refine sNil ?_|refine pSkip ?_|refine pRet ?_|refine pCond ?_|refine gNone ?_))
  intro q hq
  obtain rfl : q = true := by rw [hq]; simp; omega
  (repeat(first|refine pSeq ?_|refine pReg ?_|refine sCons ?_|refine sNil ?_|refine pSkip ?_|refine pRet ?_|refine pCond ?_|refine gNone ?_))
  exact ⟨rfl, rfl⟩

end Go.Vf.S
