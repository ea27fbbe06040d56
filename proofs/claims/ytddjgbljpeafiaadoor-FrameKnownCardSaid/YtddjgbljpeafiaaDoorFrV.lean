import Derived.Test.YtddjgbljpeafiaaDoorFrU
import Derived.Test.YtddjgbljpeafiaaDoorEngMa
/- What the closed law FrameKnown says, from any state: first, the checks that are known. -/
namespace Go.Vf.S
open Go Go.Vf Go.Vf.Fr Go.MapKept
attribute [local irreducible] wSeq wRow wp
set_option linter.unusedVariables false
set_option linter.unusedSimpArgs false
set_option maxRecDepth 10000

theorem um : pr.underlying 43 = some (.map 9 23) := by kernel_rfl
theorem us : pr.underlying 9 = some .string := by kernel_rfl

def klen : Value → Nat
  | .string b => b.data.toList.length
  | _ => 0
def isStr : Value → Bool
  | .string _ => true
  | _ => false
theorem ne_klen {es : List MapEntry} {kv : Value} (h : (es.all fun x => klen x.key != klen kv) = true) : ∀ x ∈ es, x.key ≠ kv := by
  intro x hx e
  have := List.all_eq_true.1 h x hx
  rw [e] at this
  simp at this
theorem str_key {es : List MapEntry} (h : (es.all fun x => isStr x.key) = true) : ∀ x ∈ es, IsKey .string x.key := by
  intro x hx
  have := List.all_eq_true.1 h x hx
  cases hk : x.key <;> rw [hk] at this <;> first | trivial | cases this

def t4 : List UInt8 := [109, 101, 115, 115, 97, 103, 101, 32, 100, 105, 103, 101, 115, 116]
def t5 : List UInt8 := [97, 98, 99, 100, 101, 102, 103, 104, 105, 106, 107, 108, 109, 110, 111, 112, 113, 114, 115, 116, 117, 118, 119, 120, 121, 122]
def es5 : List MapEntry := [⟨.string ⟨⟨[]⟩⟩, .int .u32 0, 0⟩, ⟨.string ⟨⟨[97]⟩⟩, .int .u32 3904355907, 1⟩, ⟨.string ⟨⟨[97, 98, 99]⟩⟩, .int .u32 891568578, 2⟩, ⟨.string ⟨⟨t4⟩⟩, .int .u32 538287487, 3⟩, ⟨.string ⟨⟨t5⟩⟩, .int .u32 1277644989, 4⟩]

theorem c1 : (crc []).toNat = 0 := by decide +kernel
theorem c2 : (crc [97]).toNat = 3904355907 := by decide +kernel
theorem c3 : (crc [97, 98, 99]).toNat = 891568578 := by decide +kernel
theorem c4 : (crc t4).toNat = 538287487 := by decide +kernel
theorem c5 : (crc t5).toNat = 1277644989 := by decide +kernel

theorem es5_is {e : MapEntry} (h : e ∈ es5) : ∃ l, e.key = .string ⟨⟨l⟩⟩ ∧ e.val = .int .u32 ((crc l).toNat : Int) ∧ l.length ≤ 26 ∧ e.born < 5 := by
  simp only [es5, List.mem_cons, List.not_mem_nil, or_false] at h
  rcases h with rfl | rfl | rfl | rfl | rfl
  · exact ⟨_, rfl, by rw [c1]; rfl, by decide, by decide⟩
  · exact ⟨_, rfl, by rw [c2]; rfl, by decide, by decide⟩
  · exact ⟨_, rfl, by rw [c3]; rfl, by decide, by decide⟩
  · exact ⟨_, rfl, by rw [c4]; rfl, by decide, by decide⟩
  · exact ⟨_, rfl, by rw [c5]; rfl, by decide, by decide⟩

def left5 (seen : List Nat) : Nat := (if 0 ∈ seen then 0 else 1) + (if 1 ∈ seen then 0 else 1) + (if 2 ∈ seen then 0 else 1) + (if 3 ∈ seen then 0 else 1) + (if 4 ∈ seen then 0 else 1)
theorem left5_lt {seen : List Nat} {b : Nat} (hb : b < 5) (h : b ∉ seen) : left5 (seen ++ [b]) < left5 seen := by
  unfold left5
  simp only [List.mem_append, List.mem_singleton]
  match b, hb with
  | 0, _ => simp [h]
  | 1, _ => simp [h]
  | 2, _ => simp [h]
  | 3, _ => simp [h]
  | 4, _ => simp [h]

structure MapI (s : SS) (i : List Nat × SS) : Prop where
  it : lookH i.2.heap (s.next + 1) = some (.miter s.next 5 i.1 5)
  mp : lookH i.2.heap s.next = some (.map es5 5)
  nx : s.next + 2 ≤ i.2.next
  old : Old s i.2

theorem sum_long' {s : SS} {base : Option Addr} {n c : Nat} {l : List UInt8} (h : Rdb s base n l) (hn : 16384 < n) (a k : BitVec 32) :
    CallW pr n_frame_Sum [.int .u32 a.toNat, .int .u32 k.toNat, .slice base n c] s fun v s' => v = .int .u32 0 ∧ s' = s := by
  refine CallW.run good ok_frame_Sum (by simp) rfl ?_
  (repeat (first | refine pSeq ?_ | refine pReg ?_ | refine sRaw ?_ | refine sCons ?_ | refine sNil ?_ | refine rCons ?_ | refine rNil ?_ | refine pRow ?_ | refine pBlock ?_ | refine pSkip ?_ | refine pExit ?_ | refine pRet ?_ | refine pCond ?_ | refine gNone ?_))
  intro q hq
  obtain rfl : q = true := by rw [hq]; simp; omega
  (repeat (first | refine pSeq ?_ | refine pReg ?_ | refine sRaw ?_ | refine sCons ?_ | refine sNil ?_ | refine rCons ?_ | refine rNil ?_ | refine pRow ?_ | refine pBlock ?_ | refine pSkip ?_ | refine pExit ?_ | refine pRet ?_ | refine pCond ?_ | refine gNone ?_))
  exact ⟨rfl, rfl⟩

set_option maxHeartbeats 2000000 in
theorem known_w {s : SS} (hg : s.gl = 1) (hs : lookH s.heap 0 = some gB) (hn : 1 ≤ s.next) : CallW pr n_law02_FrameKnown [] s fun v _ => v = .bool true := by
  obtain ⟨heap, next, gl⟩ := s
  obtain rfl : gl = 1 := hg
  refine CallW.run good ok_law02_FrameKnown (by simp) rfl ?_
  (repeat (first | refine pSeq ?_ | refine pReg ?_ | refine sRaw ?_ | refine sCons ?_ | refine sNil ?_ | refine rCons ?_ | refine rNil ?_ | refine pRow ?_ | refine pBlock ?_ | refine pSkip ?_ | refine pExit ?_ | refine pRet ?_ | refine pCond ?_ | refine gNone ?_ | refine gOn rfl ?_ | refine gOff rfl rfl ?_))
  refine ⟨.new (.map [] 0) fun id => .map (some id), rfl, ?_⟩
  (repeat (first | refine pSeq ?_ | refine pReg ?_ | refine sRaw ?_ | refine sCons ?_ | refine sNil ?_ | refine rCons ?_ | refine rNil ?_ | refine pRow ?_ | refine pBlock ?_ | refine pSkip ?_ | refine pExit ?_ | refine pRet ?_ | refine pCond ?_ | refine gNone ?_ | refine gOn rfl ?_ | refine gOff rfl rfl ?_))
  refine insert_W rfl um us rfl rfl rfl trivial look_head (str_key (by decide)) (ne_klen (by decide)) ?_
  (repeat (first | refine pSeq ?_ | refine pReg ?_ | refine sRaw ?_ | refine sCons ?_ | refine sNil ?_ | refine rCons ?_ | refine rNil ?_ | refine pRow ?_ | refine pBlock ?_ | refine pSkip ?_ | refine pExit ?_ | refine pRet ?_ | refine pCond ?_ | refine gNone ?_ | refine gOn rfl ?_ | refine gOff rfl rfl ?_))
  refine insert_W rfl um us rfl rfl rfl trivial look_head (str_key (by decide)) (ne_klen (by decide)) ?_
  (repeat (first | refine pSeq ?_ | refine pReg ?_ | refine sRaw ?_ | refine sCons ?_ | refine sNil ?_ | refine rCons ?_ | refine rNil ?_ | refine pRow ?_ | refine pBlock ?_ | refine pSkip ?_ | refine pExit ?_ | refine pRet ?_ | refine pCond ?_ | refine gNone ?_ | refine gOn rfl ?_ | refine gOff rfl rfl ?_))
  refine insert_W rfl um us rfl rfl rfl trivial look_head (str_key (by decide)) (ne_klen (by decide)) ?_
  (repeat (first | refine pSeq ?_ | refine pReg ?_ | refine sRaw ?_ | refine sCons ?_ | refine sNil ?_ | refine rCons ?_ | refine rNil ?_ | refine pRow ?_ | refine pBlock ?_ | refine pSkip ?_ | refine pExit ?_ | refine pRet ?_ | refine pCond ?_ | refine gNone ?_ | refine gOn rfl ?_ | refine gOff rfl rfl ?_))
  refine insert_W rfl um us rfl rfl rfl trivial look_head (str_key (by decide)) (ne_klen (by decide)) ?_
  (repeat (first | refine pSeq ?_ | refine pReg ?_ | refine sRaw ?_ | refine sCons ?_ | refine sNil ?_ | refine rCons ?_ | refine rNil ?_ | refine pRow ?_ | refine pBlock ?_ | refine pSkip ?_ | refine pExit ?_ | refine pRet ?_ | refine pCond ?_ | refine gNone ?_ | refine gOn rfl ?_ | refine gOff rfl rfl ?_))
  refine insert_W rfl um us rfl rfl rfl trivial look_head (str_key (by decide)) (ne_klen (by decide)) ?_
  (repeat (first | refine pSeq ?_ | refine pReg ?_ | refine sRaw ?_ | refine sCons ?_ | refine sNil ?_ | refine rCons ?_ | refine rNil ?_ | refine pRow ?_ | refine pBlock ?_ | refine pSkip ?_ | refine pExit ?_ | refine pRet ?_ | refine pCond ?_ | refine gNone ?_ | refine gOn rfl ?_ | refine gOff rfl rfl ?_))
  refine range_W rfl um rfl look_head ?_
  (repeat (first | refine pSeq ?_ | refine pReg ?_ | refine sRaw ?_ | refine sCons ?_ | refine sNil ?_ | refine rCons ?_ | refine rNil ?_ | refine pRow ?_ | refine pBlock ?_ | refine pSkip ?_ | refine pExit ?_ | refine pRet ?_ | refine pCond ?_ | refine gNone ?_ | refine gOn rfl ?_ | refine gOff rfl rfl ?_))
  refine pLoop (MW.head good (fun i : List Nat × SS => left5 i.1) (MapI ⟨heap, next, 1⟩) (fun _ => [(32, .pointer (some ⟨next + 1, 0, none⟩))]) (fun i => i.2)
    ([], ⟨(next + 1, some (.miter next 5 [] 5)) :: (next, some (.map es5 5)) :: (next, some (.map (es5.take 4) 4)) :: (next, some (.map (es5.take 3) 3)) :: (next, some (.map (es5.take 2) 2)) :: (next, some (.map (es5.take 1) 1)) :: (next, some (.map [] 0)) :: heap, next + 2, 1⟩)
    ⟨look_head, look_tail' (show next + 1 ≠ next by omega) look_head, Nat.le_refl _, ⟨rfl, show next ≤ next + 2 by omega, fun id x hid hx => ?_⟩⟩ (Wk.same ⟨rfl, trivial⟩) ?_)
  · have hid' : id < next := hid
    repeat (refine look_tail' (by first | (show next + 1 ≠ id; omega) | (show next ≠ id; omega)) ?_)
    exact hx
  intro ⟨seen, s2⟩ ⟨hit, hmp, hnx, o2⟩
  dsimp only at hit hmp hnx o2 ⊢
  (repeat (first | refine pSeq ?_ | refine pReg ?_ | refine sRaw ?_ | refine sCons ?_ | refine sNil ?_ | refine rCons ?_ | refine rNil ?_ | refine pRow ?_ | refine pBlock ?_ | refine pSkip ?_ | refine pExit ?_ | refine pRet ?_ | refine pCond ?_ | refine gNone ?_ | refine gOn rfl ?_ | refine gOff rfl rfl ?_))
  refine next_W rfl rfl hit hmp (by decide) (Nat.le_refl _) (fun _ => ?_) fun e he hns => ?_
  · (repeat (first | refine pSeq ?_ | refine pReg ?_ | refine sRaw ?_ | refine sCons ?_ | refine sNil ?_ | refine rCons ?_ | refine rNil ?_ | refine pRow ?_ | refine pBlock ?_ | refine pSkip ?_ | refine pExit ?_ | refine pRet ?_ | refine pCond ?_ | refine gNone ?_ | refine gOn rfl ?_ | refine gOff rfl rfl ?_))
    refine ⟨by decide, ?_⟩
    intro N N' hN hN' cs hcs
    obtain rfl : N = N' := by omega
    have hN3 : N = 16384 := by omega
    rw [repeat_bytes] at hcs
    subst hcs
    have oz := old_cons (x := .cells (bytesV (List.replicate N 0)) 5 false false) o2
    have rz : Rdb ⟨(s2.next, some (.cells (bytesV (List.replicate N 0)) 5 false false)) :: s2.heap, s2.next + 1, s2.gl⟩ (some ⟨s2.next, 0, none⟩) N (List.replicate N 0) := Rdb.head (s := s2) s2.heap 5 false (by simp)
    (repeat (first | refine pSeq ?_ | refine pReg ?_ | refine sRaw ?_ | refine sCons ?_ | refine sNil ?_ | refine rCons ?_ | refine rNil ?_ | refine pRow ?_ | refine pBlock ?_ | refine pSkip ?_ | refine pExit ?_ | refine pRet ?_ | refine pCond ?_ | refine gNone ?_ | refine gOn rfl ?_ | refine gOff rfl rfl ?_))
    refine (sealed_w (l := List.replicate N 0) ⟨oz.gl.trans rfl, oz.blk _ _ hn hs, Nat.le_trans hn oz.next, rz⟩ (by omega) 7#32 9#32).mono fun v s3 q => ?_
    obtain ⟨b3, c3, rfl, r3, o3⟩ := q
    have u3 := oz.trans o3
    have n3 : s2.next + 1 ≤ s3.next := o3.next
    have z3 : lookH s3.heap s2.next = some (.cells (bytesV (List.replicate N 0)) 5 false false) := o3.blk _ _ (Nat.lt_succ_self _) look_head
    (repeat (first | refine pSeq ?_ | refine pReg ?_ | refine sRaw ?_ | refine sCons ?_ | refine sNil ?_ | refine rCons ?_ | refine rNil ?_ | refine pRow ?_ | refine pBlock ?_ | refine pSkip ?_ | refine pExit ?_ | refine pRet ?_ | refine pCond ?_ | refine gNone ?_ | refine gOn rfl ?_ | refine gOff rfl rfl ?_))
    refine appB_new (a := List.replicate N 0) (l := [0]) (n := 1) rfl (look_tail' (by omega) z3) (by simp) rfl (Rdb.head (s := s3) (l := [0]) s3.heap 5 false rfl) (by omega) (by omega) ?_
    have o4 : Old s3 ⟨(s3.next, some (.cells (bytesV [0]) 5 false false)) :: s3.heap, s3.next + 1, s3.gl⟩ := old_cons (.refl s3)
    have o5 := old_cons (x := .cells (bytesV (List.replicate N 0 ++ [0])) 5 true false) o4
    (repeat (first | refine pSeq ?_ | refine pReg ?_ | refine sRaw ?_ | refine sCons ?_ | refine sNil ?_ | refine rCons ?_ | refine rNil ?_ | refine pRow ?_ | refine pBlock ?_ | refine pSkip ?_ | refine pExit ?_ | refine pRet ?_ | refine pCond ?_ | refine gNone ?_ | refine gOn rfl ?_ | refine gOff rfl rfl ?_))
    refine (seal_long (l := List.replicate N 0 ++ [0]) (Rdb.head (s := ⟨(s3.next, some (.cells (bytesV [0]) 5 false false)) :: s3.heap, s3.next + 1, s3.gl⟩) _ 5 true (by simp)) (by omega) 7#32 9#32).mono fun v s5 q => ?_
    obtain ⟨rfl, rfl⟩ := q
    have u5 := u3.trans o5
    have T1 := told_open 7#32 9#32 (n := N) (l := List.replicate N 0) (by simp) (by omega) []
    rw [List.append_nil] at T1
    (repeat (first | refine pSeq ?_ | refine pReg ?_ | refine sRaw ?_ | refine sCons ?_ | refine sNil ?_ | refine rCons ?_ | refine rNil ?_ | refine pRow ?_ | refine pBlock ?_ | refine pSkip ?_ | refine pExit ?_ | refine pRet ?_ | refine pCond ?_ | refine gNone ?_ | refine gOn rfl ?_ | refine gOff rfl rfl ?_))
    refine (open_w ⟨u5.gl.trans rfl, u5.blk _ _ hn hs, Nat.le_trans hn u5.next, Rdb_old r3.1 o5⟩ (Slc_old r3 o5) (by omega) 7#32 9#32).mono fun v s6 q => ?_
    obtain ⟨b6, c6, ⟨hv, r6, o6⟩, n6⟩ := q
    rw [T1.1, T1.2.1, T1.2.2.1, T1.2.2.2, List.length_replicate] at hv
    subst hv
    have u6 := u5.trans o6
    (repeat (first | refine pSeq ?_ | refine pReg ?_ | refine sRaw ?_ | refine sCons ?_ | refine sNil ?_ | refine rCons ?_ | refine rNil ?_ | refine pRow ?_ | refine pBlock ?_ | refine pSkip ?_ | refine pExit ?_ | refine pRet ?_ | refine pCond ?_ | refine gNone ?_ | refine gOn rfl ?_ | refine gOff rfl rfl ?_))
    -- bytes that are too long, or no frame, or too short
    have o7 := old_cons (x := .cells (bytesV [64, 1, 0, 0, 0, 0, 0, 0, 0, 0]) 5 false false) u6
    have r7 : Rdb ⟨(s6.next, some (.cells (bytesV [64, 1, 0, 0, 0, 0, 0, 0, 0, 0]) 5 false false)) :: s6.heap, s6.next + 1, s6.gl⟩ (some ⟨s6.next, 0, none⟩) 10 [64, 1, 0, 0, 0, 0, 0, 0, 0, 0] := Rdb.head (s := s6) s6.heap 5 false rfl
    have E1 : openE 0#32 0#32 [64, 1, 0, 0, 0, 0, 0, 0, 0, 0] = 3 := by decide +kernel
    have N1 := told_none (a := 0#32) (k := 0#32) (l := [64, 1, 0, 0, 0, 0, 0, 0, 0, 0]) (by rw [E1]; decide)
    refine (open_w (l := [64, 1, 0, 0, 0, 0, 0, 0, 0, 0]) (s := ⟨(s6.next, some (.cells (bytesV [64, 1, 0, 0, 0, 0, 0, 0, 0, 0]) 5 false false)) :: s6.heap, s6.next + 1, s6.gl⟩) ⟨o7.gl.trans rfl, o7.blk _ _ hn hs, Nat.le_trans hn o7.next, r7⟩ ⟨r7, _, _, _, _, look_head, (fun q => by cases q), fun _ => Nat.le_refl _⟩ (by decide) 0#32 0#32).mono fun v s8 q => ?_
    obtain ⟨b8, c8, ⟨hv, r8, o8⟩, n8⟩ := q
    rw [E1, N1.1, N1.2.1, N1.2.2] at hv
    subst hv
    have u8 := o7.trans o8
    (repeat (first | refine pSeq ?_ | refine pReg ?_ | refine sRaw ?_ | refine sCons ?_ | refine sNil ?_ | refine rCons ?_ | refine rNil ?_ | refine pRow ?_ | refine pBlock ?_ | refine pSkip ?_ | refine pExit ?_ | refine pRet ?_ | refine pCond ?_ | refine gNone ?_ | refine gOn rfl ?_ | refine gOff rfl rfl ?_))
    refine ⟨by decide, ?_⟩
    intro m m' hm hm' cs hcs
    obtain rfl : m = 10 := by omega
    obtain rfl : m' = 10 := by omega
    rw [repeat_bytes] at hcs
    subst hcs
    have o9 := old_cons (x := .cells (bytesV (List.replicate 10 0)) 5 false false) u8
    have r9 : Rdb ⟨(s8.next, some (.cells (bytesV (List.replicate 10 0)) 5 false false)) :: s8.heap, s8.next + 1, s8.gl⟩ (some ⟨s8.next, 0, none⟩) 10 (List.replicate 10 0) := Rdb.head (s := s8) s8.heap 5 false (by simp)
    have E2 : openE 0#32 1#32 (List.replicate 10 0) = 11 := by decide +kernel
    have N2 := told_none (a := 0#32) (k := 1#32) (l := List.replicate 10 0) (by rw [E2]; decide)
    (repeat (first | refine pSeq ?_ | refine pReg ?_ | refine sRaw ?_ | refine sCons ?_ | refine sNil ?_ | refine rCons ?_ | refine rNil ?_ | refine pRow ?_ | refine pBlock ?_ | refine pSkip ?_ | refine pExit ?_ | refine pRet ?_ | refine pCond ?_ | refine gNone ?_ | refine gOn rfl ?_ | refine gOff rfl rfl ?_))
    refine (open_w (l := List.replicate 10 0) ⟨o9.gl.trans rfl, o9.blk _ _ hn hs, Nat.le_trans hn o9.next, r9⟩ ⟨r9, _, _, _, _, look_head, (fun q => by cases q), fun _ => Nat.le_refl _⟩ (by decide) 0#32 1#32).mono fun v s10 q => ?_
    obtain ⟨b10, c10, ⟨hv, r10, o10⟩, n10⟩ := q
    rw [E2, N2.1, N2.2.1, N2.2.2] at hv
    subst hv
    have u10 := o9.trans o10
    (repeat (first | refine pSeq ?_ | refine pReg ?_ | refine sRaw ?_ | refine sCons ?_ | refine sNil ?_ | refine rCons ?_ | refine rNil ?_ | refine pRow ?_ | refine pBlock ?_ | refine pSkip ?_ | refine pExit ?_ | refine pRet ?_ | refine pCond ?_ | refine gNone ?_ | refine gOn rfl ?_ | refine gOff rfl rfl ?_))
    refine ⟨by decide, ?_⟩
    intro m m' hm hm' cs hcs
    obtain rfl : m = 9 := by omega
    obtain rfl : m' = 9 := by omega
    rw [repeat_bytes] at hcs
    subst hcs
    have o11 := old_cons (x := .cells (bytesV (List.replicate 9 0)) 5 false false) u10
    have r11 : Rdb ⟨(s10.next, some (.cells (bytesV (List.replicate 9 0)) 5 false false)) :: s10.heap, s10.next + 1, s10.gl⟩ (some ⟨s10.next, 0, none⟩) 9 (List.replicate 9 0) := Rdb.head (s := s10) s10.heap 5 false (by simp)
    have E3 : openE 0#32 1#32 (List.replicate 9 0) = 4 := by decide +kernel
    have N3 := told_none (a := 0#32) (k := 1#32) (l := List.replicate 9 0) (by rw [E3]; decide)
    (repeat (first | refine pSeq ?_ | refine pReg ?_ | refine sRaw ?_ | refine sCons ?_ | refine sNil ?_ | refine rCons ?_ | refine rNil ?_ | refine pRow ?_ | refine pBlock ?_ | refine pSkip ?_ | refine pExit ?_ | refine pRet ?_ | refine pCond ?_ | refine gNone ?_ | refine gOn rfl ?_ | refine gOff rfl rfl ?_))
    refine (open_w (l := List.replicate 9 0) ⟨o11.gl.trans rfl, o11.blk _ _ hn hs, Nat.le_trans hn o11.next, r11⟩ ⟨r11, _, _, _, _, look_head, (fun q => by cases q), fun _ => Nat.le_refl _⟩ (by decide) 0#32 1#32).mono fun v s12 q => ?_
    obtain ⟨b12, c12, ⟨hv, r12, o12⟩, n12⟩ := q
    rw [E3, N3.1, N3.2.1, N3.2.2] at hv
    subst hv
    have u12 := o11.trans o12
    (repeat (first | refine pSeq ?_ | refine pReg ?_ | refine sRaw ?_ | refine sCons ?_ | refine sNil ?_ | refine rCons ?_ | refine rNil ?_ | refine pRow ?_ | refine pBlock ?_ | refine pSkip ?_ | refine pExit ?_ | refine pRet ?_ | refine pCond ?_ | refine gNone ?_ | refine gOn rfl ?_ | refine gOff rfl rfl ?_))
    refine (sealed_w (s := s12) (base := none) (n := 0) (l := []) ⟨u12.gl.trans rfl, u12.blk _ _ hn hs, Nat.le_trans hn u12.next, ⟨rfl, rfl⟩⟩ (by decide) 1#32 2#32).mono fun v s13 q => ?_
    obtain ⟨b13, c13, rfl, r13, o13⟩ := q
    have u13 := u12.trans o13
    have T2 := told_open 1#32 2#32 (n := 0) (l := []) rfl (by decide) []
    rw [List.append_nil] at T2
    (repeat (first | refine pSeq ?_ | refine pReg ?_ | refine sRaw ?_ | refine sCons ?_ | refine sNil ?_ | refine rCons ?_ | refine rNil ?_ | refine pRow ?_ | refine pBlock ?_ | refine pSkip ?_ | refine pExit ?_ | refine pRet ?_ | refine pCond ?_ | refine gNone ?_ | refine gOn rfl ?_ | refine gOff rfl rfl ?_))
    refine (open_w ⟨u13.gl.trans rfl, u13.blk _ _ hn hs, Nat.le_trans hn u13.next, r13.1⟩ r13 (by decide) 1#32 2#32).mono fun v s14 q => ?_
    obtain ⟨b14, c14, ⟨hv, r14, o14⟩, n14⟩ := q
    rw [T2.1, T2.2.1, T2.2.2.1, T2.2.2.2] at hv
    subst hv
    have u14 := u13.trans o14
    (repeat (first | refine pSeq ?_ | refine pReg ?_ | refine sRaw ?_ | refine sCons ?_ | refine sNil ?_ | refine rCons ?_ | refine rNil ?_ | refine pRow ?_ | refine pBlock ?_ | refine pSkip ?_ | refine pExit ?_ | refine pRet ?_ | refine pCond ?_ | refine gNone ?_ | refine gOn rfl ?_ | refine gOff rfl rfl ?_))
    intro q hq
    obtain rfl : q = true := by rw [hq]; simp
    (repeat (first | refine pSeq ?_ | refine pReg ?_ | refine sRaw ?_ | refine sCons ?_ | refine sNil ?_ | refine rCons ?_ | refine rNil ?_ | refine pRow ?_ | refine pBlock ?_ | refine pSkip ?_ | refine pExit ?_ | refine pRet ?_ | refine pCond ?_ | refine gNone ?_ | refine gOn rfl ?_ | refine gOff rfl rfl ?_))
    intro q hq
    obtain rfl : q = true := by rw [hq]; simp
    (repeat (first | refine pSeq ?_ | refine pReg ?_ | refine sRaw ?_ | refine sCons ?_ | refine sNil ?_ | refine rCons ?_ | refine rNil ?_ | refine pRow ?_ | refine pBlock ?_ | refine pSkip ?_ | refine pExit ?_ | refine pRet ?_ | refine pCond ?_ | refine gNone ?_ | refine gOn rfl ?_ | refine gOff rfl rfl ?_))
    intro q hq
    obtain rfl : q = true := by rw [hq]; simp
    (repeat (first | refine pSeq ?_ | refine pReg ?_ | refine sRaw ?_ | refine sCons ?_ | refine sNil ?_ | refine rCons ?_ | refine rNil ?_ | refine pRow ?_ | refine pBlock ?_ | refine pSkip ?_ | refine pExit ?_ | refine pRet ?_ | refine pCond ?_ | refine gNone ?_ | refine gOn rfl ?_ | refine gOff rfl rfl ?_))
    intro q hq
    obtain rfl : q = true := by rw [hq]; simp; omega
    (repeat (first | refine pSeq ?_ | refine pReg ?_ | refine sRaw ?_ | refine sCons ?_ | refine sNil ?_ | refine rCons ?_ | refine rNil ?_ | refine pRow ?_ | refine pBlock ?_ | refine pSkip ?_ | refine pExit ?_ | refine pRet ?_ | refine pCond ?_ | refine gNone ?_ | refine gOn rfl ?_ | refine gOff rfl rfl ?_))
    intro q hq
    obtain rfl : q = true := by rw [hq]; simp
    (repeat (first | refine pSeq ?_ | refine pReg ?_ | refine sRaw ?_ | refine sCons ?_ | refine sNil ?_ | refine rCons ?_ | refine rNil ?_ | refine pRow ?_ | refine pBlock ?_ | refine pSkip ?_ | refine pExit ?_ | refine pRet ?_ | refine pCond ?_ | refine gNone ?_ | refine gOn rfl ?_ | refine gOff rfl rfl ?_))
    intro q hq
    obtain rfl : q = true := by rw [hq]; simp
    (repeat (first | refine pSeq ?_ | refine pReg ?_ | refine sRaw ?_ | refine sCons ?_ | refine sNil ?_ | refine rCons ?_ | refine rNil ?_ | refine pRow ?_ | refine pBlock ?_ | refine pSkip ?_ | refine pExit ?_ | refine pRet ?_ | refine pCond ?_ | refine gNone ?_ | refine gOn rfl ?_ | refine gOff rfl rfl ?_))
    intro q hq
    obtain rfl : q = true := by rw [hq]; simp
    (repeat (first | refine pSeq ?_ | refine pReg ?_ | refine sRaw ?_ | refine sCons ?_ | refine sNil ?_ | refine rCons ?_ | refine rNil ?_ | refine pRow ?_ | refine pBlock ?_ | refine pSkip ?_ | refine pExit ?_ | refine pRet ?_ | refine pCond ?_ | refine gNone ?_ | refine gOn rfl ?_ | refine gOff rfl rfl ?_))
    intro q hq
    obtain rfl : q = true := by rw [hq]; simp
    (repeat (first | refine pSeq ?_ | refine pReg ?_ | refine sRaw ?_ | refine sCons ?_ | refine sNil ?_ | refine rCons ?_ | refine rNil ?_ | refine pRow ?_ | refine pBlock ?_ | refine pSkip ?_ | refine pExit ?_ | refine pRet ?_ | refine pCond ?_ | refine gNone ?_ | refine gOn rfl ?_ | refine gOff rfl rfl ?_))
    intro q hq
    obtain rfl : q = true := by rw [hq]; simp
    (repeat (first | refine pSeq ?_ | refine pReg ?_ | refine sRaw ?_ | refine sCons ?_ | refine sNil ?_ | refine rCons ?_ | refine rNil ?_ | refine pRow ?_ | refine pBlock ?_ | refine pSkip ?_ | refine pExit ?_ | refine pRet ?_ | refine pCond ?_ | refine gNone ?_ | refine gOn rfl ?_ | refine gOff rfl rfl ?_))
    intro q hq
    obtain rfl : q = true := by rw [hq]; simp
    (repeat (first | refine pSeq ?_ | refine pReg ?_ | refine sRaw ?_ | refine sCons ?_ | refine sNil ?_ | refine rCons ?_ | refine rNil ?_ | refine pRow ?_ | refine pBlock ?_ | refine pSkip ?_ | refine pExit ?_ | refine pRet ?_ | refine pCond ?_ | refine gNone ?_ | refine gOn rfl ?_ | refine gOff rfl rfl ?_))
    intro q hq
    obtain rfl : q = true := by rw [hq]; simp
    (repeat (first | refine pSeq ?_ | refine pReg ?_ | refine sRaw ?_ | refine sCons ?_ | refine sNil ?_ | refine rCons ?_ | refine rNil ?_ | refine pRow ?_ | refine pBlock ?_ | refine pSkip ?_ | refine pExit ?_ | refine pRet ?_ | refine pCond ?_ | refine gNone ?_ | refine gOn rfl ?_ | refine gOff rfl rfl ?_))
    intro q hq
    obtain rfl : q = true := by rw [hq]; simp
    (repeat (first | refine pSeq ?_ | refine pReg ?_ | refine sRaw ?_ | refine sCons ?_ | refine sNil ?_ | refine rCons ?_ | refine rNil ?_ | refine pRow ?_ | refine pBlock ?_ | refine pSkip ?_ | refine pExit ?_ | refine pRet ?_ | refine pCond ?_ | refine gNone ?_ | refine gOn rfl ?_ | refine gOff rfl rfl ?_))
    intro q hq
    obtain rfl : q = true := by rw [hq]; simp
    (repeat (first | refine pSeq ?_ | refine pReg ?_ | refine sRaw ?_ | refine sCons ?_ | refine sNil ?_ | refine rCons ?_ | refine rNil ?_ | refine pRow ?_ | refine pBlock ?_ | refine pSkip ?_ | refine pExit ?_ | refine pRet ?_ | refine pCond ?_ | refine gNone ?_ | refine gOn rfl ?_ | refine gOff rfl rfl ?_))
    have w6 := o5.trans o6
    have w8 := (old_cons (x := .cells (bytesV [64, 1, 0, 0, 0, 0, 0, 0, 0, 0]) 5 false false) w6).trans o8
    have w10 := (old_cons (x := .cells (bytesV (List.replicate 10 0)) 5 false false) w8).trans o10
    have w12 := (old_cons (x := .cells (bytesV (List.replicate 9 0)) 5 false false) w10).trans o12
    have w14 := (w12.trans o13).trans o14
    have z14 : lookH s14.heap s2.next = some (.cells (bytesV (List.replicate N 0)) 5 false false) := w14.blk _ _ (show s2.next < s3.next by omega) z3
    have n14 : s3.next ≤ s14.next := w14.next
    refine appB_new (a := List.replicate N 0) (l := [0]) (n := 1) rfl (look_tail' (by omega) z14) (by simp) rfl (Rdb.head (s := s14) (l := [0]) s14.heap 5 false rfl) (by omega) (by omega) ?_
    have u15 := old_cons (x := .cells (bytesV [0]) 5 false false) u14
    have u16 := old_cons (x := .cells (bytesV (List.replicate N 0 ++ [0])) 5 true false) u15
    (repeat (first | refine pSeq ?_ | refine pReg ?_ | refine sRaw ?_ | refine sCons ?_ | refine sNil ?_ | refine rCons ?_ | refine rNil ?_ | refine pRow ?_ | refine pBlock ?_ | refine pSkip ?_ | refine pExit ?_ | refine pRet ?_ | refine pCond ?_ | refine gNone ?_ | refine gOn rfl ?_ | refine gOff rfl rfl ?_))
    refine (sum_long' (l := List.replicate N 0 ++ [0]) (Rdb.head (s := ⟨(s14.next, some (.cells (bytesV [0]) 5 false false)) :: s14.heap, s14.next + 1, s14.gl⟩) _ 5 true (by simp)) (by omega) 1#32 2#32).mono fun v s16 q => ?_
    obtain ⟨rfl, rfl⟩ := q
    (repeat (first | refine pSeq ?_ | refine pReg ?_ | refine sRaw ?_ | refine sCons ?_ | refine sNil ?_ | refine rCons ?_ | refine rNil ?_ | refine pRow ?_ | refine pBlock ?_ | refine pSkip ?_ | refine pExit ?_ | refine pRet ?_ | refine pCond ?_ | refine gNone ?_ | refine gOn rfl ?_ | refine gOff rfl rfl ?_))
    intro q hq
    obtain rfl : q = true := by rw [hq]; simp
    (repeat (first | refine pSeq ?_ | refine pReg ?_ | refine sRaw ?_ | refine sCons ?_ | refine sNil ?_ | refine rCons ?_ | refine rNil ?_ | refine pRow ?_ | refine pBlock ?_ | refine pSkip ?_ | refine pExit ?_ | refine pRet ?_ | refine pCond ?_ | refine gNone ?_ | refine gOn rfl ?_ | refine gOff rfl rfl ?_))
    refine (CallW.of_ok (tells_ok (u16.gl.trans rfl) (u16.blk _ _ hn hs) (Nat.le_trans hn u16.next)) ⟨rfl, rfl⟩ : CallW pr n_law02_tells _ _ fun v s' => v = _ ∧ s' = _).mono fun v s17 q => ?_
    obtain ⟨rfl, rfl⟩ := q
    (repeat (first | refine pSeq ?_ | refine pReg ?_ | refine sRaw ?_ | refine sCons ?_ | refine sNil ?_ | refine rCons ?_ | refine rNil ?_ | refine pRow ?_ | refine pBlock ?_ | refine pSkip ?_ | refine pExit ?_ | refine pRet ?_ | refine pCond ?_ | refine gNone ?_ | refine gOn rfl ?_ | refine gOff rfl rfl ?_))
    rfl
  · obtain ⟨l, hk, hv, hlen, hb⟩ := es5_is he
    obtain ⟨ek, ev, eb⟩ := e
    simp only at hk hv hb hns
    subst hk; subst hv
    (repeat (first | refine pSeq ?_ | refine pReg ?_ | refine sRaw ?_ | refine sCons ?_ | refine sNil ?_ | refine rCons ?_ | refine rNil ?_ | refine pRow ?_ | refine pBlock ?_ | refine pSkip ?_ | refine pExit ?_ | refine pRet ?_ | refine pCond ?_ | refine gNone ?_ | refine gOn rfl ?_ | refine gOff rfl rfl ?_))
    refine entry_W rfl rfl look_head (look_tail' (show next + 1 ≠ next by omega) hmp) he (by decide) ?_
    (repeat (first | refine pSeq ?_ | refine pReg ?_ | refine sRaw ?_ | refine sCons ?_ | refine sNil ?_ | refine rCons ?_ | refine rNil ?_ | refine pRow ?_ | refine pBlock ?_ | refine pSkip ?_ | refine pExit ?_ | refine pRet ?_ | refine pCond ?_ | refine gNone ?_ | refine gOn rfl ?_ | refine gOff rfl rfl ?_))
    refine ⟨by omega, ?_⟩
    (repeat (first | refine pSeq ?_ | refine pReg ?_ | refine sRaw ?_ | refine sCons ?_ | refine sNil ?_ | refine rCons ?_ | refine rNil ?_ | refine pRow ?_ | refine pBlock ?_ | refine pSkip ?_ | refine pExit ?_ | refine pRet ?_ | refine pCond ?_ | refine gNone ?_ | refine gOn rfl ?_ | refine gOff rfl rfl ?_))
    have o3 : Old ⟨heap, next, 1⟩ ⟨(s2.next, some (.cells (bytesV l) 5 true false)) :: (next + 1, some (.miter next 5 (seen ++ [eb]) 5)) :: s2.heap, s2.next + 1, s2.gl⟩ :=
      ⟨o2.gl, Nat.le_succ_of_le o2.next, fun id x hid hx => look_tail' (by have : id < next := hid; omega) (look_tail' (by have : id < next := hid; omega) (o2.blk id x hid hx))⟩
    refine (crc_w (l := l) ⟨o3.gl, o3.blk _ _ hn hs, Nat.le_trans hn o3.next, Rdb.head (s := s2) _ 5 true rfl⟩ (by omega)).mono fun v s3 q => ?_
    obtain ⟨rfl, rfl⟩ := q
    (repeat (first | refine pSeq ?_ | refine pReg ?_ | refine sRaw ?_ | refine sCons ?_ | refine sNil ?_ | refine rCons ?_ | refine rNil ?_ | refine pRow ?_ | refine pBlock ?_ | refine pSkip ?_ | refine pExit ?_ | refine pRet ?_ | refine pCond ?_ | refine gNone ?_ | refine gOn rfl ?_ | refine gOff rfl rfl ?_))
    intro q hq
    obtain rfl : q = false := by rw [hq]; simp
    (repeat (first | refine pSeq ?_ | refine pReg ?_ | refine sRaw ?_ | refine sCons ?_ | refine sNil ?_ | refine rCons ?_ | refine rNil ?_ | refine pRow ?_ | refine pBlock ?_ | refine pSkip ?_ | refine pExit ?_ | refine pRet ?_ | refine pCond ?_ | refine gNone ?_ | refine gOn rfl ?_ | refine gOff rfl rfl ?_))
    have hnx' : next + 2 ≤ s2.next := hnx
    exact ⟨(seen ++ [eb], _), ⟨look_tail' (show s2.next ≠ next + 1 by omega) look_head, look_tail' (show s2.next ≠ next by omega) (look_tail' (show next + 1 ≠ next by omega) hmp), show next + 2 ≤ s2.next + 1 by omega, o3⟩, left5_lt hb hns, Wk.same ⟨rfl, trivial⟩⟩
end Go.Vf.S
