import Derived.Test.YtafdbfpclolpkaaHaH
/- What is hashed last. -/
namespace Go.Vf.S
open Go Go.Vf
attribute [local irreducible] wSeq wRow wp wG schd rnds blks blk5
set_option linter.unusedVariables false
set_option linter.unusedSimpArgs false
set_option maxRecDepth 10000

/-- Bytes of one's own in a block that has room for more. -/
def Room (s : SS) (b cap : Nat) (d : List UInt8) : Prop := b < s.next ∧ d.length ≤ cap ∧ lookH s.heap b = some (.cells (bytesV (d ++ List.replicate (cap - d.length) 0)) tB false false)
theorem Room.chg {s s' : SS} {b cap : Nat} {d : List UInt8} {A : List Nat} (h : Room s b cap d) (c : Chg s s' A) (hA : b ∉ A) : Room s' b cap d := ⟨Nat.lt_of_lt_of_le h.1 c.next, h.2.1, c.blk _ _ h.1 hA h.2.2⟩
theorem Room.rdb {s : SS} {b cap : Nat} {d : List UInt8} (h : Room s b cap d) : Rdb s (some ⟨b, 0, none⟩) d.length d := by
  refine ⟨rfl, rfl, h.1, _, _, _, _, h.2.2, ?_, bytesV_plain _⟩
  rw [takeN_bytes (by rw [List.length_append]; omega), List.drop_zero, List.take_append_of_le_length (Nat.le_refl _), List.take_length]
theorem Room.slc {s : SS} {b cap : Nat} {d : List UInt8} (h : Room s b cap d) : Slc pr s (some ⟨b, 0, none⟩) d.length cap d := by
  exact ⟨h.rdb, _, _, _, _, h.2.2, fun q => (by cases q), fun _ => h.2.1⟩
theorem app_room {T : TL} {s : SS} {K : RR → Prop} {x y : Operand} {b cap m n c : Nat} {d l : List UInt8} {base : Option Addr} (ho : Room s b cap d) (hx : opd T s.gl x = some (.slice (some ⟨b, 0, none⟩) m cap)) (hm : m = d.length)
    (hy : opd T s.gl y = some (.slice base n c)) (hr : Rdb s base n l) (hmn : m + n ≤ cap) (hb : cap ≤ 4294967296)
    (h : ∀ s' : SS, Room s' b cap (d ++ l) → Chg s s' [b] → s'.next = s.next → K (.eff (.slice (some ⟨b, 0, none⟩) (m + n) cap) s')) : wN pr (.app tB 1 1 x y) T s K := by
  have hn := hr.1
  have h1 := ho.2.1
  refine appB_room hx ho.2.2 (by rw [List.length_append, List.length_replicate]; omega) hy hr hmn hb ?_
  have e : (d ++ List.replicate (cap - d.length) 0).take m ++ l ++ (d ++ List.replicate (cap - d.length) 0).drop (m + n) = (d ++ l) ++ List.replicate (cap - (d ++ l).length) 0 := by
    subst hm; subst hn
    rw [List.take_append_of_le_length (Nat.le_refl _), List.take_length, List.drop_append, List.drop_of_length_le (by omega), List.nil_append, List.drop_replicate, List.length_append]
    congr 2
    omega
  rw [e]
  exact h _ ⟨ho.1, by rw [List.length_append]; omega, lkH⟩ (.turn ho.1) rfl

/-- One byte in a block of its own. -/
theorem byte_rdb {s : SS} {b : Nat} {c : UInt8} {t : TypeId} {g : Bool} (h : lookH s.heap b = some (.cells (bytesV [c]) t g false)) (hb : b < s.next) : Rdb s (some ⟨b, 0, none⟩) 1 [c] :=
  ⟨rfl, rfl, hb, _, _, _, _, h, rfl, bytesV_plain _⟩

/-- One byte behind. -/
theorem app_byte {T : TL} {s : SS} {K : RR → Prop} {x y : Operand} {b cap m : Nat} {d : List UInt8} {c : UInt8} {z : Int} (ho : Room s b cap d) (hz : z = (c.toNat : Int)) (hx : opd T s.gl x = some (.slice (some ⟨b, 0, none⟩) m cap)) (hm : m = d.length)
    (hy : opd T s.gl y = some (.slice (some ⟨s.next, 0, none⟩) 1 1)) (hmn : m + 1 ≤ cap) (hb : cap ≤ 4294967296)
    (h : ∀ s' : SS, Room s' b cap (d ++ [c]) → Chg s s' [b] → s'.next = s.next + 1 → K (.eff (.slice (some ⟨b, 0, none⟩) (m + 1) cap) s')) :
    wN pr (.app tB 1 1 x y) T { s with heap := (s.next, some (.cells [.int .u8 z] tB false false)) :: s.heap, next := s.next + 1 } K := by
  subst hz
  have c0 : Chg s { s with heap := (s.next, some (.cells [.int .u8 (c.toNat : Int)] tB false false)) :: s.heap, next := s.next + 1 } [] := .new []
  refine app_room (ho.chg c0 (by simp)) hx hm hy (byte_rdb (c := c) lkH (Nat.lt_succ_self _)) hmn hb fun s' r c1 n1 => h s' r (c0.nil c1) n1

theorem rep_bytes (n : Nat) : repeatL n [.int .u8 0] = bytesV (List.replicate n 0) := repeat_bytes n

theorem be8_get (n : Nat) {p : Nat} (h : p < 8) : (be8 n)[p]? = some (UInt8.ofNat (n / 256 ^ (7 - p))) := by
  unfold be8
  rw [List.getElem?_map, List.getElem?_range h]; rfl
theorem be8_next (n : Nat) {p : Nat} (h : p < 8) : (be8 n).take (p + 1) = (be8 n).take p ++ [UInt8.ofNat (n / 256 ^ (7 - p))] := take_next (be8_get n h)
theorem fdiv_pow (n k : Nat) : (n : Int).fdiv (2 ^ k) = ((n / 2 ^ k : Nat) : Int) := by
  rw [Int.fdiv_eq_ediv_of_nonneg _ (by exact Int.le_of_lt (Int.pow_pos (by decide)))]
  rw [Int.natCast_ediv]
  simp
theorem shr_byte {n p : Nat} (hp : p < 8) {z : Int} (hz : z = (n : Int).fdiv (2 ^ (min ((56 - 8 * p : Nat) : Int).toNat IntKind.u64.bits))) : IntKind.wrap .u8 z = ((UInt8.ofNat (n / 256 ^ (7 - p))).toNat : Int) := by
  have e1 : min ((56 - 8 * p : Nat) : Int).toNat IntKind.u64.bits = 8 * (7 - p) := by
    show min ((56 - 8 * p : Nat) : Int).toNat 64 = _
    omega
  rw [hz, e1, fdiv_pow, wrap_u8, Nat.pow_mul]
  simp

set_option maxHeartbeats 1000000 in
theorem ending_w {s : SS} {base : Option Addr} {n cap many : Nat} {l : List UInt8} (f : Fine s) (hr : Slc pr s base n cap l) (hn : n < 64) (hm : many % 64 = n) (hM : many < 2 ^ 40) :
    CallW pr n_hash_ending [.slice base n cap, .int .u64 many] s fun v s' => ∃ b, v = .slice (some ⟨b, 0, none⟩) (n + 9 + zrs many) 128 ∧ Room s' b 128 (l ++ endF many) ∧ s.next ≤ b ∧ Chg s s' [] := by
  have hl := hr.1.1
  have hz : zrs many < 64 := by unfold zrs; omega
  have hz2 : n + 9 + zrs many ≤ 128 := by unfold zrs; omega
  refine CallW.run good ok_hash_ending (by simp) rfl ?_
  (repeat(first|refine pSeq ?_|refine pReg ?_|refine sCons ?_|refine sNil ?_|refine pBlock ?_|refine pSkip ?_|refine pExit ?_|refine pRet ?_|refine pCond ?_|refine gNone ?_))
  refine ⟨by decide, ?_⟩
  intro m1 n1 hm1 hn1 cs hcs
  obtain rfl : m1 = 0 := by omega
  obtain rfl : n1 = 128 := by omega
  rw [rep_bytes] at hcs
  subst hcs
  (repeat(first|refine pSeq ?_|refine pReg ?_|refine sCons ?_|refine sNil ?_|refine pBlock ?_|refine pSkip ?_|refine pExit ?_|refine pRet ?_|refine pCond ?_|refine gNone ?_))
  have hro0 : Room { s with heap := (s.next, some (.cells (bytesV (List.replicate 128 0)) tB false false)) :: s.heap, next := s.next + 1 } s.next 128 [] := ⟨Nat.lt_succ_self _, by simp, lkH⟩
  have c0 : Chg s { s with heap := (s.next, some (.cells (bytesV (List.replicate 128 0)) tB false false)) :: s.heap, next := s.next + 1 } [] := .new []
  have hr0 := hr.chg c0 (by simp)
  refine app_room hro0 rfl rfl rfl hr0.1 (by omega) (by omega) fun s1 r1 c1 n1 => ?_
  (repeat(first|refine pSeq ?_|refine pReg ?_|refine sCons ?_|refine sNil ?_|refine pBlock ?_|refine pSkip ?_|refine pExit ?_|refine pRet ?_|refine pCond ?_|refine gNone ?_))
  replace n1 : s1.next = s.next + 1 := n1
  replace c1 := c0.fresh c1 (by simp)
  rw [List.nil_append] at r1
  rw [Nat.zero_add]
  refine app_byte (c := 0x80) r1 rfl rfl hl rfl (by omega) (by omega) fun s2 r2 c2 n2 => ?_
  replace c2 := c1.fresh c2 (by simp)
  have f2 := c2.fine f
  (repeat(first|refine pSeq ?_|refine pReg ?_|refine sCons ?_|refine sNil ?_|refine pBlock ?_|refine pSkip ?_|refine pExit ?_|refine pRet ?_|refine pCond ?_|refine gNone ?_))
  refine pLoop (MW.head good (fun p : Nat × SS => zrs many - p.1) (fun p => p.1 ≤ zrs many ∧ Room p.2 s.next 128 (l ++ [0x80] ++ List.replicate p.1 0) ∧ Chg s p.2 [])
    (fun p => [(1, .int .u64 many), (5, .slice (some ⟨s.next, 0, none⟩) (n + 1 + p.1) 128)]) (fun p => p.2) (0, s2) ⟨Nat.zero_le _, by simpa using r2, c2⟩ (Wk.same ⟨rfl, rfl, trivial⟩) ?_)
  clear r2 c2 f2 r1 c1 n2 n1 hro0 c0 hr0
  intro ⟨k, s3⟩ ⟨hk, r3, c3⟩
  dsimp only at hk r3 c3 ⊢
  have hlen : (l ++ [0x80] ++ List.replicate k 0).length = n + 1 + k := by simp; omega
  (repeat(first|refine pSeq ?_|refine pReg ?_|refine sCons ?_|refine sNil ?_|refine pBlock ?_|refine pSkip ?_|refine pExit ?_|refine pRet ?_|refine pCond ?_|refine gNone ?_))
  refine ⟨by decide, ?_⟩
  intro z hz
  obtain rfl : z = (((n + 1 + k) % 64 : Nat) : Int) := by rw [hz]; exact (Int.ofNat_tmod (n + 1 + k) 64).symm
  (repeat(first|refine pSeq ?_|refine pReg ?_|refine sCons ?_|refine sNil ?_|refine pBlock ?_|refine pSkip ?_|refine pExit ?_|refine pRet ?_|refine pCond ?_|refine gNone ?_))
  intro q hq
  by_cases h5 : k = zrs many
  · obtain rfl : q = false := by
      rw [hq]
      unfold zrs at h5
      simp
      omega
    (repeat(first|refine pSeq ?_|refine pReg ?_|refine sCons ?_|refine sNil ?_|refine pBlock ?_|refine pSkip ?_|refine pExit ?_|refine pRet ?_|refine pCond ?_|refine gNone ?_))
    subst h5
    clear hq
    intro z hz
    obtain rfl : z = ((8 * many : Nat) : Int) := by rw [hz, wrap_u64]; omega
    (repeat(first|refine pSeq ?_|refine pReg ?_|refine sCons ?_|refine sNil ?_|refine pBlock ?_|refine pSkip ?_|refine pExit ?_|refine pRet ?_|refine pCond ?_|refine gNone ?_))
    refine pLoop (MW.head good (fun p : Nat × SS => 8 - p.1) (fun p => p.1 ≤ 8 ∧ Room p.2 s.next 128 (l ++ [0x80] ++ List.replicate (zrs many) 0 ++ (be8 (8 * many)).take p.1) ∧ Chg s p.2 [])
      (fun p => [(5, .slice (some ⟨s.next, 0, none⟩) (n + 1 + zrs many + p.1) 128), (6, .int .u64 ((8 * many : Nat) : Int)), (7, .int .i64 (56 - 8 * (p.1 : Int)))]) (fun p => p.2) (0, s3) ⟨Nat.zero_le _, by rw [List.take_zero, List.append_nil]; exact r3, c3⟩ (Wk.same ⟨rfl, rfl, rfl, trivial⟩) ?_)
    clear r3 c3
    intro ⟨p, s4⟩ ⟨hp, r4, c4⟩
    dsimp only at hp r4 c4 ⊢
    have hlen4 : (l ++ [0x80] ++ List.replicate (zrs many) 0 ++ (be8 (8 * many)).take p).length = n + 1 + zrs many + p := by
      rw [List.length_append, hlen, List.length_take, be8_len]; omega
    (repeat(first|refine pSeq ?_|refine pReg ?_|refine sCons ?_|refine sNil ?_|refine pBlock ?_|refine pSkip ?_|refine pExit ?_|refine pRet ?_|refine pCond ?_|refine gNone ?_))
    intro q hq
    by_cases h6 : p = 8
    · subst h6
      obtain rfl : q = false := by rw [hq]; simp <;> omega
      (repeat(first|refine pSeq ?_|refine pReg ?_|refine sCons ?_|refine sNil ?_|refine pBlock ?_|refine pSkip ?_|refine pExit ?_|refine pRet ?_|refine pCond ?_|refine gNone ?_))
      refine ⟨s.next, by rw [show n + 9 + zrs many = n + 1 + zrs many + 8 by omega]; rfl, ?_, Nat.le_refl _, c4⟩
      have e : l ++ endF many = l ++ [0x80] ++ List.replicate (zrs many) 0 ++ (be8 (8 * many)).take 8 := by
        rw [List.take_of_length_le (by rw [be8_len]; exact Nat.le_refl _)]
        unfold endF
        simp only [List.append_assoc, List.cons_append, List.nil_append]
      rw [e]
      exact r4
    · obtain rfl : q = true := by rw [hq]; simp <;> omega
      (repeat(first|refine pSeq ?_|refine pReg ?_|refine sCons ?_|refine sNil ?_|refine pBlock ?_|refine pSkip ?_|refine pExit ?_|refine pRet ?_|refine pCond ?_|refine gNone ?_))
      refine ⟨by omega, ?_⟩
      intro z hz
      (repeat(first|refine pSeq ?_|refine pReg ?_|refine sCons ?_|refine sNil ?_|refine pBlock ?_|refine pSkip ?_|refine pExit ?_|refine pRet ?_|refine pCond ?_|refine gNone ?_))
      intro z1 hz1
      have e1 : ((56 - 8 * p : Nat) : Int) = 56 - 8 * (p : Int) := by omega
      rw [← e1] at hz
      rw [shr_byte (by omega) hz] at hz1
      (repeat(first|refine pSeq ?_|refine pReg ?_|refine sCons ?_|refine sNil ?_|refine pBlock ?_|refine pSkip ?_|refine pExit ?_|refine pRet ?_|refine pCond ?_|refine gNone ?_))
      refine app_byte (c := UInt8.ofNat (8 * many / 256 ^ (7 - p))) r4 hz1 rfl hlen4.symm rfl (by omega) (by omega) fun s5 r5 c5 n5 => ?_
      (repeat(first|refine pSeq ?_|refine pReg ?_|refine sCons ?_|refine sNil ?_|refine pBlock ?_|refine pSkip ?_|refine pExit ?_|refine pRet ?_|refine pCond ?_|refine gNone ?_))
      intro z2 hz2
      obtain rfl : z2 = 56 - 8 * ((p + 1 : Nat) : Int) := by rw [hz2, i64_id (by omega)]; omega
      (repeat(first|refine pSeq ?_|refine pReg ?_|refine sCons ?_|refine sNil ?_|refine pBlock ?_|refine pSkip ?_|refine pExit ?_|refine pRet ?_|refine pCond ?_|refine gNone ?_))
      exact ⟨(p + 1, s5), ⟨by omega, by rw [be8_next _ (by omega), ← List.append_assoc]; exact r5, c4.fresh c5 (by simp)⟩, by show 8 - (p + 1) < 8 - p; omega, Wk.same ⟨rfl, rfl, rfl, trivial⟩⟩
  · obtain rfl : q = true := by
      rw [hq]
      unfold zrs at h5 hk
      simp
      omega
    (repeat(first|refine pSeq ?_|refine pReg ?_|refine sCons ?_|refine sNil ?_|refine pBlock ?_|refine pSkip ?_|refine pExit ?_|refine pRet ?_|refine pCond ?_|refine gNone ?_))
    refine app_byte (c := 0) r3 rfl rfl hlen.symm rfl (by omega) (by omega) fun s4 r4 c4 n4 => ?_
    (repeat(first|refine pSeq ?_|refine pReg ?_|refine sCons ?_|refine sNil ?_|refine pBlock ?_|refine pSkip ?_|refine pExit ?_|refine pRet ?_|refine pCond ?_|refine gNone ?_))
    exact ⟨(k + 1, s4), ⟨by omega, by rw [List.replicate_succ', ← List.append_assoc]; exact r4, c3.fresh c4 (by simp)⟩, by show zrs many - (k + 1) < zrs many - k; omega, Wk.same ⟨rfl, rfl, trivial⟩⟩
end Go.Vf.S
