import Derived.Test.YtioildcpkcijkaaDoorFrN
/- What a form tells, opened: there and back. -/
namespace Go.Vf.S
open Go Go.Vf Go.Vf.Fr
attribute [local irreducible] wSeq wRow wp wG
set_option linter.unusedVariables false
set_option linter.unusedSimpArgs false
set_option maxRecDepth 10000

theorem byteOf_nat (x : BitVec 32) (j : Nat) : (byteOf (x >>> j)).toNat = x.toNat / 2 ^ j % 256 := by
  simp [byteOf, BitVec.toNat_ushiftRight, Nat.shiftRight_eq_div_pow]
theorem byteOf_nat0 (x : BitVec 32) : (byteOf x).toNat = x.toNat % 256 := by
  simp [byteOf]
theorem ofNat_nat (n : Nat) : (UInt8.ofNat n).toNat = n % 256 := by simp

theorem sealS_cons (a k : BitVec 32) (n : Nat) (l m : List UInt8) : sealS a k n l ++ m = UInt8.ofNat (n / 256) :: UInt8.ofNat n :: byteOf (k >>> 24) :: byteOf (k >>> 16) :: byteOf (k >>> 8) :: byteOf k ::
    byteOf (sumS a k n l >>> 24) :: byteOf (sumS a k n l >>> 16) :: byteOf (sumS a k n l >>> 8) :: byteOf (sumS a k n l) :: (l ++ m) := rfl

theorem sz_cons {n : Nat} (h : n < 65536) (r : List UInt8) : sz (UInt8.ofNat (n / 256) :: UInt8.ofNat n :: r) = n := by
  show (UInt8.ofNat (n / 256)).toNat * 256 + (UInt8.ofNat n).toNat = n
  rw [ofNat_nat, ofNat_nat]
  omega

theorem rd4_be {x : BitVec 32} {l : List UInt8} {i : Nat} (h0 : l.getD i 0 = byteOf (x >>> 24)) (h1 : l.getD (i + 1) 0 = byteOf (x >>> 16)) (h2 : l.getD (i + 2) 0 = byteOf (x >>> 8)) (h3 : l.getD (i + 3) 0 = byteOf x) : rd4 l i = x := by
  apply BitVec.eq_of_toNat_eq
  rw [rd4_nat, h0, h1, h2, h3, byteOf_nat, byteOf_nat, byteOf_nat, byteOf_nat0]
  have := x.isLt
  omega

theorem open_seal (a k : BitVec 32) {n : Nat} {l : List UInt8} (hn : n = l.length) (hl : n ≤ 16384) (m : List UInt8) :
    openE a k (sealS a k n l ++ m) = 0 ∧ sz (sealS a k n l ++ m) = n ∧ ((sealS a k n l ++ m).drop 10).take n = l := by
  have e1 : sz (sealS a k n l ++ m) = n := by rw [sealS_cons]; exact sz_cons (by omega) _
  have e2 : ((sealS a k n l ++ m).drop 10).take n = l := by
    rw [sealS_cons]
    show (l ++ m).take n = l
    rw [hn, List.take_left']
    rfl
  refine ⟨?_, e1, e2⟩
  unfold openE
  have hlen : (sealS a k n l ++ m).length = 10 + n + m.length := by rw [List.length_append, sealS_len]; omega
  rw [if_neg (by omega), if_neg (by omega), if_neg (by omega), if_neg]
  rw [e1, e2]
  have q1 : rd4 (sealS a k n l ++ m) 2 = k := by rw [sealS_cons]; exact rd4_be rfl rfl rfl rfl
  have q2 : rd4 (sealS a k n l ++ m) 6 = sumS a k n l := by rw [sealS_cons]; exact rd4_be rfl rfl rfl rfl
  rw [q1, q2]
  simp

theorem told_open (a k : BitVec 32) {n : Nat} {l : List UInt8} (hn : n = l.length) (hl : n ≤ 16384) (m : List UInt8) :
    openE a k (sealS a k n l ++ m) = 0 ∧ oP a k (sealS a k n l ++ m) = l ∧ oN a k (sealS a k n l ++ m) = 10 + n ∧ oS a k (sealS a k n l ++ m) = sumS a k n l := by
  obtain ⟨h1, h2, h3⟩ := open_seal a k hn hl m
  refine ⟨h1, ?_, ?_, ?_⟩
  · unfold oP; rw [if_pos h1, h2, h3]
  · unfold oN; rw [if_pos h1, h2]
  · unfold oS; rw [if_pos h1, h2, h3]

theorem told_none {a k : BitVec 32} {l : List UInt8} (h : openE a k l ≠ 0) : oP a k l = [] ∧ oN a k l = 0 ∧ oS a k l = 0#32 := by
  refine ⟨?_, ?_, ?_⟩
  · unfold oP; rw [if_neg h]
  · unfold oN; rw [if_neg h]
  · unfold oS; rw [if_neg h]

theorem getD_take {l : List UInt8} {i w : Nat} (h : i < w) : (l.take w).getD i 0 = l.getD i 0 := by
  simp only [List.getD, List.getElem?_take, if_pos h]

theorem open_cut (a k : BitVec 32) {n : Nat} {l : List UInt8} (hn : n = l.length) (hl : n ≤ 16384) {w : Nat} (hw : w < 10 + n) : openE a k ((sealS a k n l).take w) = 4 := by
  have hlen : ((sealS a k n l).take w).length = w := by rw [List.length_take, sealS_len]; omega
  unfold openE
  by_cases h10 : w < 10
  · rw [if_pos (by omega)]
  · have e : sz ((sealS a k n l).take w) = n := by
      unfold sz
      rw [getD_take (by omega), getD_take (by omega)]
      have := sealS_cons a k n l []
      rw [List.append_nil] at this
      rw [this]
      exact sz_cons (by omega) []
    rw [if_neg (by omega), e, if_neg (by omega), if_pos (by omega)]

theorem u8_eq {x y : UInt8} (h : x.toNat = y.toNat) : x = y := UInt8.toNat_inj.1 h

theorem cons_of {l : List UInt8} (h : 0 < l.length) : ∃ x r, l = x :: r := by
  cases l with
  | nil => simp at h
  | cons x r => exact ⟨x, r, rfl⟩

/-- What is opened is the form of what it tells. -/
theorem seal_open (a k : BitVec 32) (m : List UInt8) (h : openE a k m = 0) : 10 + sz m ≤ m.length ∧ sz m ≤ 16384 ∧ sealS a k (sz m) ((m.drop 10).take (sz m)) = m.take (10 + sz m) := by
  unfold openE at h
  by_cases h1 : m.length < 10
  · rw [if_pos h1] at h; omega
  rw [if_neg h1] at h
  by_cases h2 : 16384 < sz m
  · rw [if_pos h2] at h; omega
  rw [if_neg h2] at h
  by_cases h3 : m.length < 10 + sz m
  · rw [if_pos h3] at h; omega
  rw [if_neg h3] at h
  by_cases h4 : rd4 m 2 ≠ k ∨ rd4 m 6 ≠ sumS a k (sz m) ((m.drop 10).take (sz m))
  · rw [if_pos h4] at h; omega
  refine ⟨by omega, by omega, ?_⟩
  have hk : k.toNat = (rd4 m 2).toNat := by
    by_cases q : rd4 m 2 = k
    · rw [q]
    · exact absurd (.inl q) h4
  have hs : (sumS a k (sz m) ((m.drop 10).take (sz m))).toNat = (rd4 m 6).toNat := by
    by_cases q : rd4 m 6 = sumS a k (sz m) ((m.drop 10).take (sz m))
    · rw [q]
    · exact absurd (.inr q) h4
  have := sealS_cons a k (sz m) ((m.drop 10).take (sz m)) []
  rw [List.append_nil] at this
  rw [this]
  generalize sumS a k (sz m) ((m.drop 10).take (sz m)) = S at *
  rw [rd4_nat] at hk hs
  clear this h4 h
  obtain ⟨m0, r0, rfl⟩ := cons_of (l := m) (by omega)
  simp only [List.length_cons] at h1 h3
  obtain ⟨m1, r1, rfl⟩ := cons_of (l := r0) (by omega)
  simp only [List.length_cons] at h1 h3
  obtain ⟨m2, r2, rfl⟩ := cons_of (l := r1) (by omega)
  simp only [List.length_cons] at h1 h3
  obtain ⟨m3, r3, rfl⟩ := cons_of (l := r2) (by omega)
  simp only [List.length_cons] at h1 h3
  obtain ⟨m4, r4, rfl⟩ := cons_of (l := r3) (by omega)
  simp only [List.length_cons] at h1 h3
  obtain ⟨m5, r5, rfl⟩ := cons_of (l := r4) (by omega)
  simp only [List.length_cons] at h1 h3
  obtain ⟨m6, r6, rfl⟩ := cons_of (l := r5) (by omega)
  simp only [List.length_cons] at h1 h3
  obtain ⟨m7, r7, rfl⟩ := cons_of (l := r6) (by omega)
  simp only [List.length_cons] at h1 h3
  obtain ⟨m8, r8, rfl⟩ := cons_of (l := r7) (by omega)
  simp only [List.length_cons] at h1 h3
  obtain ⟨m9, r9, rfl⟩ := cons_of (l := r8) (by omega)
  simp only [List.length_cons] at h1 h3
  have z : sz (m0 :: m1 :: m2 :: m3 :: m4 :: m5 :: m6 :: m7 :: m8 :: m9 :: r9) = m0.toNat * 256 + m1.toNat := rfl
  have b0 := m0.toNat_lt
  have b1 := m1.toNat_lt
  have b2 := m2.toNat_lt
  have b3 := m3.toNat_lt
  have b4 := m4.toNat_lt
  have b5 := m5.toNat_lt
  have b6 := m6.toNat_lt
  have b7 := m7.toNat_lt
  have b8 := m8.toNat_lt
  have b9 := m9.toNat_lt
  have hk' : k.toNat = ((m2.toNat * 256 + m3.toNat) * 256 + m4.toNat) * 256 + m5.toNat := hk
  have hs' : S.toNat = ((m6.toNat * 256 + m7.toNat) * 256 + m8.toNat) * 256 + m9.toNat := hs
  rw [Nat.add_comm 10, List.take_succ_cons, List.take_succ_cons, List.take_succ_cons, List.take_succ_cons, List.take_succ_cons, List.take_succ_cons, List.take_succ_cons, List.take_succ_cons, List.take_succ_cons, List.take_succ_cons]
  rw [z]
  have q0 : UInt8.ofNat ((m0.toNat * 256 + m1.toNat) / 256) = m0 := u8_eq (by rw [ofNat_nat]; omega)
  have q1 : UInt8.ofNat (m0.toNat * 256 + m1.toNat) = m1 := u8_eq (by rw [ofNat_nat]; omega)
  have q2 : byteOf (k >>> 24) = m2 := u8_eq (by rw [byteOf_nat]; omega)
  have q3 : byteOf (k >>> 16) = m3 := u8_eq (by rw [byteOf_nat]; omega)
  have q4 : byteOf (k >>> 8) = m4 := u8_eq (by rw [byteOf_nat]; omega)
  have q5 : byteOf k = m5 := u8_eq (by rw [byteOf_nat0]; omega)
  have q6 : byteOf (S >>> 24) = m6 := u8_eq (by rw [byteOf_nat]; omega)
  have q7 : byteOf (S >>> 16) = m7 := u8_eq (by rw [byteOf_nat]; omega)
  have q8 : byteOf (S >>> 8) = m8 := u8_eq (by rw [byteOf_nat]; omega)
  have q9 : byteOf S = m9 := u8_eq (by rw [byteOf_nat0]; omega)
  rw [q0, q1, q2, q3, q4, q5, q6, q7, q8, q9, List.append_nil]
  rfl

/-- Any bytes behind a block whose room is open: it may be cut. -/
theorem app_cut {T : TL} {s : SS} {x y : Operand} {d : Option Tmp} {ml : List MOper} {R : TL → SS → Prop} {b m cap n c : Nat} {a l : List UInt8} {base : Option Addr}
    (hx : opd T s.gl x = some (.slice (some ⟨b, 0, none⟩) m cap)) (hbk : lookH s.heap b = some (.cells (bytesV a) 5 true false)) (hlt : b < s.next) (hm : m = a.length) (hy : opd T s.gl y = some (.slice base n c)) (hr : Rdb s base n l) (hb : m + n ≤ 4294967296)
    (h : ∀ (b' c' : Nat) (s' : SS), Slc pr s' (some ⟨b', 0, none⟩) (m + n) c' (a ++ l) → lookH s'.heap b' = some (.cells (bytesV (a ++ l)) 5 true false) → (∀ s0, Old s0 s → s0.next ≤ b → Old s0 s' ∧ s0.next ≤ b') → Box (wSeq pr ml (putL T d (.slice (some ⟨b', 0, none⟩) (m + n) c')) s' R)) : wN pr (.app 5 1 1 x y) T s (stepK pr d ml T s R) := by
  have z5 : sizeB pr 5 = some 1 := by kernel_rfl
  rcases Nat.eq_zero_or_pos n with h0 | h0
  · subst h0
    have hl : l = [] := List.eq_nil_of_length_eq_zero hr.1.symm
    subst hl
    simp only [wN, hx, hy]
    refine wSrc_Rdb hr ⟨⟨by omega, by omega, rfl, rfl⟩, ?_⟩
    simp only [hbk]
    refine ⟨fun _ => ?_, fun q => by omega⟩
    refine h b cap s ⟨⟨by simp [hm], rfl, hlt, _, _, _, _, hbk, ?_, bytesV_plain _⟩, _, _, _, _, hbk, fun _ => z5, fun q => by cases q⟩ (by rw [List.append_nil]; exact hbk) fun s0 o q => ⟨o, q⟩
    rw [takeN_bytes (by omega), List.drop_zero, List.take_of_length_le (by omega)]
    simp
  · refine appB_grow hx hbk hm hy hr h0 hb ?_
    refine h s.next 0 _ ⟨⟨by simp [hm, hr.1], rfl, Nat.lt_succ_self _, _, _, _, _, look_head, ?_, bytesV_plain _⟩, _, _, _, _, look_head, fun _ => z5, fun q => by cases q⟩ look_head fun s0 o q => ⟨old_move o q, o.next⟩
    have := hr.1
    rw [takeN_bytes (by simp; omega), List.drop_zero, List.take_of_length_le (by simp; omega)]
end Go.Vf.S
