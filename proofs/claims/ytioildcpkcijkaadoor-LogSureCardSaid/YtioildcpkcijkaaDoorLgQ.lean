import Derived.Test.YtioildcpkcijkaaDoorLgI
import Derived.Test.YtioildcpkcijkaaDoorDkF
/- What a crash leaves of frames: the first so many, each whole, and then what is none, but by chance. -/
namespace Go.Vf.S
open Go Go.Vf Go.Vf.Fr
set_option linter.unusedVariables false
set_option linter.unusedSimpArgs false
set_option maxRecDepth 10000

def pos (all : PL) (m : Nat) : Nat := (ch 0#32 1#32 (all.take m)).length
/-- The m-th frame. -/
def fmt (all : PL) (m : Nat) : List UInt8 := sealS (chS 0#32 1#32 (all.take m)) (1#32 + BitVec.ofNat 32 m) (all.getD m []).length (all.getD m [])
theorem fmt_len (all : PL) (m : Nat) : (fmt all m).length = 10 + (all.getD m []).length := sealS_len ..
theorem take_next' {all : PL} {m : Nat} (h : m < all.length) : all.take (m + 1) = all.take m ++ [all.getD m []] := by
  rw [List.take_add_one, List.getElem?_eq_getElem h, List.getD, List.getElem?_eq_getElem h]; rfl
theorem ch_next {all : PL} {m : Nat} (h : m < all.length) : ch 0#32 1#32 (all.take (m + 1)) = ch 0#32 1#32 (all.take m) ++ fmt all m := by
  have e : (all.take m).length = m := by rw [List.length_take]; omega
  rw [take_next' h, ch_snoc, e]; rfl
theorem pos_next {all : PL} {m : Nat} (h : m < all.length) : pos all (m + 1) = pos all m + (10 + (all.getD m []).length) := by
  unfold pos
  rw [ch_next h, List.length_append, fmt_len]
theorem pos_le {all : PL} {i : Nat} : ∀ {j : Nat}, i ≤ j → j ≤ all.length → pos all i ≤ pos all j
  | 0, h, _ => by obtain rfl : i = 0 := by omega
                  exact Nat.le_refl _
  | j + 1, h, hj => by
    by_cases e : i = j + 1
    · subst e; exact Nat.le_refl _
    · have := pos_le (show i ≤ j by omega) (show j ≤ all.length by omega)
      rw [pos_next (by omega)]
      omega

/-- What waits: the frames from the j-th on. -/
structure Ws (j : Nat) (all : PL) (ws : List (Nat × List UInt8)) : Prop where
  le : j ≤ all.length
  len : ws.length = all.length - j
  at_ : ∀ i, i < ws.length → ws[i]? = some (pos all (j + i), fmt all (j + i))

theorem Ws.none (all : PL) : Ws all.length all [] := ⟨Nat.le_refl _, by simp, fun i h => by simp at h⟩
theorem Ws.snoc {j : Nat} {all : PL} {ws : List (Nat × List UInt8)} (h : Ws j all ws) (p : List UInt8) (k : Nat) : Ws j (all ++ [p]) (ws ++ [((ch 0#32 1#32 all).length, (lgS all k).form p)]) := by
  have hle := h.le
  refine ⟨by simp; omega, by simp [h.len]; omega, fun i hi => ?_⟩
  have tk : ∀ m, m ≤ all.length → (all ++ [p]).take m = all.take m := fun m hm => by rw [List.take_append_of_le_length hm]
  by_cases q : i < ws.length
  · rw [List.getElem?_append_left q, h.at_ i q]
    have := h.len
    have e : (all ++ [p]).getD (j + i) [] = all.getD (j + i) [] := by
      simp only [List.getD]; rw [List.getElem?_append_left (by omega)]
    unfold pos fmt
    rw [tk _ (by omega), e]
  · have hl := h.len
    obtain rfl : i = ws.length := by simp at hi; omega
    rw [List.getElem?_append_right (Nat.le_refl _), Nat.sub_self]
    have ej : j + ws.length = all.length := by omega
    have e : (all ++ [p]).getD all.length [] = p := by simp [List.getD]
    unfold pos fmt
    rw [ej, tk _ (Nat.le_refl _), e, List.take_of_length_le (Nat.le_refl _)]
    show _ = some (_, _)
    unfold Lg.form lgS
    rw [BitVec.add_comm 1#32]
    rfl

def kept (zs : List Int) (i : Nat) : Nat := (max (zs.getD i 0) 0).toNat
theorem cutW_get (ws : List (Nat × List UInt8)) (zs : List Int) (i : Nat) : (cutW ws zs)[i]? = (ws[i]?).map fun w => (w.1, w.2.take (kept zs i)) := by
  unfold cutW kept
  rw [List.getElem?_mapIdx]
theorem cutW_len (ws : List (Nat × List UInt8)) (zs : List Int) : (cutW ws zs).length = ws.length := by simp [cutW]

theorem layF_grows (b : List UInt8) (k : Nat) (w : List UInt8) : b.length ≤ (layF b k w).length := by
  rw [layF_len]; split <;> omega
theorem layF_get (b w : List UInt8) (k j : Nat) (h : j < k ∨ k + w.length ≤ j) : (layF b k w).getD j 0 = b.getD j 0 := by
  unfold layF
  split
  · rfl
  · have ext : ∀ j, (b ++ List.replicate (k + w.length - b.length) 0).getD j 0 = b.getD j (0 : UInt8) := by
      intro j
      simp only [List.getD, List.getElem?_append, List.getElem?_replicate]
      split
      · rfl
      · rename_i q
        rw [List.getElem?_eq_none (by omega : b.length ≤ j)]
        split <;> rfl
    rw [← ext j]
    generalize hB : b ++ List.replicate (k + w.length - b.length) (0 : UInt8) = B
    have lB : k + w.length ≤ B.length := by rw [← hB]; simp; omega
    have lT : (B.take k).length = k := by rw [List.length_take]; omega
    rcases h with q | q
    · simp only [List.getD]
      rw [List.append_assoc, List.getElem?_append_left (by omega), List.getElem?_take, if_pos q]
    · simp only [List.getD]
      rw [List.getElem?_append_right (by simp; omega), List.length_append, lT, List.getElem?_drop]
      congr 3
      omega
theorem layF_at (b w : List UInt8) (k j : Nat) (h : j < w.length) : (layF b k w).getD (k + j) 0 = w.getD j 0 := by
  unfold layF
  split
  · rename_i e; subst e; simp at h
  · generalize hB : b ++ List.replicate (k + w.length - b.length) (0 : UInt8) = B
    have lB : k + w.length ≤ B.length := by rw [← hB]; simp; omega
    have lT : (B.take k).length = k := by rw [List.length_take]; omega
    simp only [List.getD]
    rw [List.append_assoc, List.getElem?_append_right (by omega), lT, Nat.add_sub_cancel_left, List.getElem?_append_left h]

/-- Byte by byte. -/
theorem laid_bytes {j : Nat} {all : PL} {ws : List (Nat × List UInt8)} {zs : List Int} {sure : List UInt8} (hW : Ws j all ws) (hz : ∀ x, pos all j ≤ x → sure.getD x 0 = 0) : ∀ i, i ≤ ws.length →
    sure.length ≤ (lays ((cutW ws zs).take i) sure).length ∧ (∀ x, x < pos all j → (lays ((cutW ws zs).take i) sure).getD x 0 = sure.getD x 0) ∧
    (∀ i' y, i' < i → y < 10 + (all.getD (j + i') []).length → (lays ((cutW ws zs).take i) sure).getD (pos all (j + i') + y) 0 = ((fmt all (j + i')).take (kept zs i')).getD y 0) ∧
    (∀ x, pos all (j + i) ≤ x → (lays ((cutW ws zs).take i) sure).getD x 0 = 0)
  | 0, _ => ⟨Nat.le_refl _, fun _ _ => rfl, fun i' y h => by omega, fun x hx => hz x hx⟩
  | i + 1, hi => by
    obtain ⟨h0, h1, h2, h3⟩ := laid_bytes (zs := zs) hW hz i (by omega)
    have hlen := hW.len
    have hji : j + i < all.length := by omega
    have hc : (cutW ws zs)[i]? = some (pos all (j + i), (fmt all (j + i)).take (kept zs i)) := by rw [cutW_get, hW.at_ i (by omega)]; rfl
    have e : lays ((cutW ws zs).take (i + 1)) sure = layF (lays ((cutW ws zs).take i) sure) (pos all (j + i)) ((fmt all (j + i)).take (kept zs i)) := by
      rw [List.take_add_one, hc]
      exact lays_snoc _ _ _
    rw [e]
    generalize lays ((cutW ws zs).take i) sure = b at h0 h1 h2 h3
    have lw : ((fmt all (j + i)).take (kept zs i)).length ≤ 10 + (all.getD (j + i) []).length := by rw [List.length_take, fmt_len]; omega
    have pn := pos_next hji
    have pj := pos_le (show j ≤ j + i by omega) (show j + i ≤ all.length by omega)
    refine ⟨Nat.le_trans h0 (layF_grows _ _ _), fun x hx => ?_, fun i' y hi' hy => ?_, fun x hx => ?_⟩
    · rw [layF_get _ _ _ _ (.inl (by omega))]; exact h1 x hx
    · by_cases q : i' = i
      · subst q
        by_cases r : y < ((fmt all (j + i')).take (kept zs i')).length
        · exact layF_at _ _ _ _ r
        · rw [layF_get _ _ _ _ (.inr (by omega)), h3 _ (by omega)]
          simp only [List.getD]
          rw [List.getElem?_eq_none (by omega)]; rfl
      · have hlt : pos all (j + i') + y < pos all (j + i) := by
          have a := pos_next (all := all) (m := j + i') (by omega)
          have c := pos_le (all := all) (show j + i' + 1 ≤ j + i by omega) (by omega)
          omega
        rw [layF_get _ _ _ _ (.inl hlt)]
        exact h2 i' y (by omega) hy
    · have : j + (i + 1) = j + i + 1 := by omega
      rw [this, pn] at hx
      rw [layF_get _ _ _ _ (.inr (by omega))]
      exact h3 x (by omega)

theorem bytes_eq {a b : List UInt8} (hl : a.length = b.length) (h : ∀ x, x < a.length → a.getD x 0 = b.getD x 0) : a = b := by
  refine List.ext_getElem? fun x => ?_
  by_cases q : x < a.length
  · have := h x q
    simp only [List.getD, List.getElem?_eq_getElem q, List.getElem?_eq_getElem (show x < b.length by omega), Option.getD_some] at this
    rw [List.getElem?_eq_getElem q, List.getElem?_eq_getElem (show x < b.length by omega), this]
  · rw [List.getElem?_eq_none (by omega), List.getElem?_eq_none (by omega)]

def First (all : PL) (C : List UInt8) (n : Nat) : Prop := ∃ r, C = ch 0#32 1#32 (all.take n) ++ r

theorem most {all : PL} {C : List UInt8} : ∀ (f m : Nat), all.length - m ≤ f → m ≤ all.length → First all C m → ∃ n, m ≤ n ∧ n ≤ all.length ∧ First all C n ∧ (n < all.length → ¬ First all C (n + 1))
  | 0, m, hf, hm, h => ⟨m, Nat.le_refl _, hm, h, fun q => by omega⟩
  | f + 1, m, hf, hm, h => by
    by_cases q : m < all.length ∧ First all C (m + 1)
    · obtain ⟨n, a, b, c, d⟩ := most f (m + 1) (by omega) (by omega) q.2
      exact ⟨n, by omega, b, c, d⟩
    · exact ⟨m, Nat.le_refl _, hm, h, fun q1 q2 => q ⟨q1, q2⟩⟩

theorem sz_of {l : List UInt8} : sz l = (l.getD 0 0).toNat * 256 + (l.getD 1 0).toNat := rfl
theorem rd4_congr {a b : List UInt8} {i : Nat} (h : ∀ x, i ≤ x → x < i + 4 → a.getD x 0 = b.getD x 0) : rd4 a i = rd4 b i := by
  unfold rd4 by4
  rw [h i (by omega) (by omega), h (i + 1) (by omega) (by omega), h (i + 2) (by omega) (by omega), h (i + 3) (by omega) (by omega)]

/-- What is opened hangs on its own bytes alone. -/
theorem open_congr {a k : BitVec 32} {l m : List UInt8} (h : openE a k l = 0) (hm : 10 + sz l ≤ m.length) (he : ∀ x, x < 10 + sz l → l.getD x 0 = m.getD x 0) : openE a k m = 0 ∧ oP a k m = oP a k l := by
  obtain ⟨q1, q2, q3, q4⟩ := open_short h
  have es : sz m = sz l := by rw [sz_of, sz_of, he 0 (by omega), he 1 (by omega)]
  have ep : (m.drop 10).take (sz l) = (l.drop 10).take (sz l) := by
    refine bytes_eq (by simp only [List.length_take, List.length_drop]; omega) fun x hx => ?_
    simp only [List.length_take, List.length_drop] at hx
    have := he (10 + x) (by omega)
    simp only [List.getD, List.getElem?_take, if_pos (show x < sz l by omega), List.getElem?_drop] at this ⊢
    exact this.symm
  have h0 : openE a k m = 0 := by
    have h' := h
    unfold openE at h' ⊢
    rw [if_neg (by omega), if_neg (by omega), if_neg (by omega)] at h'
    rw [if_neg (by omega), es, if_neg (by omega), if_neg (by omega), ep, rd4_congr (a := m) (b := l) (fun x _ _ => (he x (by omega)).symm), rd4_congr (a := m) (b := l) (fun x _ _ => (he x (by omega)).symm)]
    exact h'
  refine ⟨h0, ?_⟩
  unfold oP
  rw [if_pos h0, if_pos h, es, ep]

/-- A torn frame, and bytes 0 behind it. -/
def tornL (all : PL) (n c : Nat) : List UInt8 := (fmt all n).take c ++ List.replicate ((fmt all n).length - c) 0
theorem tornL_len (all : PL) (n c : Nat) : (tornL all n c).length = (fmt all n).length := by
  unfold tornL
  rw [List.length_append, List.length_take, List.length_replicate]
  omega
theorem tornL_get (all : PL) (n c x : Nat) : (tornL all n c).getD x 0 = ((fmt all n).take c).getD x 0 := by
  unfold tornL
  simp only [List.getD, List.getElem?_append, List.getElem?_replicate]
  split
  · rfl
  · rename_i q
    rw [List.getElem?_eq_none (by omega : ((fmt all n).take c).length ≤ x)]
    split <;> rfl

theorem torn_all {j : Nat} {all : PL} {ws : List (Nat × List UInt8)} {zs : List Int} {sure : List UInt8} {z : Nat} (hW : Ws j all ws) (h60 : ∀ p ∈ all, p.length ≤ 60) (hmany : all.length < 4294967295) (hs : sure = ch 0#32 1#32 (all.take j) ++ List.replicate z 0) :
    ∃ n r, j ≤ n ∧ n ≤ all.length ∧ lays (cutW ws zs) sure = ch 0#32 1#32 (all.take n) ++ r ∧ (openE (chS 0#32 1#32 (all.take n)) (1#32 + BitVec.ofNat 32 n) r ≠ 0 ∨
      (openE (chS 0#32 1#32 (all.take n)) (1#32 + BitVec.ofNat 32 n) r = 0 ∧ n < all.length ∧ oP (chS 0#32 1#32 (all.take n)) (1#32 + BitVec.ofNat 32 n) r ≠ all.getD n [] ∧ n - j < zs.length ∧
        openE (chS 0#32 1#32 (all.take n)) (1#32 + BitVec.ofNat 32 n) (tornL all n (kept zs (n - j))) = 0 ∧ oP (chS 0#32 1#32 (all.take n)) (1#32 + BitVec.ofNat 32 n) (tornL all n (kept zs (n - j))) = oP (chS 0#32 1#32 (all.take n)) (1#32 + BitVec.ofNat 32 n) r)) := by
  have hz : ∀ x, pos all j ≤ x → sure.getD x 0 = 0 := fun x hx => by
    have hx' : (ch 0#32 1#32 (all.take j)).length ≤ x := hx
    rw [hs]
    simp only [List.getD]
    rw [List.getElem?_append_right hx', List.getElem?_replicate]
    split <;> rfl
  have hsl : pos all j ≤ sure.length := by rw [hs, List.length_append]; exact Nat.le_add_right _ _
  have key := laid_bytes (zs := zs) hW hz ws.length (Nat.le_refl _)
  have hf : (cutW ws zs).take ws.length = cutW ws zs := List.take_of_length_le (by rw [cutW_len]; exact Nat.le_refl _)
  rw [hf] at key
  generalize lays (cutW ws zs) sure = C at key
  obtain ⟨k0, k1, k2, k3⟩ := key
  have hlen := hW.len
  have hle := hW.le
  have hend : j + ws.length = all.length := by omega
  rw [hend] at k3
  have first : First all C j := by
    refine ⟨C.drop (pos all j), ?_⟩
    have e : ch 0#32 1#32 (all.take j) = C.take (pos all j) := by
      refine bytes_eq (by rw [List.length_take, Nat.min_eq_left (by omega)]; rfl) fun x hx => ?_
      have hx' : x < pos all j := hx
      have := k1 x hx'
      rw [hs] at this
      simp only [List.getD, List.getElem?_take, if_pos hx'] at this ⊢
      rw [this, List.getElem?_append_left hx]
    rw [e, List.take_append_drop]
  obtain ⟨n, n1, n2, ⟨r, hr⟩, n3⟩ := most _ j (Nat.le_refl _) hle first
  have rget : ∀ x, r.getD x 0 = C.getD (pos all n + x) 0 := fun x => by
    rw [hr]
    unfold pos
    simp only [List.getD]
    rw [List.getElem?_append_right (by omega), Nat.add_sub_cancel_left]
  refine ⟨n, r, n1, n2, hr, ?_⟩
  by_cases ho : openE (chS 0#32 1#32 (all.take n)) (1#32 + BitVec.ofNat 32 n) r = 0
  · right
    obtain ⟨o1, o2, o3, o4⟩ := open_short ho
    have hnum : rd4 r 2 = 1#32 + BitVec.ofNat 32 n := by
      have h' := ho
      unfold openE at h'
      rw [if_neg (by omega), if_neg (by omega), if_neg (by omega)] at h'
      by_cases q : rd4 r 2 = 1#32 + BitVec.ofNat 32 n
      · exact q
      · rw [if_pos (.inl q)] at h'; omega
    have hzero : (∀ x, x < 10 → r.getD x 0 = 0) → False := fun h => by
      have e : rd4 r 2 = 0#32 := by
        unfold rd4 by4
        rw [h 2 (by omega), h (2 + 1) (by omega), h (2 + 2) (by omega), h (2 + 3) (by omega)]
        decide
      rw [e] at hnum
      exact succ_ne (n := n) (by omega) hnum.symm
    have hn : n < all.length := by
      rcases Nat.lt_or_ge n all.length with q | q
      · exact q
      · exact (hzero fun x _ => by rw [rget]; exact k3 _ (by rw [show n = all.length by omega]; omega)).elim
    have seg : ∀ y, y < 10 + (all.getD n []).length → r.getD y 0 = ((fmt all n).take (kept zs (n - j))).getD y 0 := fun y hy => by
      rw [rget]
      have := k2 (n - j) y (by omega) (by rw [show j + (n - j) = n by omega]; exact hy)
      rw [show j + (n - j) = n by omega] at this
      exact this
    have hk0 : kept zs (n - j) ≠ 0 := fun q => hzero fun x hx => by
      rw [seg x (by omega), q]; simp
    have hin : n - j < zs.length := by
      rcases Nat.lt_or_ge (n - j) zs.length with q | q
      · exact q
      · exfalso
        apply hk0
        unfold kept
        rw [List.getD, List.getElem?_eq_none q]
        rfl
    have hp60 : (all.getD n []).length ≤ 60 := by
      rw [List.getD, List.getElem?_eq_getElem hn]
      exact h60 _ (List.getElem_mem hn)
    have f0 : (fmt all n).getD 0 0 = 0 := by
      have : (fmt all n).getD 0 0 = UInt8.ofNat ((all.getD n []).length / 256) := rfl
      rw [this, Nat.div_eq_of_lt (by omega)]; rfl
    have f1 : (fmt all n).getD 1 0 = UInt8.ofNat (all.getD n []).length := rfl
    have hsz : sz r ≤ (all.getD n []).length := by
      rw [sz_of, seg 0 (by omega), seg 1 (by omega)]
      have g0 : ((fmt all n).take (kept zs (n - j))).getD 0 0 = 0 := by
        simp only [List.getD, List.getElem?_take, if_pos (Nat.pos_of_ne_zero hk0)]
        exact f0
      rw [g0]
      by_cases q : 1 < kept zs (n - j)
      · have g1 : ((fmt all n).take (kept zs (n - j))).getD 1 0 = UInt8.ofNat (all.getD n []).length := by
          simp only [List.getD, List.getElem?_take, if_pos q]
          exact f1
        rw [g1, ofNat_nat]
        simp
        omega
      · have g1 : ((fmt all n).take (kept zs (n - j))).getD 1 0 = 0 := by
          simp only [List.getD, List.getElem?_take, if_neg q]; rfl
        rw [g1]
        simp
    obtain ⟨t1, t2⟩ := open_congr ho (m := tornL all n (kept zs (n - j))) (by rw [tornL_len, fmt_len]; omega) (fun x hx => by rw [tornL_get, seg x (by omega)])
    refine ⟨ho, hn, fun hp => ?_, hin, t1, t2⟩
    refine n3 hn ⟨r.drop (10 + sz r), ?_⟩
    obtain ⟨s1, s2, s3⟩ := seal_open _ _ _ ho
    have ep : oP (chS 0#32 1#32 (all.take n)) (1#32 + BitVec.ofNat 32 n) r = (r.drop 10).take (sz r) := by unfold oP; rw [if_pos ho]
    rw [← ep, hp] at s3
    have el : sz r = (all.getD n []).length := by
      have := congrArg List.length (ep.symm.trans hp)
      rw [List.length_take, List.length_drop] at this
      omega
    have e4 : fmt all n = r.take (10 + sz r) := by unfold fmt; rw [← s3, el]
    rw [ch_next hn, List.append_assoc, e4, List.take_append_drop]
    exact hr
  · exact .inl ho
end Go.Vf.S
