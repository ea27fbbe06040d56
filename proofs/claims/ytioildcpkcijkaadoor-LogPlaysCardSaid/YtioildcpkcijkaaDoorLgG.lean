import Derived.Test.YtioildcpkcijkaaDoorLgF
import Derived.Test.YtioildcpkcijkaaDoorFrO
/- Payloads in a row: their frames' bytes, and what is recovered of them. -/
namespace Go.Vf.S
open Go Go.Vf Go.Vf.Fr
set_option linter.unusedVariables false
set_option linter.unusedSimpArgs false
set_option maxRecDepth 10000

abbrev PL := List (List UInt8)
/-- Their frames' bytes; the last sum; their frames. -/
def ch (a k : BitVec 32) : PL → List UInt8
  | [] => []
  | p :: ps => sealS a k p.length p ++ ch (sumS a k p.length p) (k + 1#32) ps
def chS (a k : BitVec 32) : PL → BitVec 32
  | [] => a
  | p :: ps => chS (sumS a k p.length p) (k + 1#32) ps
def chF (a k : BitVec 32) : PL → List Fm
  | [] => []
  | p :: ps => ⟨p, 10 + p.length, sumS a k p.length p⟩ :: chF (sumS a k p.length p) (k + 1#32) ps

theorem ofNat_succ (n : Nat) : BitVec.ofNat 32 (n + 1) = BitVec.ofNat 32 n + 1#32 := by
  apply BitVec.eq_of_toNat_eq; simp
theorem add_ofNat (k : BitVec 32) (n : Nat) : k + BitVec.ofNat 32 (n + 1) = k + 1#32 + BitVec.ofNat 32 n := by
  rw [ofNat_succ, BitVec.add_assoc, BitVec.add_comm (BitVec.ofNat 32 n)]
theorem ch_snoc (p : List UInt8) : ∀ (ps : PL) (a k : BitVec 32), ch a k (ps ++ [p]) = ch a k ps ++ sealS (chS a k ps) (k + BitVec.ofNat 32 ps.length) p.length p
  | [], a, k => by simp [ch, chS]
  | q :: ps, a, k => by
    show sealS a k q.length q ++ ch _ _ (ps ++ [p]) = _
    rw [ch_snoc p ps, List.length_cons, add_ofNat k ps.length]
    simp only [ch, chS, List.append_assoc]
theorem chS_snoc (p : List UInt8) : ∀ (ps : PL) (a k : BitVec 32), chS a k (ps ++ [p]) = sumS (chS a k ps) (k + BitVec.ofNat 32 ps.length) p.length p
  | [], a, k => by simp [chS]
  | q :: ps, a, k => by
    show chS _ _ (ps ++ [p]) = _
    rw [chS_snoc p ps, List.length_cons, add_ofNat k ps.length]
    rfl
theorem ch_len : ∀ (ps : PL) (a k : BitVec 32), (ch a k ps).length = total (chF a k ps)
  | [], _, _ => rfl
  | p :: ps, a, k => by
    simp only [ch, chF, total, List.length_append, sealS_len, List.map_cons, List.sum_cons]
    rw [ch_len ps]; rfl
theorem chF_len : ∀ (ps : PL) (a k : BitVec 32), (chF a k ps).length = ps.length
  | [], _, _ => rfl
  | p :: ps, a, k => by simp only [chF, List.length_cons, chF_len ps]
theorem chF_p : ∀ (ps : PL) (a k : BitVec 32), (chF a k ps).map (·.p) = ps
  | [], _, _ => rfl
  | p :: ps, a, k => by simp only [chF, List.map_cons, chF_p ps]
theorem ch_size {c : Nat} : ∀ (ps : PL) (a k : BitVec 32), (∀ p ∈ ps, p.length ≤ c) → (ch a k ps).length ≤ (10 + c) * ps.length
  | [], _, _, _ => Nat.zero_le _
  | p :: ps, a, k, h => by
    have h1 := ch_size ps (sumS a k p.length p) (k + 1#32) (fun q hq => h q (List.mem_cons_of_mem _ hq))
    have h2 := h p (List.mem_cons_self ..)
    simp only [ch, List.length_append, sealS_len, List.length_cons, Nat.mul_add, Nat.mul_one]
    omega

/-- A log of these payloads, so many of them sure. -/
def lgS (ps : PL) (j : Nat) : Lg := ⟨chS 0#32 1#32 ps, BitVec.ofNat 32 ps.length, BitVec.ofNat 32 j, (ch 0#32 1#32 ps).length⟩

theorem after_from : ∀ (ps : PL) (A : Lg) (k : BitVec 32), (chF A.ahead k ps).foldl (fun A f => A.took f.n f.x) A = ⟨chS A.ahead k ps, A.many + BitVec.ofNat 32 ps.length, A.sure, A.size + (ch A.ahead k ps).length⟩
  | [], A, k => by simp [chF, chS, ch]
  | p :: ps, A, k => by
    have := after_from ps (A.took (10 + p.length) (sumS A.ahead k p.length p)) (k + 1#32)
    simp only [chF, List.foldl_cons]
    refine this.trans ?_
    rw [List.length_cons, add_ofNat A.many ps.length]
    simp only [Lg.took, chS, ch, List.length_append, sealS_len, Lg.mk.injEq, true_and]
    omega
theorem after_ch (ps : PL) : after (chF 0#32 1#32 ps) = lgS ps 0 := by
  refine (after_from ps ⟨0#32, 0#32, 0#32, 0⟩ 1#32).trans ?_
  simp [lgS]
theorem lgS_synced (ps : PL) (j : Nat) : (lgS ps j).synced = lgS ps ps.length := rfl
theorem lgS_form (ps : PL) (j : Nat) (p : List UInt8) : ch 0#32 1#32 (ps ++ [p]) = ch 0#32 1#32 ps ++ (lgS ps j).form p := by
  rw [ch_snoc, BitVec.add_comm 1#32]; rfl
theorem form_len (A : Lg) (p : List UInt8) : (A.form p).length = 10 + p.length := sealS_len ..
theorem lgS_took (ps : PL) (j : Nat) (p : List UInt8) : (lgS ps j).took (10 + p.length) (sumS (lgS ps j).ahead ((lgS ps j).many + 1#32) p.length p) = lgS (ps ++ [p]) j := by
  have e : (ch 0#32 1#32 (ps ++ [p])).length = (ch 0#32 1#32 ps).length + (10 + p.length) := by rw [lgS_form ps j, List.length_append, form_len]
  unfold Lg.took lgS
  rw [e, chS_snoc, List.length_append, List.length_singleton, ofNat_succ ps.length, BitVec.add_comm 1#32]
theorem lgS_many (ps : PL) (j : Nat) (p : List UInt8) : (lgS ps j).many + 1#32 = BitVec.ofNat 32 (ps ++ [p]).length := by
  rw [List.length_append, List.length_singleton, ofNat_succ ps.length]; rfl

theorem short_stop {a k : BitVec 32} {r : List UInt8} (h : r.length < 10) : openE a k r ≠ 0 := by unfold openE; rw [if_pos h]; omega
theorem zero_stop {a k : BitVec 32} {n : Nat} (hk : k ≠ 0#32) : openE a k (List.replicate n 0) ≠ 0 := by
  by_cases h : n < 10
  · exact short_stop (by simpa using h)
  have g : ∀ i, (List.replicate n (0 : UInt8)).getD i 0 = 0 := fun i => by
    simp only [List.getD, List.getElem?_replicate]; split <;> rfl
  have hs : sz (List.replicate n 0) = 0 := by unfold sz; rw [g, g]; rfl
  have hr : rd4 (List.replicate n 0) 2 = 0#32 := by unfold rd4 by4; rw [g, g, g, g]; decide
  unfold openE
  rw [if_neg (by simpa using h), hs, if_neg (by omega), if_neg (by simp; omega), hr, if_pos (.inl (fun e => hk e.symm))]
  omega

theorem frs_ch {r : List UInt8} : ∀ (ps : PL) (m : Nat) (a k : BitVec 32), (∀ p ∈ ps, p.length ≤ 16384) → ps.length ≤ m → frs m a k (ch a k ps ++ r) = chF a k ps ++ frs (m - ps.length) (chS a k ps) (k + BitVec.ofNat 32 ps.length) r
  | [], m, a, k, _, _ => by simp [ch, chF, chS]
  | p :: ps, 0, a, k, _, h => by simp at h
  | p :: ps, m + 1, a, k, h, hm => by
    have hp := h p (List.mem_cons_self ..)
    obtain ⟨t1, t2, t3, t4⟩ := told_open a k (n := p.length) rfl hp (ch (sumS a k p.length p) (k + 1#32) ps ++ r)
    have e : ch a k (p :: ps) ++ r = sealS a k p.length p ++ (ch (sumS a k p.length p) (k + 1#32) ps ++ r) := by simp only [ch, List.append_assoc]
    rw [e, frs_more t1, opF, t2, t3, t4]
    have ed : (sealS a k p.length p ++ (ch (sumS a k p.length p) (k + 1#32) ps ++ r)).drop (10 + p.length) = ch (sumS a k p.length p) (k + 1#32) ps ++ r := by
      rw [List.drop_left' (sealS_len ..)]
    rw [ed, frs_ch ps m _ _ (fun q hq => h q (List.mem_cons_of_mem _ hq)) (by simpa using hm)]
    rw [List.length_cons, add_ofNat k ps.length, Nat.add_sub_add_right]
    rfl

theorem frs_all {ps : PL} {r : List UInt8} (h : ∀ p ∈ ps, p.length ≤ 16384) (hr : openE (chS 0#32 1#32 ps) (1#32 + BitVec.ofNat 32 ps.length) r ≠ 0) : frs (ch 0#32 1#32 ps ++ r).length 0#32 1#32 (ch 0#32 1#32 ps ++ r) = chF 0#32 1#32 ps := by
  have hl : ps.length ≤ (ch 0#32 1#32 ps).length := by
    have : ∀ (ps : PL) (a k : BitVec 32), ps.length ≤ (ch a k ps).length := by
      intro ps
      induction ps with
      | nil => intro a k; exact Nat.zero_le _
      | cons p ps ih => intro a k; have := ih (sumS a k p.length p) (k + 1#32); simp only [ch, List.length_append, sealS_len, List.length_cons]; omega
    exact this _ _ _
  rw [frs_ch ps _ _ _ h (by rw [List.length_append]; omega), frs_stop hr, List.append_nil]

theorem succ_ne {n : Nat} (h : n < 4294967295) : 1#32 + BitVec.ofNat 32 n ≠ 0#32 := by
  intro e
  have := congrArg BitVec.toNat e
  simp at this
  omega
end Go.Vf.S
