import Derived.Test.YtgnhkclddahdnaaGreatDoorBnA
import Derived.Test.YtgnhkclddahdnaaGreatDoorHdCc
import Derived.Test.YtgnhkclddahdnaaGreatDoorEngBl
/- A strings.Builder: its calls. -/
namespace Go.Vf.S
open Go Go.Vf Go.Proofs Go.RowKit
attribute [local irreducible] wSeq wRow wp wG
set_option linter.unusedVariables false
set_option linter.unusedSimpArgs false
set_option maxRecDepth 10000

abbrev tBl : TypeId := 74

/-- A builder in a block of its own: where its bytes lie, and which they are. -/
structure Bld (s : SS) (b : Nat) (W : Option Addr) (l : List UInt8) : Prop where
  lt : b < s.next
  cell : ∃ p, lookH s.heap b = some (.cells [p, .slice W l.length 0] tBl false false) ∧ (p = .pointer none ∨ p = .pointer (some ⟨b, 0, none⟩))
  own : Own tB s W l
  nil : l = [] → W = none

theorem Bld.off {s : SS} {b : Nat} {W : Option Addr} {l : List UInt8} (h : Bld s b W l) : ∀ id ∈ blkOf W, id ≠ b := by
  obtain ⟨p, h1, -⟩ := h.cell
  have ho := h.own
  cases W with
  | none => simp [blkOf]
  | some a =>
    obtain ⟨g, off, sp⟩ := a
    obtain ⟨-, -, -, gr, h2, -⟩ := ho
    intro id hid
    simp only [blkOf, List.mem_singleton] at hid
    subst hid
    exact tyNe h2 h1 (by decide)
theorem Bld.chg {s s' : SS} {b : Nat} {W : Option Addr} {l : List UInt8} {A : List Nat} (h : Bld s b W l) (c : Chg s s' A) (hb : b ∉ A) (hA : ∀ id ∈ blkOf W, id ∉ A) : Bld s' b W l := by
  obtain ⟨p, h1, h2⟩ := h.cell
  exact ⟨Nat.lt_of_lt_of_le h.lt c.next, ⟨p, c.blk _ _ h.lt hb h1, h2⟩, h.own.chg c hA, h.nil⟩
theorem Bld.new (s : SS) : Bld { s with heap := (s.next, some (.cells [.pointer none, .slice none 0 0] tBl false false)) :: s.heap, next := s.next + 1 } s.next none [] :=
  ⟨Nat.lt_succ_self _, ⟨_, lkH, .inl rfl⟩, rfl, fun _ => rfl⟩

theorem bytesV_get' {l : List UInt8} {j : Nat} {x : UInt8} (h : l[j]? = some x) : (bytesV l)[j]? = some (.int .u8 x.toNat) := by
  unfold bytesV
  rw [List.getElem?_map, h]
  rfl
theorem ptr_at {ρ : Ren} {b : Nat} {e : RE} {v' : Value} (h : VRel ρ (.pointer (some ⟨b, 0, none⟩)) v') (he : ρ b = some e) (h0 : e.off = 0) : v' = .pointer (some ⟨e.blk, 0, none⟩) := by
  obtain ⟨a', rfl, h1, h2, e1, h3, h4, h5⟩ := ptr_inv h
  rw [he] at h3
  cases h3
  obtain ⟨x, y, z⟩ := a'
  simp only at h2 h4 h5
  rw [h2, h4, h5, h0]

set_option maxHeartbeats 1000000 in
theorem copyCheck_w {s : SS} {b : Nat} {p v : Value} (hb : lookH s.heap b = some (.cells [p, v] tBl false false)) (hp : p = .pointer none ∨ p = .pointer (some ⟨b, 0, none⟩)) (hlt : b < s.next) :
    CallW pr 66 [.pointer (some ⟨b, 0, none⟩)] s fun u s' => u = .tuple ⟨[]⟩ ∧ lookH s'.heap b = some (.cells [.pointer (some ⟨b, 0, none⟩), v] tBl false false) ∧ Chg s s' [b] ∧ s'.next = s.next := by
  have hb' : s.st.heap.get b = some (.cells [p, v] tBl false false) := by rw [SS.get]; exact hb
  rcases hp with rfl | rfl
  · refine ⟨.tuple ⟨[]⟩, { s with heap := (b, some (.cells [.pointer (some ⟨b, 0, none⟩), v] tBl false false)) :: s.heap }, ⟨rfl, lkH, .turn hlt, rfl⟩, Nat.le_refl _, rfl, fun B w0 ρ args' w H ha hf => ?_⟩
    obtain ⟨v1, rfl, q1⟩ := lrel_1 ha
    obtain ⟨a', rfl, h1, h2, e, h3, h4, h5⟩ := ptr_inv q1
    obtain ⟨g1, rc, lo, hi, t0, g2, g3, g4, g5, g6, g7, g8⟩ := H.blk _ _ _ hb' h3
    obtain ⟨rfl, g9⟩ := g3 rfl
    obtain ⟨o0, o1, o2⟩ := g9 rfl
    have e1 := ptr_at q1 h3 o0
    rw [e1]
    simp only [List.length_cons, List.length_nil, o0, Nat.zero_add] at g6 g8 g4
    obtain ⟨v0, r0, r1⟩ := g8 0 _ rfl
    cases r1
    have hlr : 2 ≤ rc.length := by omega
    refine (cc_first layCC xCC (c := 1) (by kernel_rfl) e.blk rc.length w (by simp [World.cell?, g2, r0]) (by simp [World.shape?, g2]; rfl) hlr (by
      have := g4 0 (by omega)
      simp [World.frozen?, g2]
      omega)).mono fun x w' hx => ?_
    obtain ⟨rfl, rfl⟩ := hx
    have hsz : e.blk < w.heap.size := H.lt _ _ h3
    refine ⟨_, ρ, rfl, plain_rel rfl, ?_, .refl _ _ _⟩
    refine H.turn (b' := .cells [.pointer (some ⟨b, 0, none⟩), v] tBl false false) h3 hb' rfl rfl (fun i => ?_) rfl (by simp [World.setCell]) (fun k hk => by simp [World.setCell, Array.getElem?_modify, Ne.symm hk]) rfl rfl rfl ?_
    · rw [SS.get, SS.get]
      show lookH ((b, some _) :: s.heap) i = _
      by_cases q : i = b
      · subst q; rw [if_pos rfl]; exact lkH
      · rw [if_neg q]
        simp only [lookH, beqF (Ne.symm q), cond_false]
    · refine ⟨g1, rc.set 0 (.pointer (some ⟨e.blk, 0, none⟩)), lo, hi, tBl, ?_, fun _ => ⟨rfl, fun _ => ⟨o0, by rw [List.length_set]; exact o1, by rw [List.length_set]; exact o2⟩⟩, ?_, ?_, ?_, g7, ?_⟩
      · simp [World.setCell, Array.getElem?_modify, g2]
      · simpa [o0] using g4
      · rw [List.length_set, o0]; omega
      · simp only [List.length_cons, List.length_nil]; omega
      · intro i u hi
        rw [o0, Nat.zero_add]
        match i, hi with
        | 0, hi =>
          cases hi
          exact ⟨_, by rw [List.getElem?_set_self (by omega)], .pointer ⟨rfl, rfl, e, h3, rfl, by simp [o0]⟩⟩
        | i + 1, hi =>
          obtain ⟨v', p1, p2⟩ := g8 (i + 1) u (by simpa using hi)
          exact ⟨v', by rw [List.getElem?_set_ne (by omega)]; exact p1, p2⟩
  · refine ⟨.tuple ⟨[]⟩, s, ⟨rfl, hb, .refl _ _, rfl⟩, Nat.le_refl _, rfl, fun B w0 ρ args' w H ha hf => ?_⟩
    obtain ⟨v1, rfl, q1⟩ := lrel_1 ha
    obtain ⟨a', rfl, h1, h2, e, h3, h4, h5⟩ := ptr_inv q1
    obtain ⟨g1, rc, lo, hi, t0, g2, g3, g4, g5, g6, g7, g8⟩ := H.blk _ _ _ hb' h3
    obtain ⟨rfl, g9⟩ := g3 rfl
    obtain ⟨o0, o1, o2⟩ := g9 rfl
    have e1 := ptr_at q1 h3 o0
    rw [e1]
    obtain ⟨v0, r0, r1⟩ := g8 0 _ rfl
    have e0 := ptr_at r1 h3 o0
    rw [e0, o0] at r0
    refine (Any.Builder_copyCheck_used layCC xCC e.blk w (by simpa [World.cell?, g2] using r0)).mono fun x w' hx => ?_
    obtain ⟨rfl, rfl⟩ := hx
    exact ⟨_, ρ, rfl, plain_rel rfl, H, .refl _ _ _⟩

set_option maxHeartbeats 1000000 in
theorem bString_w {s : SS} {b : Nat} {W : Option Addr} {l : List UInt8} (h : Bld s b W l) (hl : l.length ≤ 1073741824) : CallW pr n_strings_Builder_String [.pointer (some ⟨b, 0, none⟩)] s fun v s' => v = str l ∧ Chg s s' (blkOf W) ∧ s'.next = s.next := by
  obtain ⟨p, hb, -⟩ := h.cell
  have hb' : s.st.heap.get b = some (.cells [p, .slice W l.length 0] tBl false false) := by rw [SS.get]; exact hb
  have ho := h.own
  cases W with
  | none =>
    obtain rfl : l = [] := ho
    refine ⟨_, s, ⟨rfl, .refl _ _, rfl⟩, Nat.le_refl _, rfl, fun B w0 ρ args' w H ha hf => ?_⟩
    obtain ⟨v1, rfl, q1⟩ := lrel_1 ha
    obtain ⟨a', rfl, h1, h2, e, h3, h4, h5⟩ := ptr_inv q1
    obtain ⟨g1, rc, lo, hi, t0, g2, g3, g4, g5, g6, g7, g8⟩ := H.blk _ _ _ hb' h3
    obtain ⟨rfl, g9⟩ := g3 rfl
    obtain ⟨o0, o1, o2⟩ := g9 rfl
    rw [ptr_at q1 h3 o0]
    obtain ⟨v0, r0, r1⟩ := g8 1 _ rfl
    cases r1
    rw [o0] at r0
    have c1 : w.drew.cell? ⟨e.blk, 1, none⟩ = some (.slice none 0 0) := by
      have : w.drew.heap[e.blk]? = some (.cells ⟨rc⟩ tBl (lo, hi)) := g2
      simpa [World.cell?, this] using r0
    refine (str_first Tryz.lays169 Tryz.Builder_Extra_169 e.blk w (.string .empty) w.drew none 0 0 c1 none rfl (Lib.run_unsafeString_none w.drew _ _ _ none)).mono fun x w' hx => ?_
    obtain ⟨rfl, rfl⟩ := hx
    exact ⟨_, ρ, rfl, .string _, H.drew, .refl _ _ _⟩
  | some a =>
    obtain ⟨g, off, sp⟩ := a
    obtain ⟨rfl, rfl, hg, gr, hgb, hgr⟩ := ho
    have hne : l ≠ [] := fun e => by have := h.nil e; cases this
    have hgt : gr = true := by
      cases gr with
      | true => rfl
      | false => exact absurd (hgr rfl) hne
    subst hgt
    have hpos : 0 < l.length := List.length_pos_iff.2 hne
    have hgb' : s.st.heap.get g = some (.cells (bytesV l) tB true false) := by rw [SS.get]; exact hgb
    refine ⟨_, { s with heap := (g, none) :: s.heap }, ⟨rfl, ⟨rfl, Nat.le_refl _, fun id x hid hA hx => lkT (fun e => hA (by simp [blkOf, e])) hx, fun f id hid => ?_⟩, rfl⟩, Nat.le_refl _, rfl, fun B w0 ρ args' w H ha hf => ?_⟩
    · by_cases e : g = id
      · subst e; exact lkH
      · exact lkN e (f id hid)
    obtain ⟨v1, rfl, q1⟩ := lrel_1 ha
    obtain ⟨a', rfl, h1, h2, e, h3, h4, h5⟩ := ptr_inv q1
    obtain ⟨g1, rc, lo, hi, t0, g2, g3, g4, g5, g6, g7, g8⟩ := H.blk _ _ _ hb' h3
    obtain ⟨rfl, g9⟩ := g3 rfl
    obtain ⟨o0, o1, o2⟩ := g9 rfl
    rw [ptr_at q1 h3 o0]
    obtain ⟨v0, r0, r1⟩ := g8 1 _ rfl
    obtain ⟨a2, c2, rfl, hs⟩ := slice_inv r1
    rw [o0] at r0
    obtain ⟨s1, s2, e2, s3, s4, s5⟩ := hs.resolve_right (fun q => by have := q.2.1; omega)
    obtain ⟨k1, rc2, lo2, hi2, t2, k2, k3, k4, k5, k6, k7, k8⟩ := H.blk _ _ _ hgb' s3
    obtain ⟨rfl, -⟩ := k3 rfl
    rcases s5 with ⟨s5, -⟩ | ⟨-, s6, s7, s8, s9⟩
    · rw [k1] at s5; cases s5
    have s10 : a2.off = e2.off := (s9.resolve_left (by omega)).trans (Nat.add_zero _)
    obtain ⟨x2, y2, z2⟩ := a2
    simp only at s2 s4 s10
    subst s2 s4 s10
    have c1 : w.drew.cell? ⟨e.blk, 1, none⟩ = some (.slice (some ⟨e2.blk, e2.off, none⟩) l.length c2) := by
      have : w.drew.heap[e.blk]? = some (.cells ⟨rc⟩ tBl (lo, hi)) := g2
      simpa [World.cell?, this] using r0
    have k2' : w.drew.heap[e2.blk]? = some (.cells ⟨rc2⟩ tB (lo2, hi2)) := k2
    rw [bytesV_len] at k6
    refine (str_first Tryz.lays169 Tryz.Builder_Extra_169 e.blk w (.string ⟨l.toArray⟩) (w.drew.freeze ⟨e2.blk, e2.off, none⟩ l.length) (some ⟨e2.blk, e2.off, none⟩) l.length c2 c1 (some ⟨e2.blk, e2.off, none⟩) (Lib.run_unsafeSliceData_row _ _ _ _ _ _ (by omega))
      (run_strAt Tryz.lays169.t127 Tryz.Builder_Extra_169.cellsByte e2.blk e2.off rc2.length (by simp [World.shape?, k2']; rfl) l hne (by omega) hl (fun j x hx => ?_))).mono fun x w' hx => ?_
    · have hj := lt_of_get hx
      obtain ⟨v', p1, p2⟩ := k8 j _ (bytesV_get' hx)
      rw [int_inv p2] at p1
      have ea : (⟨e2.blk, e2.off, none⟩ : Addr).add j = ⟨e2.blk, e2.off + j, none⟩ := by
        unfold Addr.add
        split
        · rename_i q; subst q; rfl
        · rfl
      rw [ea]
      simpa [World.cell?, k2'] using p1
    obtain ⟨rfl, rfl⟩ := hx
    have hfz : ∀ k, k ≠ e2.blk → (w.drew.freeze ⟨e2.blk, e2.off, none⟩ l.length).heap[k]? = w.drew.heap[k]? := fun k hk => by
      unfold World.freeze
      split
      · rfl
      · simp [Array.getElem?_modify, Ne.symm hk]
    have hfs : (w.drew.freeze ⟨e2.blk, e2.off, none⟩ l.length).heap.size = w.drew.heap.size := by
      unfold World.freeze
      split <;> simp
    refine ⟨_, ρ, rfl, .string _, H.drew.kill s3 hgb' rfl (fun i => ?_) rfl hfs hfz ?_ ?_ ?_, .refl _ _ _⟩
    · rw [SS.get, SS.get]
      show lookH ((g, none) :: s.heap) i = _
      by_cases q : i = g
      · subst q; rw [if_pos rfl]; exact lkH
      · rw [if_neg q]
        simp only [lookH, beqF (Ne.symm q), cond_false]
    all_goals (unfold World.freeze; split <;> rfl)

/-- A text's bytes behind bytes of one's own. -/
theorem app_str {P : Program} {T : TL} {s : SS} {K : RR → Prop} {x y : Operand} {e : TypeId} {base : Option Addr} {a l : List UInt8} {m : Nat} (ho : Own e s base a) (hm : m = a.length) (hx : opd T s.gl x = some (.slice base m 0)) (hy : opd T s.gl y = some (str l)) (h0 : 0 < l.length) (hb : m + l.length ≤ 1073741824)
    (h : ∀ s' : SS, Own e s' (some ⟨s.next, 0, none⟩) (a ++ l) → Chg s s' (blkOf base) → s'.next = s.next + 1 → K (.eff (.slice (some ⟨s.next, 0, none⟩) (m + l.length) 0) s')) : wN P (.app e 1 1 x y) T s K := by
  simp only [wN, hx, hy, wSrc]
  intro new hnew
  subst hnew
  exact appB_own ho hm rfl h0 (by omega) h
theorem app_str0 {P : Program} {T : TL} {s : SS} {K : RR → Prop} {x y : Operand} {e : TypeId} {base : Option Addr} {a : List UInt8} {m : Nat} (ho : Own e s base a) (hn : a = [] → base = none) (hm : m = a.length) (hx : opd T s.gl x = some (.slice base m 0)) (hy : opd T s.gl y = some (str [])) (hb : m ≤ 1073741824)
    (h : K (.val (.slice base m 0))) : wN P (.app e 1 1 x y) T s K := by
  simp only [wN, hx, hy, wSrc]
  intro new hnew
  subst hnew
  refine ⟨⟨by simp; omega, by simp; omega, rfl, rfl⟩, ?_⟩
  cases base with
  | none =>
    obtain rfl : a = [] := ho
    simp only [List.length_nil] at hm
    subst hm
    exact ⟨fun _ => ⟨rfl, h⟩, fun q => by simp at q⟩
  | some q =>
    obtain ⟨b2, off, sp⟩ := q
    obtain ⟨rfl, rfl, h3, g, h4, h5⟩ := ho
    have hg : g = true := by
      cases g with
      | true => rfl
      | false => have := hn (h5 rfl); cases this
    subst hg
    simp only [h4]
    exact ⟨fun _ => h, fun q => by simp at q⟩

theorem bWrite_w {s : SS} {b : Nat} {W : Option Addr} {l m : List UInt8} (h : Bld s b W l) (hl : l.length + m.length ≤ 1000000000) : CallW pr n_strings_Builder_WriteString [.pointer (some ⟨b, 0, none⟩), str m] s fun v s' =>
    ∃ W', v = .tuple ⟨[.int .i64 m.length, .nilIface]⟩ ∧ Bld s' b W' (l ++ m) ∧ Chg s s' (b :: blkOf W) ∧ ∀ id ∈ blkOf W', id ∈ blkOf W ∨ s.next ≤ id := by
  obtain ⟨p, hb, hp⟩ := h.cell
  refine CallW.run good ok_strings_Builder_WriteString (by simp) rfl ?_
  (try refine pSeq ?_); (repeat refine sb ?_)
  refine (copyCheck_w hb hp h.lt).mono fun v s1 q => ?_
  obtain ⟨rfl, hb1, c1, n1⟩ := q
  have own1 : Own tB s1 W l := h.own.chg c1 (fun id hid q => h.off id hid (by simpa using q))
  have lt1 : b < s1.next := by rw [n1]; exact h.lt
  (repeat refine sb ?_)
  refine ld1_is rfl hb1 rfl ?_
  (repeat refine sb ?_)
  by_cases hm : m = []
  · subst hm
    refine app_str0 own1 h.nil rfl rfl rfl (by omega) ?_
    (repeat refine sb ?_)
    refine st_abs (cs' := [.pointer (some ⟨b, 0, none⟩), .slice W l.length 0]) rfl rfl hb1 lt1 rfl rfl fun s2 e2 c2 n2 => ?_
    (repeat refine sb ?_)
    intro n hn
    (repeat refine sb ?_)
    rw [hn]
    have own2 := own1.chg c2 (fun id hid q => h.off id hid (by simpa using q))
    refine ⟨W, rfl, ⟨by rw [n2]; exact lt1, ⟨_, by rw [List.append_nil]; exact e2, .inr rfl⟩, by rw [List.append_nil]; exact own2, fun e => h.nil (by simpa using e)⟩, ?_, fun id hid => .inl hid⟩
    exact c1.trans' c2 (fun id q _ => by simp at q; simp [q]) (fun id q _ => by simp at q; simp [q])
  · have hpos : 0 < m.length := List.length_pos_iff.2 hm
    refine app_str own1 rfl rfl rfl hpos (by omega) fun s2 o2 c2 n2 => ?_
    have hb2 := c2.blk _ _ lt1 (fun q => h.off _ q rfl) hb1
    (repeat refine sb ?_)
    refine st_abs (cs' := [.pointer (some ⟨b, 0, none⟩), .slice (some ⟨s1.next, 0, none⟩) (l.length + m.length) 0]) rfl rfl hb2 (by omega) rfl rfl fun s3 e3 c3 n3 => ?_
    (repeat refine sb ?_)
    intro n hn
    (repeat refine sb ?_)
    rw [hn]
    refine ⟨some ⟨s1.next, 0, none⟩, rfl, ⟨by omega, ⟨_, by rw [List.length_append]; exact e3, .inr rfl⟩, o2.chg c3 (fun id hid q => by simp [blkOf] at hid q; omega), fun e => absurd e (by simp [hm])⟩, ?_, ?_⟩
    · refine (c1.trans' c2 (C := b :: blkOf W) (fun id q _ => by simp at q; simp [q]) (fun id q _ => by simp [q])).trans' c3 (fun id q _ => q) (fun id q _ => by simp at q; simp [q])
    · intro id hid
      simp only [blkOf, List.mem_singleton] at hid
      exact .inr (by omega)
end Go.Vf.S
