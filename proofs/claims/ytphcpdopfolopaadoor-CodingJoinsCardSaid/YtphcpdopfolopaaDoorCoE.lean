import Derived.Test.YtphcpdopfolopaaDoorTxO
import Derived.Test.YtphcpdopfolopaaDoorCoD
import Derived.Test.YtphcpdopfolopaaDoorEngBg
import Derived.Test.YtphcpdopfolopaaDoorEngBd
/- What all texts of the layer lean on: blocks laid, rows with room, numbers of 64 bits; the kinds. -/
namespace Go.Vf.S
open Go Go.Vf Go.Proofs Go.RowKit
attribute [local irreducible] wSeq wRow wp wG
set_option linter.unusedVariables false
set_option linter.unusedSimpArgs false
set_option maxRecDepth 10000

theorem bytes_take {l : List UInt8} {n : Nat} (h : l.length = n) : takeN n ((bytesV l).drop 0) = some (bytesV l) := by
  rw [List.drop_zero, takeN_take _ _ (by rw [bytesV_len]; omega), List.take_of_length_le (by rw [bytesV_len]; omega)]
theorem cell_slc {s : SS} {b : Nat} {t : TypeId} {l : List UInt8} {n : Nat} (h : lookH s.heap b = some (.cells (bytesV l) t false false)) (hb : b < s.next) (hl : l.length = n) : Slc pr s (some ⟨b, 0, none⟩) n n l :=
  by
    subst hl
    exact ⟨⟨rfl, rfl, hb, _, _, _, _, h, bytes_take rfl, bytesV_plain _⟩, _, _, _, _, h, fun q => (by cases q), fun _ => Nat.le_refl _⟩
/-- A block of one's own as it stands: nothing else is told of it. -/
abbrev ptrV (b : Nat) : Value := .pointer (some ⟨b, 0, none⟩)
/-- Blocks that are laid one after another. -/
theorem new1_at {s : SS} (f : Fine s) (b0 : ABlk) : lookH ((s.next, some b0) :: s.heap) s.next = some b0 ∧ Chg s { s with heap := (s.next, some b0) :: s.heap, next := s.next + 1 } [] ∧ Fine { s with heap := (s.next, some b0) :: s.heap, next := s.next + 1 } :=
  ⟨lkH, .new [], (Chg.new []).fine f⟩
theorem new2_at {s : SS} (f : Fine s) (b0 b1 : ABlk) : lookH ((s.next + 1, some b1) :: (s.next, some b0) :: s.heap) s.next = some b0 ∧ lookH ((s.next + 1, some b1) :: (s.next, some b0) :: s.heap) (s.next + 1) = some b1
    ∧ Chg s { s with heap := (s.next + 1, some b1) :: (s.next, some b0) :: s.heap, next := s.next + 1 + 1 } [] ∧ Fine { s with heap := (s.next + 1, some b1) :: (s.next, some b0) :: s.heap, next := s.next + 1 + 1 } := by
  obtain ⟨h1, h2, h3⟩ := new1_at f b0
  obtain ⟨k1, k2, k3⟩ := new1_at h3 b1
  exact ⟨lkT (by omega) lkH, lkH, h2.nil k2, k3⟩
theorem new3_at {s : SS} (f : Fine s) (b0 b1 b2 : ABlk) : lookH ((s.next + 1 + 1, some b2) :: (s.next + 1, some b1) :: (s.next, some b0) :: s.heap) s.next = some b0 ∧ lookH ((s.next + 1 + 1, some b2) :: (s.next + 1, some b1) :: (s.next, some b0) :: s.heap) (s.next + 1) = some b1
    ∧ lookH ((s.next + 1 + 1, some b2) :: (s.next + 1, some b1) :: (s.next, some b0) :: s.heap) (s.next + 1 + 1) = some b2
    ∧ Chg s { s with heap := (s.next + 1 + 1, some b2) :: (s.next + 1, some b1) :: (s.next, some b0) :: s.heap, next := s.next + 1 + 1 + 1 } [] ∧ Fine { s with heap := (s.next + 1 + 1, some b2) :: (s.next + 1, some b1) :: (s.next, some b0) :: s.heap, next := s.next + 1 + 1 + 1 } := by
  obtain ⟨h0, h1, h2, h3⟩ := new2_at f b0 b1
  obtain ⟨k1, k2, k3⟩ := new1_at h3 b2
  exact ⟨lkT (by omega) h0, lkT (by omega) h1, lkH, h2.nil k2, k3⟩
theorem new4_at {s : SS} (f : Fine s) (b0 b1 b2 b3 : ABlk) : lookH ((s.next + 1 + 1 + 1, some b3) :: (s.next + 1 + 1, some b2) :: (s.next + 1, some b1) :: (s.next, some b0) :: s.heap) s.next = some b0 ∧ lookH ((s.next + 1 + 1 + 1, some b3) :: (s.next + 1 + 1, some b2) :: (s.next + 1, some b1) :: (s.next, some b0) :: s.heap) (s.next + 1) = some b1
    ∧ lookH ((s.next + 1 + 1 + 1, some b3) :: (s.next + 1 + 1, some b2) :: (s.next + 1, some b1) :: (s.next, some b0) :: s.heap) (s.next + 1 + 1) = some b2 ∧ lookH ((s.next + 1 + 1 + 1, some b3) :: (s.next + 1 + 1, some b2) :: (s.next + 1, some b1) :: (s.next, some b0) :: s.heap) (s.next + 1 + 1 + 1) = some b3
    ∧ Chg s { s with heap := (s.next + 1 + 1 + 1, some b3) :: (s.next + 1 + 1, some b2) :: (s.next + 1, some b1) :: (s.next, some b0) :: s.heap, next := s.next + 1 + 1 + 1 + 1 } [] ∧ Fine { s with heap := (s.next + 1 + 1 + 1, some b3) :: (s.next + 1 + 1, some b2) :: (s.next + 1, some b1) :: (s.next, some b0) :: s.heap, next := s.next + 1 + 1 + 1 + 1 } := by
  obtain ⟨h0, h1, h2, h3, h4⟩ := new3_at f b0 b1 b2
  obtain ⟨k1, k2, k3⟩ := new1_at h4 b3
  exact ⟨lkT (by omega) h0, lkT (by omega) h1, lkT (by omega) h2, lkH, h3.nil k2, k3⟩
/-- Bytes of one's own in a block that has room for more. -/
def Room (s : SS) (b cap : Nat) (d : List UInt8) : Prop := b < s.next ∧ d.length ≤ cap ∧ lookH s.heap b = some (.cells (bytesV (d ++ List.replicate (cap - d.length) 0)) tB false false)
theorem Room.chg {s s' : SS} {b cap : Nat} {d : List UInt8} {A : List Nat} (h : Room s b cap d) (c : Chg s s' A) (hA : b ∉ A) : Room s' b cap d := ⟨Nat.lt_of_lt_of_le h.1 c.next, h.2.1, c.blk _ _ h.1 hA h.2.2⟩
theorem Room.rdb {s : SS} {b cap : Nat} {d : List UInt8} (h : Room s b cap d) : Rdb s (some ⟨b, 0, none⟩) d.length d := by
  refine ⟨rfl, rfl, h.1, _, _, _, _, h.2.2, ?_, bytesV_plain _⟩
  rw [takeN_bytes (by rw [List.length_append]; omega), List.drop_zero, List.take_append_of_le_length (Nat.le_refl _), List.take_length]
theorem Room.slc {s : SS} {b cap : Nat} {d : List UInt8} (h : Room s b cap d) : Slc pr s (some ⟨b, 0, none⟩) d.length cap d := by
  exact ⟨h.rdb, _, _, _, _, h.2.2, fun q => (by cases q), fun _ => h.2.1⟩
theorem app_room {T : TL} {s : SS} {K : RR → Prop} {x y : Operand} {b cap m n c : Nat} {d l : List UInt8} {base : Option Addr} (ho : Room s b cap d) (hx : opd T s.gl x = some (.slice (some ⟨b, 0, none⟩) m cap)) (hm : m = d.length)
    (hy : opd T s.gl y = some (.slice base n c)) (hr : Rdb s base n l) (hmn : m + n ≤ cap) (hb : cap ≤ 4294967296)
    (h : ∀ s' : SS, Room s' b cap (d ++ l) → Chg s s' [b] → s'.next = s.next → K (.eff (.slice (some ⟨b, 0, none⟩) (m + n) cap) s')) : wN pr (.app tB 1 1 x y) T s K := by
  have hn := hr.1
  have h1 := ho.2.1
  refine appB_room hx ho.2.2 (by rw [List.length_append, List.length_replicate]; omega) hy hr hmn hb ?_
  have e : (d ++ List.replicate (cap - d.length) 0).take m ++ l ++ (d ++ List.replicate (cap - d.length) 0).drop (m + n) = (d ++ l) ++ List.replicate (cap - (d ++ l).length) 0 := by
    subst hm; subst hn
    rw [List.take_append_of_le_length (Nat.le_refl _), List.take_length, List.drop_append, List.drop_of_length_le (by omega), List.nil_append, List.drop_replicate, List.length_append]
    congr 2
    omega
  rw [e]
  exact h _ ⟨ho.1, by rw [List.length_append]; omega, lkH⟩ (.turn ho.1) rfl
/-- One byte in a block of its own. -/
theorem byte_rdb {s : SS} {b : Nat} {c : UInt8} {t : TypeId} {g : Bool} (h : lookH s.heap b = some (.cells (bytesV [c]) t g false)) (hb : b < s.next) : Rdb s (some ⟨b, 0, none⟩) 1 [c] :=
  ⟨rfl, rfl, hb, _, _, _, _, h, rfl, bytesV_plain _⟩
/-- One byte behind. -/
theorem app_byte {T : TL} {s : SS} {K : RR → Prop} {x y : Operand} {b cap m : Nat} {d : List UInt8} {c : UInt8} {z : Int} (ho : Room s b cap d) (hz : z = (c.toNat : Int)) (hx : opd T s.gl x = some (.slice (some ⟨b, 0, none⟩) m cap)) (hm : m = d.length)
    (hy : opd T s.gl y = some (.slice (some ⟨s.next, 0, none⟩) 1 1)) (hmn : m + 1 ≤ cap) (hb : cap ≤ 4294967296)
    (h : ∀ s' : SS, Room s' b cap (d ++ [c]) → Chg s s' [b] → s'.next = s.next + 1 → K (.eff (.slice (some ⟨b, 0, none⟩) (m + 1) cap) s')) :
    wN pr (.app tB 1 1 x y) T { s with heap := (s.next, some (.cells [.int .u8 z] tB false false)) :: s.heap, next := s.next + 1 } K := by
  subst hz
  have c0 : Chg s { s with heap := (s.next, some (.cells [.int .u8 (c.toNat : Int)] tB false false)) :: s.heap, next := s.next + 1 } [] := .new []
  refine app_room (ho.chg c0 (by simp)) hx hm hy (byte_rdb (c := c) lkH (Nat.lt_succ_self _)) hmn hb fun s' r c1 n1 => h s' r (c0.nil c1) n1
theorem rep_bytes (n : Nat) : repeatL n [.int .u8 0] = bytesV (List.replicate n 0) := repeat_bytes n
theorem fdiv_pow (n k : Nat) : (n : Int).fdiv (2 ^ k) = ((n / 2 ^ k : Nat) : Int) := by
  rw [Int.fdiv_eq_ediv_of_nonneg _ (by exact Int.le_of_lt (Int.pow_pos (by decide)))]
  rw [Int.natCast_ediv]
  simp
theorem mark_is10 {T : TL} {s : SS} {K : RR → Prop} {x : Operand} {b off n c : Nat} {cs : List Value} {t : TypeId} (hx : opd T s.gl x = some (.slice (some ⟨b, off, none⟩) n c)) (hb : lookH s.heap b = some (.cells cs t false false))
    (h : K (.eff (.slice (some ⟨b, off, none⟩) n c) s)) : wN pr (.mark x) T s K := by
  simp only [wN, hx, hb]
  exact h
theorem toStr_is10 {T : TL} {s : SS} {K : RR → Prop} {b n c : Nat} {x : Operand} {l : List UInt8} {t : TypeId} {g r : Bool} (hx : opd T s.gl x = some (.slice (some ⟨b, 0, none⟩) n c)) (hb : lookH s.heap b = some (.cells (bytesV l) t g r)) (hn : l.length = n) (h : K (.val (str l))) : wN pr (.toStr x) T s K := by
  simp only [wN, hx, hb]
  exact ⟨l, bytes_take hn, h⟩
/-- Bytes behind none. -/
theorem app_none {T : TL} {s : SS} {K : RR → Prop} {x y : Operand} {n c : Nat} {l : List UInt8} {sb : Option Addr} (hx : opd T s.gl x = some (.slice none 0 0)) (hy : opd T s.gl y = some (.slice sb n c)) (hr : Rdb s sb n l) (hb : n ≤ 1000000) (hK : ∀ v, K (.eff v s) → K (.val v))
    (h : ∀ (b' : Option Addr) (s' : SS), Own tB s' b' l → (∀ id ∈ blkOf b', s.next ≤ id) → Chg s s' [] → K (.eff (.slice b' n 0) s')) : wN pr (.app tB 1 1 x y) T s K := by
  rcases Nat.eq_zero_or_pos n with h0 | h0
  · subst h0
    have hl : l = [] := List.eq_nil_of_length_eq_zero hr.1.symm
    subst hl
    exact appB_zero hx hy hr (hK _ (h none s rfl (by simp [blkOf]) (.refl _ _)))
  · refine appB_nil hx hy hr h0 (by omega) ?_
    exact h (some ⟨s.next, 0, none⟩) _ ⟨rfl, rfl, Nat.lt_succ_self _, true, lkH, fun q => by cases q⟩ (fun id hid => by simp [blkOf] at hid; omega) (.new _)
/-- Bytes behind one's own. -/
theorem app_mine {T : TL} {s : SS} {K : RR → Prop} {x y : Operand} {m n c : Nat} {a l : List UInt8} {base sb : Option Addr} (ho : Own tB s base a) (hm : m = a.length) (hx : opd T s.gl x = some (.slice base m 0)) (hy : opd T s.gl y = some (.slice sb n c)) (hr : Rdb s sb n l) (h0 : 0 < n) (hb : m + n ≤ 10000000)
    (h : ∀ s' : SS, Own tB s' (some ⟨s.next, 0, none⟩) (a ++ l) → Chg s s' (blkOf base) → s'.next = s.next + 1 → K (.eff (.slice (some ⟨s.next, 0, none⟩) (m + n) 0) s')) : wN pr (.app tB 1 1 x y) T s K :=
  app_own ho hm hx hy hr h0 (by omega) h
/-- One byte behind one's own. -/
theorem app_mine1 {T : TL} {s : SS} {K : RR → Prop} {x y : Operand} {m : Nat} {a : List UInt8} {c : UInt8} {z : Int} {base : Option Addr} (ho : Own tB s base a) (hz : z = (c.toNat : Int)) (hm : m = a.length) (hx : opd T s.gl x = some (.slice base m 0)) (hy : opd T s.gl y = some (.slice (some ⟨s.next, 0, none⟩) 1 1)) (hb : m + 1 ≤ 10000000)
    (h : ∀ s' : SS, Own tB s' (some ⟨s.next + 1, 0, none⟩) (a ++ [c]) → Chg s s' (blkOf base) → s'.next = s.next + 1 + 1 → K (.eff (.slice (some ⟨s.next + 1, 0, none⟩) (m + 1) 0) s')) :
    wN pr (.app tB 1 1 x y) T { s with heap := (s.next, some (.cells [.int .u8 z] tB false false)) :: s.heap, next := s.next + 1 } K := by
  subst hz
  have c0 : Chg s { s with heap := (s.next, some (.cells [.int .u8 (c.toNat : Int)] tB false false)) :: s.heap, next := s.next + 1 } [] := .new []
  refine app_mine (ho.chg c0 (by simp)) hm hx hy (byte_rdb (c := c) lkH (Nat.lt_succ_self _)) (by omega) hb fun s' r c1 n1 => h s' r (c0.nil c1) n1
/-- Bytes, perhaps none, behind some of one's own. -/
theorem app_own0 {T : TL} {s : SS} {K : RR → Prop} {x y : Operand} {m n c b : Nat} {a l : List UInt8} {sb : Option Addr} (ho : Own tB s (some ⟨b, 0, none⟩) a) (hm : m = a.length) (h1 : 0 < m) (hx : opd T s.gl x = some (.slice (some ⟨b, 0, none⟩) m 0)) (hy : opd T s.gl y = some (.slice sb n c)) (hr : Rdb s sb n l) (hb : m + n ≤ 10000000) (hK : ∀ v, K (.eff v s) → K (.val v))
    (h : ∀ (b' : Option Addr) (s' : SS), Own tB s' b' (a ++ l) → (∀ id ∈ blkOf b', id = b ∨ s.next ≤ id) → Chg s s' [b] → K (.eff (.slice b' (m + n) 0) s')) : wN pr (.app tB 1 1 x y) T s K := by
  rcases Nat.eq_zero_or_pos n with h0 | h0
  · subst h0
    have hl : l = [] := List.eq_nil_of_length_eq_zero hr.1.symm
    subst hl
    obtain ⟨_, _, h3, g, h4, h5⟩ := ho
    have hg : g = true := by
      cases g with
      | true => rfl
      | false => have := h5 rfl; subst this; simp at hm; omega
    subst hg
    simp only [wN, hx, hy]
    refine wSrc_Rdb hr ⟨⟨by omega, by omega, rfl, rfl⟩, ?_⟩
    simp only [h4]
    refine ⟨fun _ => hK _ (h (some ⟨b, 0, none⟩) s ?_ (by simp [blkOf]) (.refl _ _)), fun q => by omega⟩
    rw [List.append_nil]
    exact ⟨rfl, rfl, h3, true, h4, fun q => by cases q⟩
  · refine app_own ho hm hx hy hr h0 (by omega) fun s' o' c' n' => ?_
    exact h _ s' o' (fun id hid => by simp [blkOf] at hid; omega) c'
theorem own_some {s : SS} {b : Option Addr} {l : List UInt8} (h : Own tB s b l) (hl : 0 < l.length) : ∃ a, b = some ⟨a, 0, none⟩ := by
  cases b with
  | none =>
    have : l = [] := h
    subst this
    simp at hl
  | some a =>
    obtain ⟨a, off, sp⟩ := a
    obtain ⟨rfl, rfl, _⟩ := h
    exact ⟨a, rfl⟩
abbrev fnV (n : Nat) : Value := .func (.func n) #[] #[]
/-- A thing of an array that is a value. -/
theorem gen_ix {T : TL} {s : SS} {K : RR → Prop} {t elem : TypeId} {len : Nat} {x i : Tmp} {cs : List Value} {k : IntKind} {n : Nat} {v : Value} (hu : pr.underlying t = some (.array len elem)) (hz : sizeB pr elem = some 1) (ha : aggB pr elem = some false)
    (hx : look T x = some (.agg ⟨cs⟩)) (hi : look T i = some (.int k (n : Int))) (hn : n < len) (hv : cs[n]? = some v) (h : K (.val v)) : wN pr (.gen (.index t (.tmp x) (.tmp i))) T s K := by
  refine ⟨.val v, ?_, h⟩
  have e : idx (.int k (n : Int)) len = some n := by
    show (bif Nat.blt n len then some n else none) = _
    rw [show Nat.blt n len = true from by rw [Nat.blt_eq]; exact hn]; rfl
  simp only [aOp, operand, toTr_get, hx, hi, hu, e, hz, partB, ha, Nat.mul_one, hv]
  rfl
/-- Any bytes behind a block that is full. -/
theorem app_full {T : TL} {s : SS} {K : RR → Prop} {x y : Operand} {b m n c : Nat} {d l : List UInt8} {base : Option Addr} (hx : opd T s.gl x = some (.slice (some ⟨b, 0, none⟩) m m)) (hb : lookH s.heap b = some (.cells (bytesV d) tB false false)) (hlt : b < s.next) (hm : m = d.length)
    (hy : opd T s.gl y = some (.slice base n c)) (hr : Rdb s base n l) (hbd : m + n ≤ 1000000)
    (h : ∀ (b' c' : Nat) (s' : SS), Slc pr s' (some ⟨b', 0, none⟩) (m + n) c' (d ++ l) → Chg s s' [b] → K (.eff (.slice (some ⟨b', 0, none⟩) (m + n) c') s')) : wN pr (.app tB 1 1 x y) T s K := by
  rcases Nat.eq_zero_or_pos n with h0 | h0
  · subst h0
    have hl : l = [] := List.eq_nil_of_length_eq_zero hr.1.symm
    subst hl
    refine appB_room hx hb hm.symm hy hr (by omega) (by omega) ?_
    have e : d.take m ++ [] ++ d.drop (m + 0) = d := by simp
    rw [e]
    refine h b m _ ?_ (.turn hlt)
    rw [List.append_nil]
    exact cell_slc lkH hlt (by omega)
  · refine appB_new hx hb hm hy hr (by omega) (by omega) ?_
    refine h s.next 0 _ ⟨⟨by rw [List.length_append, hm, hr.1], rfl, Nat.lt_succ_self _, _, _, _, _, lkH, bytes_take (by rw [List.length_append, hm, hr.1]), bytesV_plain _⟩, _, _, _, _, lkH, fun _ => sz_B, fun q => (by cases q)⟩ (.new _)
theorem byte_wf10 {z : Int} (h : (Lit.int .u8 z).wf = true) : ∃ c : UInt8, z = (c.toNat : Int) := by
  have : 0 ≤ z ∧ z ≤ 255 := by simpa [Lit.wf, IntKind.min, IntKind.max, IntKind.signed, IntKind.bits] using h
  exact ⟨UInt8.ofNat z.toNat, by rw [UInt8.toNat_ofNat']; omega⟩
/-- Bytes that are handed in. -/
theorem arg_bs {H : Type} {enc : TypeId × Value → H} {W : World} {v : Value} {d : DataW H} {ps : List MemPlace} {base : Nat} (hok : Value.okWide pr W .any base 22 v) (h : DataW.Trod enc pr W 0 (fun _ => true) true 22 v d ps) (hnf : ∀ b off, MemPlace.cell b off ∈ ps → W.frozen? ⟨b, off, none⟩ = false) (id : Nat) :
    ∃ (ba : Option Addr) (l : List UInt8) (xs : List (RE × ABlk)), GoodL pr W xs id ∧ (∀ ρ : Ren, Laid xs id ρ → VRel ρ (.slice ba l.length 0) v) ∧ ∀ s : SS, LaidS xs id s → Slc pr s ba l.length 0 l := by
  obtain ⟨ba, zs, xs, h1, h2, h3, h4, h5⟩ := arg_ints (k := .u8) (show pr.underlying 22 = some (.slice tB) by kernel_rfl) (show pr.underlying tB = some (.int .u8) by kernel_rfl) (by kernel_rfl) hok h hnf id
  refine ⟨ba, zs.map fun z => UInt8.ofNat z.toNat, xs, h1, fun ρ hρ => by rw [List.length_map]; exact h2 ρ hρ, fun s hs => ?_⟩
  rcases h5 with ⟨rfl, rfl⟩ | ⟨rfl, e1, rfl⟩
  · exact ⟨⟨rfl, rfl⟩, trivial⟩
  · have hb := hs.1 0 _ rfl
    have hlt : id + 0 < s.next := by have := hs.2; simp at this; omega
    have e : (zs.map fun z => Value.int .u8 z) = bytesV (zs.map fun z => UInt8.ofNat z.toNat) := by
      unfold bytesV
      rw [List.map_map]
      refine List.map_congr_left fun z hz => ?_
      have := h3 z hz
      obtain ⟨y, hy⟩ := byte_wf10 this
      subst hy
      simp
    rw [e] at hb
    exact ⟨⟨rfl, rfl, hlt, _, _, _, _, hb, bytes_take rfl, bytesV_plain _⟩, _, _, _, _, hb, fun _ => sz_B, fun q => (by cases q)⟩

/-! ### Numbers of 64 bits -/
theorem u64_id {x : Int} (h : 0 ≤ x ∧ x ≤ 18446744073709551615) : IntKind.wrap .u64 x = x := by rw [wrap_u64]; omega
theorem pow_cast (x : Nat) : ((2 : Int) ^ x) = ((2 ^ x : Nat) : Int) := by simp
theorem shl_64 {a x : Nat} (hx : x ≤ 64) (h : a * 2 ^ x < 2 ^ 64) {z : Int} (hz : z = IntKind.wrap .u64 ((a : Int) * 2 ^ (min (x : Int).toNat IntKind.u64.bits))) : z = ((a * 2 ^ x : Nat) : Int) := by
  have e : min (x : Int).toNat IntKind.u64.bits = x := by show min (x : Int).toNat 64 = x; omega
  rw [hz, e, pow_cast, ← Int.natCast_mul, u64_id (by omega)]
theorem shr_64 {a x : Nat} (hx : x ≤ 64) {z : Int} (hz : z = (a : Int).fdiv (2 ^ (min (x : Int).toNat IntKind.u64.bits))) : z = ((a / 2 ^ x : Nat) : Int) := by
  have e : min (x : Int).toNat IntKind.u64.bits = x := by show min (x : Int).toNat 64 = x; omega
  rw [hz, e, fdiv_pow]
theorem or_64 {a d x : Nat} (hd : d < 2 ^ x) (h : a * 2 ^ x + d < 2 ^ 64) {z : Int} (hz : z = IntKind.wrap .u64 ((BitVec.ofInt IntKind.u64.bits ((a * 2 ^ x : Nat) : Int) ||| BitVec.ofInt IntKind.u64.bits (d : Int)).toNat : Int)) : z = ((a * 2 ^ x + d : Nat) : Int) := by
  have e1 : (BitVec.ofInt 64 ((a * 2 ^ x : Nat) : Int)).toNat = a <<< x := by
    rw [BitVec.toNat_ofInt, Nat.shiftLeft_eq]; omega
  have e2 : (BitVec.ofInt 64 (d : Int)).toNat = d := by
    rw [BitVec.toNat_ofInt]; omega
  have e3 : (BitVec.ofInt IntKind.u64.bits ((a * 2 ^ x : Nat) : Int) ||| BitVec.ofInt IntKind.u64.bits (d : Int)).toNat = a * 2 ^ x + d := by
    show (BitVec.ofInt 64 ((a * 2 ^ x : Nat) : Int) ||| BitVec.ofInt 64 (d : Int)).toNat = _
    rw [BitVec.toNat_or, e1, e2, ← Nat.shiftLeft_add_eq_or_of_lt hd, Nat.shiftLeft_eq]
  rw [hz, e3, u64_id (by omega)]
theorem and_64 {a m : Nat} (hm : m < 64) (h : a < 2 ^ 64) {z : Int} (hz : z = IntKind.wrap .u64 ((BitVec.ofInt IntKind.u64.bits (a : Int) &&& BitVec.ofInt IntKind.u64.bits ((2 ^ m - 1 : Nat) : Int)).toNat : Int)) : z = ((a % 2 ^ m : Nat) : Int) := by
  have hp : 2 ^ m < 2 ^ 64 := Nat.pow_lt_pow_right (by decide) hm
  have e1 : (BitVec.ofInt 64 (a : Int)).toNat = a := by
    rw [BitVec.toNat_ofInt]; omega
  have e2 : (BitVec.ofInt 64 ((2 ^ m - 1 : Nat) : Int)).toNat = 2 ^ m - 1 := by
    rw [BitVec.toNat_ofInt]; omega
  have e3 : (BitVec.ofInt IntKind.u64.bits (a : Int) &&& BitVec.ofInt IntKind.u64.bits ((2 ^ m - 1 : Nat) : Int)).toNat = a % 2 ^ m := by
    show (BitVec.ofInt 64 (a : Int) &&& BitVec.ofInt 64 ((2 ^ m - 1 : Nat) : Int)).toNat = _
    rw [BitVec.toNat_and, e1, e2, Nat.and_two_pow_sub_one_eq_mod]
  have : a % 2 ^ m < 2 ^ m := Nat.mod_lt _ (Nat.two_pow_pos m)
  rw [hz, e3, u64_id (by omega)]

/-! ### The kinds -/
abbrev gK : Nat := 0
abbrev tKd : TypeId := 65
def rowN (z : Nat) : Nat := if z = 6 then 4 else 1
def kV (z : Nat) : List Value := [str (lets z), .int .u64 (z : Nat), .int .i64 (rowN z : Nat), .bool (decide (z ≠ 6))]
abbrev kA (z : Nat) : Value := .agg ⟨kV z⟩
def kindsV : List Value := kV 5 ++ kV 6 ++ kV 4
structure Gk (s : SS) : Prop where
  g : gK < s.gl
  n : gK < s.next
  b : lookH s.heap gK = some (.cells kindsV tKd false true)
theorem Gk.chg {s s' : SS} {A : List Nat} (h : Gk s) (c : Chg s s' A) (hA : ∀ id ∈ A, s.next ≤ id ∨ ∃ c' t' g', lookH s.heap id = some (.cells c' t' g' false)) : Gk s' := by
  refine ⟨by rw [c.gl]; exact h.g, Nat.lt_of_lt_of_le h.n c.next, c.blk _ _ h.n (fun hm => ?_) h.b⟩
  rcases hA _ hm with q | ⟨c', t', g', q⟩
  · exact absurd h.n (by omega)
  · rw [h.b] at q; cases q
theorem Gk.nil {s s' : SS} (h : Gk s) (c : Chg s s' []) : Gk s' := h.chg c (fun id hid => by cases hid)
end Go.Vf.S
