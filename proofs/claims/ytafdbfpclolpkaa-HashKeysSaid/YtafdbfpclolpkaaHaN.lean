import Derived.Test.YtafdbfpclolpkaaHaM
import Derived.Test.YtafdbfpclolpkaaEngBg
import Derived.Test.YtafdbfpclolpkaaHaZ
/- Hashes compared; bytes behind bytes; bytes handed in. -/
namespace Go.Vf.S
open Go Go.Vf Go.RowKit Go.ChangeShapes
attribute [local irreducible] wSeq wRow wp wG schd rnds blks blk5 sha fillF hmac
set_option linter.unusedVariables false
set_option linter.unusedSimpArgs false
set_option maxRecDepth 10000

theorem eq_cells {l m : List UInt8} (h : l.length = m.length) : ∀ (k i : Nat), i + k = l.length → eqCells ((List.range' i k).map fun i => (i, 1)) (bytesV l) (bytesV m) = some (decide (l.drop i = m.drop i))
  | 0, i, hi => by
    rw [List.drop_of_length_le (by omega), List.drop_of_length_le (by omega)]
    rfl
  | k + 1, i, hi => by
    have h1 : i < l.length := by omega
    have h2 : i < m.length := by omega
    rw [List.range'_succ, List.map_cons]
    unfold eqCells
    rw [show (bytesV l)[i]? = some (.int .u8 (l[i].toNat : Int)) from bytes_get (List.getElem?_eq_getElem h1), show (bytesV m)[i]? = some (.int .u8 (m[i].toNat : Int)) from bytes_get (List.getElem?_eq_getElem h2), eq_cells h k (i + 1) (by omega)]
    simp only [cellEq, if_true]
    rw [List.drop_eq_getElem_cons h1, List.drop_eq_getElem_cons h2]
    congr 1
    rw [Bool.eq_iff_iff]
    simp only [Bool.and_eq_true, decide_eq_true_eq, List.cons.injEq]
    constructor
    · rintro ⟨a, b⟩
      exact ⟨UInt8.toNat_inj.1 (by omega), b⟩
    · rintro ⟨a, b⟩
      exact ⟨by rw [a], b⟩
def k20 : List (Nat × Nat) := [(0, 1), (1, 1), (2, 1), (3, 1), (4, 1), (5, 1), (6, 1), (7, 1), (8, 1), (9, 1), (10, 1), (11, 1), (12, 1), (13, 1), (14, 1), (15, 1), (16, 1), (17, 1), (18, 1), (19, 1)]
theorem eq20 {l m : List UInt8} (hl : l.length = 20) (hm : m.length = 20) : wEql (.agg k20) (agB l) (agB m) = some (decide (l = m)) := by
  have := eq_cells (l := l) (m := m) (by omega) 20 0 (by omega)
  rw [List.drop_zero, List.drop_zero] at this
  exact this
theorem eql20 {l m : List UInt8} {K : Value → Prop} (hl : l.length = 20) (hm : m.length = 20) (h : K (.bool (decide (l = m)))) : wBin .eql (.agg k20) (agB l) (agB m) K := by
  unfold wBin
  rw [eq20 hl hm]
  intro d hd
  subst hd
  exact h
theorem neq20 {l m : List UInt8} {K : Value → Prop} (hl : l.length = 20) (hm : m.length = 20) (h : K (.bool (!(decide (l = m))))) : wBin .neq (.agg k20) (agB l) (agB m) K := by
  unfold wBin
  rw [eq20 hl hm]
  intro d hd
  subst hd
  exact h
theorem bin_eql20 {T : TL} {s : SS} {K : RR → Prop} {x y : Operand} {l m : List UInt8} (hx : opd T s.gl x = some (agB l)) (hy : opd T s.gl y = some (agB m)) (hl : l.length = 20) (hm : m.length = 20) (h : K (.val (.bool (decide (l = m))))) : wN pr (.bin .eql (.agg k20) x y) T s K := by
  simp only [wN, hx, hy]
  exact eql20 hl hm h
theorem bin_neq20 {T : TL} {s : SS} {K : RR → Prop} {x y : Operand} {l m : List UInt8} (hx : opd T s.gl x = some (agB l)) (hy : opd T s.gl y = some (agB m)) (hl : l.length = 20) (hm : m.length = 20) (h : K (.val (.bool (!(decide (l = m)))))) : wN pr (.bin .neq (.agg k20) x y) T s K := by
  simp only [wN, hx, hy]
  exact neq20 hl hm h

/-- Any bytes behind a block that is full. -/
theorem app_full {T : TL} {s : SS} {K : RR → Prop} {x y : Operand} {b m n c : Nat} {d l : List UInt8} {base : Option Addr} (hx : opd T s.gl x = some (.slice (some ⟨b, 0, none⟩) m m)) (hb : lookH s.heap b = some (.cells (bytesV d) tB false false)) (hlt : b < s.next) (hm : m = d.length)
    (hy : opd T s.gl y = some (.slice base n c)) (hr : Rdb s base n l) (hbd : m + n ≤ 1000000)
    (h : ∀ (b' c' : Nat) (s' : SS), Slc pr s' (some ⟨b', 0, none⟩) (m + n) c' (d ++ l) → Chg s s' [b] → K (.eff (.slice (some ⟨b', 0, none⟩) (m + n) c') s')) : wN pr (.app tB 1 1 x y) T s K := by
  rcases Nat.eq_zero_or_pos n with h0 | h0
  · subst h0
    have hl : l = [] := List.eq_nil_of_length_eq_zero hr.1.symm
    subst hl
    refine appB_room hx hb hm.symm hy hr (by omega) (by omega) ?_
    have e : d.take m ++ [] ++ d.drop (m + 0) = d := by simp
    rw [e]
    refine h b m _ ?_ (.turn hlt)
    rw [List.append_nil]
    exact cell_slc lkH hlt (by omega)
  · refine appB_new hx hb hm hy hr (by omega) (by omega) ?_
    refine h s.next 0 _ ⟨⟨by rw [List.length_append, hm, hr.1], rfl, Nat.lt_succ_self _, _, _, _, _, lkH, bytes_take (by rw [List.length_append, hm, hr.1]), bytesV_plain _⟩, _, _, _, _, lkH, fun _ => sz_B, fun q => (by cases q)⟩ (.new _)

/-- Bytes that are handed in. -/
theorem arg_bs {H : Type} {enc : TypeId × Value → H} {W : World} {v : Value} {d : DataW H} {ps : List MemPlace} {base : Nat} (hok : Value.okWide pr W .any base 22 v) (h : DataW.Trod enc pr W 0 (fun _ => true) true 22 v d ps) (hnf : ∀ b off, MemPlace.cell b off ∈ ps → W.frozen? ⟨b, off, none⟩ = false) (id : Nat) :
    ∃ (ba : Option Addr) (l : List UInt8) (xs : List (RE × ABlk)), GoodL pr W xs id ∧ (∀ ρ : Ren, Laid xs id ρ → VRel ρ (.slice ba l.length 0) v) ∧ ∀ s : SS, LaidS xs id s → Slc pr s ba l.length 0 l := by
  obtain ⟨ba, zs, xs, h1, h2, h3, h4, h5⟩ := arg_ints (k := .u8) (show pr.underlying 22 = some (.slice tB) by kernel_rfl) (show pr.underlying tB = some (.int .u8) by kernel_rfl) (by kernel_rfl) hok h hnf id
  refine ⟨ba, zs.map fun z => UInt8.ofNat z.toNat, xs, h1, fun ρ hρ => by rw [List.length_map]; exact h2 ρ hρ, fun s hs => ?_⟩
  rcases h5 with ⟨rfl, rfl⟩ | ⟨rfl, e1, rfl⟩
  · exact ⟨⟨rfl, rfl⟩, trivial⟩
  · have hb := hs.1 0 _ rfl
    have hlt : id + 0 < s.next := by have := hs.2; simp at this; omega
    have e : (zs.map fun z => Value.int .u8 z) = bytesV (zs.map fun z => UInt8.ofNat z.toNat) := by
      unfold bytesV
      rw [List.map_map]
      refine List.map_congr_left fun z hz => ?_
      have := h3 z hz
      obtain ⟨y, hy⟩ := byte_wf10 this
      subst hy
      simp
    rw [e] at hb
    exact ⟨⟨rfl, rfl, hlt, _, _, _, _, hb, bytes_take rfl, bytesV_plain _⟩, _, _, _, _, hb, fun _ => sz_B, fun q => (by cases q)⟩
end Go.Vf.S
