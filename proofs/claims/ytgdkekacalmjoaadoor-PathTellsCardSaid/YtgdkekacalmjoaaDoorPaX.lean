import Derived.Test.YtgdkekacalmjoaaDoorAdX
import Derived.Test.YtgdkekacalmjoaaDoorPaH
import Derived.Test.YtgdkekacalmjoaaDoorEngBg
/- Paths that are handed in. -/
namespace Go.Vf.S
open Go Go.Vf Go.Proofs Go.Proofs.YtgdkekacalmjoaaDoor Go.RowKit Go.ChangeShapes Go.WideShapes
set_option linter.unusedVariables false
set_option linter.unusedSimpArgs false
set_option maxRecDepth 100000

/-- An empty row of texts that no one reads. -/
theorem no_strs {W : World} (g0 : GoodB pr W ⟨gAt, 0, 128, 1, false⟩ gA) : GoodB pr W ⟨gAt, 0, 0, 1, true⟩ (.cells [] tS true true) := by
  refine ⟨fun ρ => ?_, rfl, g0.2.2⟩
  obtain ⟨h1, rc, lo, hi, t0, h2, -⟩ := g0.1 ρ
  exact ⟨rfl, rc, lo, hi, t0, h2, (fun z => by cases z), fun i hi => absurd hi (Nat.not_lt_zero i), Nat.zero_le _, Nat.le_refl _, by kernel_rfl, fun i v hv => by simp at hv⟩

section
variable {H : Type} {enc : TypeId × Value → H} {W : World} {b0 : Nat} {v : Value} {d : DataW H} {p : List MemPlace}
theorem lst5 {α : Type} : ∀ {l : List α}, l.length = 5 → ∃ a b c d e, l = [a, b, c, d, e]
  | [a, b, c, d, e], _ => ⟨a, b, c, d, e, rfl⟩

theorem open_Pt (hv : Value.okWide pr W .any b0 tPt v) (h : DataW.Trod enc pr W 0 (fun _ => true) true tPt v d p) (hnf : ∀ b off, MemPlace.cell b off ∈ p → W.frozen? ⟨b, off, none⟩ = false) (g0 : GoodB pr W ⟨gAt, 0, 128, 1, false⟩ gA) (id : Nat) :
    ∃ (nl po : Bool) (ba : Option Addr) (ss : List (List UInt8)) (a e : List UInt8) (e1 : RE), GoodB pr W e1 (.cells (strV ss) tS true true) ∧ ∀ ρ : Ren, ρ id = some e1 → VRel ρ (ptV ⟨nl, po, ss, a, e⟩ ba 0) v := by
  obtain ⟨cs, rfl, hsz⟩ := okWide_struct Tryd.underlying26 hv
  obtain ⟨fuel, hf⟩ := h
  obtain ⟨y0, y1, y2, y3, n, hx, hl, h0, h1, h2, h3⟩ := Go.Joins.trod_struct4 Tryd.underlying26 hf
  obtain ⟨cs⟩ := cs
  have c5 : pr.cellsOf tPt = 5 := by kernel_rfl
  have cb : pr.cellsOf 4 = 1 := by kernel_rfl
  have cl : pr.cellsOf 22 = 1 := by kernel_rfl
  have ca : pr.cellsOf tAd = 2 := by kernel_rfl
  have hl5 : cs.length = 5 := by rw [c5] at hsz; exact hsz
  obtain ⟨u0, u1, u2, u3, u4, rfl⟩ := lst5 hl5
  rw [cb] at h0 h1
  rw [cl] at h2
  rw [ca] at h3
  obtain ⟨nl, e0, rfl⟩ := DataW.trod_bool Tryd.underlying4 h0
  obtain ⟨po, e1, rfl⟩ := DataW.trod_bool Tryd.underlying4 h1
  obtain ⟨a, e, e3, r3⟩ := trod_Ad h3
  have e0 : [u0] = [Value.bool nl] := e0
  have e1 : [u1] = [Value.bool po] := e1
  have e3 : [u3, u4] = [str a, str e] := e3
  cases e0
  cases e1
  cases e3
  have hp : p = (([] ++ ([] ++ (y2.2 ++ y3.2))) : List MemPlace) := (Prod.mk.inj hx).2
  have h2 : DataW.trod enc pr W 0 (fun _ => true) true n 22 [u2] = some y2 := h2
  obtain ⟨ba, ss, re, q1, q2, q3, q4⟩ := inner_strs Tryd.underlying22 Tryd.underlying9 (by kernel_rfl) h2 (fun b off q => hnf b off (by rw [hp]; simp [q])) (no_strs g0) id
  have es : (ss.map fun z => Value.string z) = strV (ss.map fun z => z.data.toList) := by
    unfold strV
    rw [List.map_map]
    rfl
  refine ⟨nl, po, ba, ss.map fun z => z.data.toList, a, e, re, by rw [← es]; exact q1, fun ρ hρ => ?_⟩
  have := q2 ρ hρ
  have e9 : ptV ⟨nl, po, ss.map fun z => z.data.toList, a, e⟩ ba 0 = .agg ⟨[.bool nl, .bool po, .slice ba ss.length 0, str a, str e]⟩ := by
    show Value.agg ⟨[.bool nl, .bool po, .slice ba (ss.map fun z => z.data.toList).length 0, str a, str e]⟩ = _
    rw [List.length_map]
  rw [e9]
  refine .agg rfl fun i v v' hi hi' => ?_
  match i, hi, hi' with
  | 0, hi, hi' => cases hi; cases hi'; exact .bool _
  | 1, hi, hi' => cases hi; cases hi'; exact .bool _
  | 2, hi, hi' => cases hi; cases hi'; exact this
  | 3, hi, hi' => cases hi; cases hi'; exact .string _
  | 4, hi, hi' => cases hi; cases hi'; exact .string _
  | i + 5, hi, hi' => simp at hi
end

/-- The table, and one block more. -/
def bsP (e : RE) (ls : List (List UInt8)) : List (RE × Option ABlk) := bsA ++ [(e, some (.cells (strV ls) tS true true))]
def startP (e : RE) (ls : List (List UInt8)) : SS := startO (bsP e ls) (gAt + 1)
theorem startP_rel {W : World} {e : RE} {ls : List (List UInt8)} (g0 : GoodB pr W ⟨gAt, 0, 128, 1, false⟩ gA) (g1 : GoodB pr W e (.cells (strV ls) tS true true)) :
    HRel pr W.heap.size W (renO (bsP e ls)) (startP e ls).st W ∧ FreeFrom (renO (bsP e ls)) (startP e ls).next ∧ renO (bsP e ls) (gAt + 1) = some e ∧ Gb (startP e ls) ∧ Fine (startP e ls) := by
  have at_ : ∀ i, i < gAt → bsA[i]? = some (⟨i, 0, 0, 1, false⟩, none) := fun i hi => by
    unfold bsA
    rw [List.getElem?_append_left (by simpa using hi), List.getElem?_map, List.getElem?_range hi]
    rfl
  have last : bsA[gAt]? = some (⟨gAt, 0, 128, 1, false⟩, some gA) := by
    unfold bsA
    rw [List.getElem?_append_right (by simp)]
    simp
  have p1 : ∀ i, i < gAt + 1 → (bsP e ls)[i]? = bsA[i]? := fun i hi => List.getElem?_append_left (by rw [bsA_len]; exact hi)
  have p2 : (bsP e ls)[gAt + 1]? = some (e, some (.cells (strV ls) tS true true)) := by
    unfold bsP
    rw [List.getElem?_append_right (by rw [bsA_len]; exact Nat.le_refl _), bsA_len, Nat.sub_self]
    rfl
  have len : (bsP e ls).length = gAt + 2 := by unfold bsP; rw [List.length_append, bsA_len]; rfl
  have all : ∀ i x, (bsP e ls)[i]? = some x → (i < gAt ∧ x = (⟨i, 0, 0, 1, false⟩, none)) ∨ (i = gAt ∧ x = (⟨gAt, 0, 128, 1, false⟩, some gA)) ∨ (i = gAt + 1 ∧ x = (e, some (.cells (strV ls) tS true true))) := fun i x h => by
    have hi : i < gAt + 2 := by rw [← len]; exact (List.getElem?_eq_some_iff.1 h).1
    rcases Nat.lt_or_ge i (gAt + 1) with q | q
    · rw [p1 i q] at h
      rcases Nat.lt_or_ge i gAt with q' | q'
      · exact .inl ⟨q', by rw [at_ i q'] at h; exact (Option.some.inj h).symm⟩
      · obtain rfl : i = gAt := by omega
        exact .inr (.inl ⟨rfl, by rw [last] at h; exact (Option.some.inj h).symm⟩)
    · obtain rfl : i = gAt + 1 := by omega
      exact .inr (.inr ⟨rfl, by rw [p2] at h; exact (Option.some.inj h).symm⟩)
  obtain ⟨H1, H2⟩ := startO_rel (P := pr) (W := W) (bs := bsP e ls) (gl := gAt + 1) (fun i e' b h => by
    rcases all i _ h with ⟨_, q⟩ | ⟨_, q⟩ | ⟨_, q⟩
    · cases q
    · cases q
      exact ⟨g0.1 _, g0.2.1⟩
    · cases q
      exact ⟨g1.1 _, g1.2.1⟩) (fun i e' b h => by
    have := g0.2.2
    rcases all i _ h with ⟨q1, q⟩ | ⟨_, q⟩ | ⟨_, q⟩
    · cases q
      exact Nat.lt_trans q1 this
    · cases q
      exact this
    · cases q
      exact g1.2.2) (fun g hg => by
    rcases Nat.lt_or_ge g gAt with q | q
    · exact ⟨_, _, (p1 g hg).trans (at_ g q), rfl, rfl⟩
    · obtain rfl : g = gAt := by omega
      exact ⟨_, _, (p1 _ hg).trans last, rfl, rfl⟩)
  refine ⟨H1, H2, by simp [renO, p2], ⟨Nat.lt_succ_self _, by show gAt < (bsP e ls).length; rw [len]; omega, ?_⟩, startO_fine _ _⟩
  show lookH (heapO 0 (bsP e ls)) gAt = _
  rw [heapO_look, if_pos (Nat.zero_le _), Nat.sub_zero, p1 _ (Nat.lt_succ_self _), last]
  rfl
end Go.Vf.S
