import Derived.Test.YtnafoonbjhoolaaDkL
import Derived.Test.YtnafoonbjhoolaaEngMb
/- Bytes that nobody laid over; the places that were. -/
namespace Go.Vf.S
open Go Go.Vf Go.MapKept Go.Proofs Go.Proofs.Ytnafoonbjhoolaa
attribute [local irreducible] wSeq wRow wp
set_option linter.unusedVariables false
set_option linter.unusedSimpArgs false
set_option maxRecDepth 10000

theorem layF_get (b w : List UInt8) (k j : Nat) (h : j < k ∨ k + w.length ≤ j) : (layF b k w).getD j 0 = b.getD j 0 := by
  unfold layF
  split
  · rfl
  · have ext : ∀ j, (b ++ List.replicate (k + w.length - b.length) 0).getD j 0 = b.getD j (0 : UInt8) := by
      intro j
      rw [List.getD, List.getD]
      by_cases q : j < b.length
      · rw [List.getElem?_append_left q]
      · rw [List.getElem?_append_right (by omega), List.getElem?_replicate, List.getElem?_eq_none (by omega : b.length ≤ j)]
        split <;> rfl
    rw [← ext j]
    generalize hB : b ++ List.replicate (k + w.length - b.length) (0 : UInt8) = B
    have lB : k + w.length ≤ B.length := by rw [← hB]; simp; omega
    rw [List.getD, List.getD]
    congr 1
    rcases h with h | h
    · rw [List.append_assoc, List.getElem?_append_left (by rw [List.length_take]; omega), List.getElem?_take, if_pos h]
    · rw [List.getElem?_append_right (by rw [List.length_append, List.length_take]; omega), List.getElem?_drop]
      congr 1
      rw [List.length_append, List.length_take]
      omega
theorem lays_get : ∀ (ws : List (Nat × List UInt8)) (b : List UInt8) (j : Nat), (∀ w ∈ ws, j < w.1 ∨ w.1 + w.2.length ≤ j) → (lays ws b).getD j 0 = b.getD j 0
  | [], b, j, h => rfl
  | w :: ws, b, j, h => by
    show (lays ws (layF b w.1 w.2)).getD j 0 = _
    rw [lays_get ws _ j fun x hx => h x (List.mem_cons_of_mem _ hx), layF_get _ _ _ _ (h w (List.mem_cons_self ..))]
theorem lays_ge : ∀ (ws : List (Nat × List UInt8)) (b : List UInt8), b.length ≤ (lays ws b).length
  | [], b => Nat.le_refl _
  | w :: ws, b => by
    refine Nat.le_trans ?_ (lays_ge ws (layF b w.1 w.2))
    rw [layF_len]
    split <;> omega
theorem cutW_mem {ws : List (Nat × List UInt8)} {zs : List Int} {w : Nat × List UInt8} (h : w ∈ cutW ws zs) : ∃ x ∈ ws, w.1 = x.1 ∧ w.2.length ≤ x.2.length := by
  obtain ⟨i, hi⟩ := List.getElem?_of_mem h
  simp only [cutW, List.getElem?_mapIdx] at hi
  cases hx : ws[i]? with
  | none => rw [hx] at hi; cases hi
  | some x =>
    rw [hx] at hi
    cases hi
    exact ⟨x, List.mem_of_getElem? hx, rfl, by simp; omega⟩

theorem wrote_cases (A : Dk) (k : Int) (l : List UInt8) : (A.wrote k l).1 ≠ 0 ∧ (A.wrote k l).2 = A ∨ (0 ≤ k ∧ k ≤ A.now.length) ∧ A.wrote k l = (0, { A with now := layF A.now k.toNat l, ws := A.ws ++ [(k.toNat, l)] }) := by
  unfold Dk.wrote
  split
  · left; exact ⟨by simp, rfl⟩
  · split
    · left; exact ⟨by simp, rfl⟩
    · right; exact ⟨by omega, rfl⟩

/-- A map that tells 1 of some places. -/
def MapAt (s : SS) (m : Nat) (Kp : Int → Prop) : Prop :=
  m < s.next ∧ ∃ es clock, lookH s.heap m = some (.map es clock) ∧ (∀ e ∈ es, ∃ z, e.key = .int .i64 z ∧ e.val = .int .i64 1) ∧ ∀ z, Kp z ↔ ∃ e ∈ es, e.key = .int .i64 z

theorem MapAt.chg {s s' : SS} {m : Nat} {Kp : Int → Prop} {Z : List Nat} (h : MapAt s m Kp) (c : Chg s s' Z) (hz : m ∉ Z) : MapAt s' m Kp := by
  obtain ⟨h0, es, clock, h1, h2, h3⟩ := h
  exact ⟨Nat.lt_of_lt_of_le h0 c.next, es, clock, c.blk _ _ h0 hz h1, h2, h3⟩

abbrev tM : TypeId := 49

theorem isKey_int (z : Int) : IsKey (.int .i64) (.int .i64 z) := rfl

theorem update_w {T : TL} {s : SS} {m : Nat} {Kp : Int → Prop} {x y w : Operand} {z : Int} {K : Value → SS → Prop} (h : MapAt s m Kp) (hc : (okC x && okC y && okC w) = true) (hx : opd T s.gl x = some (.map (some m))) (hy : opd T s.gl y = some (.int .i64 z)) (hw : opd T s.gl w = some (.int .i64 1))
    (hK : ∀ s' : SS, MapAt s' m (fun k => Kp k ∨ k = z) → Chg s s' [m] → s'.next = s.next → K (.tuple #[]) s') : OpW pr (.mapUpdate tM x y w) T s K := by
  obtain ⟨h0, es, clock, h1, h2, h3⟩ := h
  have hks : ∀ e ∈ es, IsKey (.int .i64) e.key := fun e he => by obtain ⟨k, q, _⟩ := h2 e he; rw [q]; exact isKey_int k
  by_cases hz : Kp z
  · refine update_same (d := .int .i64) hc Try.underlying49 Try.underlying3 hx hy hw (isKey_int z) rfl h1 hks ((h3 z).1 hz) (fun e he _ => by obtain ⟨k, _, q⟩ := h2 e he; exact q) (hK s ⟨h0, es, clock, h1, h2, fun k => ?_⟩ (.refl _ _) rfl)
    rw [← h3 k]
    exact ⟨fun q => q.elim (fun q => q) (fun q => q ▸ hz), .inl⟩
  · refine update_new (d := .int .i64) hc Try.underlying49 Try.underlying3 hx hy hw (isKey_int z) h1 hks (fun e he q => hz ((h3 z).2 ⟨e, he, q⟩)) (hK _ ⟨h0, _, _, lkH, fun e he => ?_, fun k => ?_⟩ ?_ rfl)
    · rcases List.mem_append.1 he with q | q
      · exact h2 e q
      · rw [List.mem_singleton.1 q]; exact ⟨z, rfl, rfl⟩
    · show (Kp k ∨ k = z) ↔ _
      rw [h3 k]
      constructor
      · rintro (⟨e, he, q⟩ | rfl)
        · exact ⟨e, List.mem_append_left _ he, q⟩
        · exact ⟨_, List.mem_append_right _ (List.mem_singleton.2 rfl), rfl⟩
      · rintro ⟨e, he, q⟩
        rcases List.mem_append.1 he with r | r
        · exact .inl ⟨e, r, q⟩
        · rw [List.mem_singleton.1 r] at q
          cases q
          exact .inr rfl
    · exact Chg.turn h0

theorem lookup_w {T : TL} {s : SS} {m : Nat} {Kp : Int → Prop} {x y : Operand} {z : Int} {K : Value → SS → Prop} (h : MapAt s m Kp) (hc : (okC x && okC y) = true) (hx : opd T s.gl x = some (.map (some m))) (hy : opd T s.gl y = some (.int .i64 z))
    (hin : Kp z → K (.int .i64 1) s) (hout : ¬ Kp z → K (.int .i64 0) s) : OpW pr (.lookup tM x y false) T s K := by
  obtain ⟨h0, es, clock, h1, h2, h3⟩ := h
  have hks : ∀ e ∈ es, IsKey (.int .i64) e.key := fun e he => by obtain ⟨k, q, _⟩ := h2 e he; rw [q]; exact isKey_int k
  by_cases hz : Kp z
  · exact lookup_in (d := .int .i64) hc Try.underlying49 Try.underlying3 hx hy (isKey_int z) rfl h1 hks ((h3 z).1 hz) (fun e he _ => by obtain ⟨k, _, q⟩ := h2 e he; exact q) (hin hz)
  · exact lookup_out (d := .int .i64) hc Try.underlying49 Try.underlying3 hx hy (isKey_int z) rfl h1 hks (fun e he q => hz ((h3 z).2 ⟨e, he, q⟩)) (fun w => (run_zeroB (ρ := fun _ => none) (P := pr) (t := 3) (z := .int .i64 0) (by kernel_rfl) w).1) (hout hz)
end Go.Vf.S
