import Derived.Test.YtneanogeebbjiaaDoorEngSt
import Derived.Maps.RangeRun
/- The machine of plain blocks, by rows: going through a string rune by rune. -/
namespace Go.Vf
open Go.RowKit
set_option linter.unusedVariables false
set_option linter.unusedSimpArgs false
section
variable {P : Program} {T : TL} {s : SS} {K : Value → SS → Prop}


/-- The way through a string begins. -/
theorem srange_W {t : TypeId} {x : Operand} {b : ByteArray} (hc : okC x = true) (hm : P.underlying t = some .string) (hx : opd T s.gl x = some (.string b))
    (h : K (.pointer (some ⟨s.next, 0, none⟩)) { s with heap := (s.next, some (.siter b 0)) :: s.heap, next := s.next + 1 }) : OpW P (.range t x) T s K := by
  refine ⟨_, _, h, Nat.le_succ _, rfl, ?_⟩
  intro o ho nt B w0 ρ w tmps ds H F hf
  have r1 := F.ev H ds _ _ (opd_ok hc hx)
  have e1 := str_inv r1
  have hfree := hf s.next (Nat.le_refl _) (Nat.lt_succ_self _)
  have H' : HRel P B w0 ρ (SS.st { s with heap := (s.next, some (.siter b 0)) :: s.heap, next := s.next + 1 }) w := by
    refine H.same rfl fun i a b hi hb2 => ?_
    simp only [SS.st, toH, Tr.get_put] at hb2 ⊢
    by_cases q : i = s.next
    · subst q; rw [hfree] at hi; cases hi
    · rwa [if_neg q] at hb2
  generalize hev : (⟨tmps, ds⟩ : Act).eval = ev at *
  refine ⟨.value (.pointer (some ⟨w.heap.size, 0, none⟩)), _, w.alloc (.stringIter b 0), ρ.ext s.next ⟨w.heap.size, 0, 0, 0, false⟩, ?_, .inl rfl, .pointer ⟨rfl, rfl, _, Ren.ext_self, rfl, rfl⟩, ?_, ?_⟩
  · simp [execOp, ho, Instr.range, e1, run_underlying hm, Result.andThen]
  · refine H'.new (b := .siter b 0) hfree (by simp [SS.st, toH]) rfl rfl rfl rfl rfl rfl ⟨rfl, ?_⟩
    show (w.heap.push _)[w.heap.size]? = _
    simp
  · exact Ext.one hfree (Nat.lt_succ_self _)

/-- The next rune, or the end. -/
theorem snext_W {x : Operand} {id pos : Nat} {b : ByteArray} (hc : okC x = true) (hx : opd T s.gl x = some (.pointer (some ⟨id, 0, none⟩))) (hi : lookH s.heap id = some (.siter b pos))
    (hend : b.size ≤ pos → K (.tuple ⟨[.bool false]⟩) s)
    (hone : pos < b.size → K (.tuple ⟨[.bool true, .int .i64 pos, .int .i32 (Utf8.decode b pos).1]⟩) { s with heap := (id, some (.siter b (pos + (Utf8.decode b pos).2))) :: s.heap }) : OpW P (.next x true) T s K := by
  by_cases hp : pos < b.size
  · refine ⟨_, _, hone hp, Nat.le_refl _, rfl, ?_⟩
    intro o ho nt B w0 ρ w tmps ds H F hf
    have r1 := F.ev H ds _ _ (opd_ok hc hx)
    obtain ⟨a', ha', q1, q2, ei, q3, q4, q5⟩ := ptr_inv r1
    have hi' : s.st.heap.get id = some (.siter b pos) := by rw [s.get]; exact hi
    obtain ⟨i0, hwi⟩ := H.blk _ _ _ hi' q3
    rw [addr_eq q2, q4, q5, i0] at ha'
    generalize hev : (⟨tmps, ds⟩ : Act).eval = ev at *
    have ha2 : ev x = .pointer (some ⟨ei.blk, 0, none⟩) := ha'
    refine ⟨.value (.tuple #[.bool true, .int .i64 pos, .int .i32 (Utf8.decode b pos).1]), _, { w with heap := w.heap.setIfInBounds ei.blk (.stringIter b (pos + (Utf8.decode b pos).2)) }, ρ, ?_, .inl rfl, .tuple' (b := [.bool true, .int .i64 pos, .int .i32 (Utf8.decode b pos).1]) (.cons (.bool _) (.cons (.int _ _) (.cons (.int _ _) (.nil _)))), ?_, ?_⟩
    · simp [execOp, ho, ha2, Instr.next, getObj, setObj, hwi, hp, goInt, Sem.run_bind, Sem.run, Result.andThen]
    · refine H.turn (b' := .siter b (pos + (Utf8.decode b pos).2)) q3 hi' rfl rfl (fun i => ?_) rfl (by simp) (fun k hk => ?_) rfl rfl rfl ⟨i0, ?_⟩
      · simp only [SS.st, toH, Tr.get_put]
      · simp [Array.getElem?_setIfInBounds, Ne.symm hk]
      · have := (Array.getElem?_eq_some_iff.1 hwi).1
        show (w.heap.setIfInBounds ei.blk _)[ei.blk]? = _
        simp [this]
    · exact .refl _ _ _
  · refine ⟨_, _, hend (by omega), Nat.le_refl _, rfl, ?_⟩
    intro o ho nt B w0 ρ w tmps ds H F hf
    have r1 := F.ev H ds _ _ (opd_ok hc hx)
    obtain ⟨a', ha', q1, q2, ei, q3, q4, q5⟩ := ptr_inv r1
    have hi' : s.st.heap.get id = some (.siter b pos) := by rw [s.get]; exact hi
    obtain ⟨i0, hwi⟩ := H.blk _ _ _ hi' q3
    rw [addr_eq q2, q4, q5, i0] at ha'
    generalize hev : (⟨tmps, ds⟩ : Act).eval = ev at *
    have ha2 : ev x = .pointer (some ⟨ei.blk, 0, none⟩) := ha'
    refine ⟨.value (.tuple #[.bool false]), _, w, ρ, ?_, .inl rfl, .tuple' (b := [.bool false]) (.cons (.bool _) (.nil _)), H, ?_⟩
    · simp [execOp, ho, ha2, Instr.next, getObj, hwi, hp, Sem.run_bind, Sem.run, Result.andThen]
    · exact .refl _ _ _

theorem get_dec {l : List UInt8} {pos : Nat} {c : UInt8} (h : l[pos]? = some c) : (ByteArray.mk ⟨l⟩).get! pos = c := by
  obtain ⟨hp, e⟩ := List.getElem?_eq_some_iff.1 h
  show (Array.mk l)[pos]! = c
  simp [hp, e]

theorem dec_lo {l : List UInt8} {pos : Nat} {c : UInt8} (h : l[pos]? = some c) (hc : c.toNat < 128) : Utf8.decode ⟨⟨l⟩⟩ pos = (c.toNat, 1) := by
  have e : (ByteArray.mk ⟨l⟩).get! (pos + 0) = c := get_dec h
  simp only [Utf8.decode, e, hc, if_true]

theorem dec_hi {l : List UInt8} {pos : Nat} {c : UInt8} (h : l[pos]? = some c) (hc : 128 ≤ c.toNat) : 128 ≤ (Utf8.decode ⟨⟨l⟩⟩ pos).1 ∧ (Utf8.decode ⟨⟨l⟩⟩ pos).1 ≤ 1114111 ∧ 1 ≤ (Utf8.decode ⟨⟨l⟩⟩ pos).2 ∧ (Utf8.decode ⟨⟨l⟩⟩ pos).2 ≤ 4 := by
  have e : (ByteArray.mk ⟨l⟩).get! (pos + 0) = c := get_dec h
  unfold Utf8.decode
  simp only [e]
  rw [if_neg (by omega)]
  have q1 : Utf8.runeError = 65533 := rfl
  have m6 : ∀ n : Nat, n % 64 < 64 := fun n => Nat.mod_lt _ (by omega)
  repeat' split
  all_goals simp only [q1, Bool.and_eq_true, Bool.or_eq_true, decide_eq_true_eq, ge_iff_le, Utf8.valid] at *
  all_goals omega

/-- The bytes of a rune beyond the first half of the bytes are such bytes all. -/
theorem dec_more {l : List UInt8} {pos r w : Nat} (h : Utf8.decode ⟨⟨l⟩⟩ pos = (r, w)) {c : UInt8} (hc : l[pos]? = some c) (h7 : 128 ≤ c.toNat) : ∀ j, j < w → ∃ d, l[pos + j]? = some d ∧ 128 ≤ d.toNat := by
  have e : (ByteArray.mk ⟨l⟩).get! (pos + 0) = c := get_dec hc
  have cont : ∀ k, pos + k < l.length → ((ByteArray.mk ⟨l⟩).get! (pos + k)).toNat / 64 = 2 → ∃ d, l[pos + k]? = some d ∧ 128 ≤ d.toNat := fun k hk hd => by
    refine ⟨_, List.getElem?_eq_getElem hk, ?_⟩
    rw [get_dec (List.getElem?_eq_getElem hk)] at hd
    omega
  have one : ∀ j, j < 1 → ∃ d, l[pos + j]? = some d ∧ 128 ≤ d.toNat := fun j hj => by
    obtain rfl : j = 0 := by omega
    exact ⟨c, hc, h7⟩
  have sz : (ByteArray.mk ⟨l⟩).size = l.length := rfl
  unfold Utf8.decode at h
  simp only [e, sz] at h
  rw [if_neg (by omega)] at h
  repeat' split at h
  all_goals simp only [Bool.and_eq_true, decide_eq_true_eq, beq_iff_eq, Prod.mk.injEq] at *
  all_goals obtain ⟨-, rfl⟩ := h
  all_goals first
    | exact one
    | (intro j hj
       rcases j with _ | _ | _ | _ | j
       all_goals first
         | exact ⟨c, hc, h7⟩
         | (exact cont 1 (by omega) (by omega))
         | (exact cont 2 (by omega) (by omega))
         | (exact cont 3 (by omega) (by omega))
         | omega)

/-- The next byte or rune of a row of bytes. -/
theorem snext_L {x : Operand} {id pos : Nat} {l : List UInt8} (hc : okC x = true) (hx : opd T s.gl x = some (.pointer (some ⟨id, 0, none⟩))) (hi : lookH s.heap id = some (.siter ⟨⟨l⟩⟩ pos))
    (hend : l.length ≤ pos → K (.tuple ⟨[.bool false]⟩) s)
    (hlo : ∀ c : UInt8, l[pos]? = some c → c.toNat < 128 → K (.tuple ⟨[.bool true, .int .i64 pos, .int .i32 c.toNat]⟩) { s with heap := (id, some (.siter ⟨⟨l⟩⟩ (pos + 1))) :: s.heap })
    (hhi : ∀ (c : UInt8) (r w : Nat), l[pos]? = some c → 128 ≤ c.toNat → 128 ≤ r → r ≤ 1114111 → Utf8.decode ⟨⟨l⟩⟩ pos = (r, w) → 1 ≤ w → w ≤ 4 → K (.tuple ⟨[.bool true, .int .i64 pos, .int .i32 r]⟩) { s with heap := (id, some (.siter ⟨⟨l⟩⟩ (pos + w))) :: s.heap }) : OpW P (.next x true) T s K := by
  refine snext_W hc hx hi hend fun hp => ?_
  obtain ⟨c, h⟩ : ∃ c, l[pos]? = some c := ⟨l[pos]'hp, List.getElem?_eq_getElem hp⟩
  by_cases hc2 : c.toNat < 128
  · have := hlo c h hc2
    rwa [dec_lo h hc2]
  · have ⟨h1, h2, h3, h4⟩ := dec_hi h (by omega)
    exact hhi c _ _ h (by omega) h1 h2 rfl h3 h4
end
end Go.Vf
