import Derived.Test.YtneanogeebbjiaaDoorEngSt
import Derived.MapKept
import Derived.Maps.RangeRun
/- The machine of plain blocks, by rows: maps; going through them, in any order. -/
namespace Go.Vf
open Go.RowKit Go.MapKept
set_option linter.unusedVariables false
set_option linter.unusedSimpArgs false
section
variable {P : Program} {T : TL} {s : SS} {K : Value → SS → Prop}

theorem key_plain {d : TypeDesc} {v : Value} (h : IsKey d v) : plain1 v = true := by
  cases d <;> cases v <;> first | rfl | exact h.elim

theorem map_inv {ρ : Ren} {id : Nat} {v' : Value} (h : VRel ρ (.map (some id)) v') : ∃ e, ρ id = some e ∧ v' = .map (some e.blk) := by
  cases h with
  | map h1 h2 => subst h2; exact ⟨_, h1, rfl⟩

theorem st_get (s : SS) (id : Nat) : s.st.heap.get id = lookH s.heap id := s.get id

/-- The world's entries, by the machine's. -/
theorem MRel.mem {ρ : Ren} {es es' : List MapEntry} (h : MRel ρ es es') {x : MapEntry} (hx : x ∈ es') : ∃ y ∈ es, VRel ρ y.key x.key ∧ VRel ρ y.val x.val ∧ y.born = x.born := by
  obtain ⟨i, hi⟩ := List.getElem?_of_mem hx
  have hlt := (List.getElem?_eq_some_iff.1 hi).1
  have hlt' : i < es.length := by rw [h.1]; exact hlt
  exact ⟨es[i], List.getElem_mem hlt', h.2 i _ _ (List.getElem?_eq_getElem hlt') hi⟩
theorem MRel.mem' {ρ : Ren} {es es' : List MapEntry} (h : MRel ρ es es') {y : MapEntry} (hy : y ∈ es) : ∃ x ∈ es', VRel ρ y.key x.key ∧ VRel ρ y.val x.val ∧ y.born = x.born := by
  obtain ⟨i, hi⟩ := List.getElem?_of_mem hy
  have hlt := (List.getElem?_eq_some_iff.1 hi).1
  have hlt' : i < es'.length := by rw [← h.1]; exact hlt
  exact ⟨es'[i], List.getElem_mem hlt', h.2 i _ _ hi (List.getElem?_eq_getElem hlt')⟩
theorem MRel.born {ρ : Ren} {es es' : List MapEntry} (h : MRel ρ es es') : es'.map (·.born) = es.map (·.born) := by
  refine List.ext_getElem? fun i => ?_
  rw [List.getElem?_map, List.getElem?_map]
  rcases Nat.lt_or_ge i es.length with q | q
  · have q' : i < es'.length := by rw [← h.1]; exact q
    rw [List.getElem?_eq_getElem q, List.getElem?_eq_getElem q']
    have := (h.2 i _ _ (List.getElem?_eq_getElem q) (List.getElem?_eq_getElem q')).2.2
    simp only [Option.map_some, this]
  · rw [List.getElem?_eq_none q, List.getElem?_eq_none (by rw [← h.1]; exact q)]

/-- A new key. -/
theorem insert_W {t kt et : TypeId} {d : TypeDesc} {m key val : Operand} {id clock : Nat} {es : List MapEntry} {kv v : Value} (hc : (okC m && okC key && okC val) = true) (hm : P.underlying t = some (.map kt et)) (hd : P.underlying kt = some d)
    (hx : opd T s.gl m = some (.map (some id))) (hy : opd T s.gl key = some kv) (hz : opd T s.gl val = some v) (hk : IsKey d kv) (hb : lookH s.heap id = some (.map es clock)) (hks : ∀ x ∈ es, IsKey d x.key) (hnew : ∀ x ∈ es, x.key ≠ kv)
    (h : K (.tuple #[]) { s with heap := (id, some (.map (es ++ [⟨kv, v, clock⟩]) (clock + 1))) :: s.heap }) : OpW P (.insert t m key val) T s K := by
  refine ⟨_, _, h, Nat.le_refl _, rfl, ?_⟩
  intro o ho nt B w0 ρ w tmps ds H F hf
  simp only [Bool.and_eq_true] at hc
  have r1 := F.ev H ds _ _ (opd_ok hc.1.1 hx)
  have r2 := F.ev H ds _ _ (opd_ok hc.1.2 hy)
  have r3 := F.ev H ds _ _ (opd_ok hc.2 hz)
  obtain ⟨e, he, e1⟩ := map_inv r1
  have e2 := plain1_inv (key_plain hk) r2
  have hb' : s.st.heap.get id = some (.map es clock) := by rw [st_get]; exact hb
  obtain ⟨o0, es', hw, hrel⟩ := H.blk _ _ _ hb' he
  have same : ∀ x ∈ es', IsKey d x.key ∧ x.key ≠ kv := by
    intro x hx
    obtain ⟨y, hy, q1, -, -⟩ := hrel.mem hx
    rw [plain1_inv (key_plain (hks y hy)) q1]
    exact ⟨hks y hy, hnew y hy⟩
  have hfind : Instr.findNow d kv es' 0 = some none := by
    rcases findNow_spec hk es' 0 (fun x hx => (same x hx).1) with ⟨h1, -⟩ | ⟨j, e0, -, h2, h3⟩
    · exact h1
    · exact absurd h3 (same e0 (List.mem_of_getElem? h2)).2
  have hck : (Instr.checkKey false 10000 kt kv).run P w = .ok () w := run_checkKey hd hk false 9999
  generalize hev : (⟨tmps, ds⟩ : Act).eval = ev at *
  refine ⟨.skip, undef, { w with heap := w.heap.setIfInBounds e.blk (.map (es'.toArray.push ⟨kv, ev val, clock⟩) (clock + 1)) }, ρ, ?_, .inr ⟨rfl, rfl⟩, undef_rel, ?_, .refl _ _ _⟩
  · simp [execOp, ho, Instr.mapUpdate, e1, e2, run_underlying hm, Go.MapKept.run_getObj_map (P := P) hw, hck, run_findKey hd hfind, run_setObj_map _ hw, Result.andThen]
  · refine H.turn (b' := .map (es ++ [⟨kv, v, clock⟩]) (clock + 1)) he hb' rfl rfl (fun i => ?_) rfl (by simp) (fun k hk => (heap_set hw).2 k hk) rfl rfl rfl ⟨o0, es' ++ [⟨kv, ev val, clock⟩], ?_, ?_⟩
    · simp only [SS.st, toH, Tr.get_put]
    · rw [(heap_set hw).1]; simp
    · refine ⟨by simp [hrel.1], fun i a b ha hb => ?_⟩
      rcases Nat.lt_or_ge i es.length with q | q
      · rw [List.getElem?_append_left q] at ha
        rw [List.getElem?_append_left (by rw [← hrel.1]; exact q)] at hb
        exact hrel.2 i a b ha hb
      · rw [List.getElem?_append_right q] at ha
        rw [List.getElem?_append_right (by rw [← hrel.1]; exact q)] at hb
        rw [← hrel.1] at hb
        cases hi : i - es.length with
        | zero =>
          rw [hi] at ha hb
          cases ha; cases hb
          refine ⟨?_, r3, rfl⟩
          rw [← e2] at r2 ⊢
          exact e2 ▸ r2
        | succ n => rw [hi] at ha; simp at ha

/-- The way through a map begins. -/
theorem range_W {t kt et : TypeId} {x : Operand} {id clock : Nat} {es : List MapEntry} (hc : okC x = true) (hm : P.underlying t = some (.map kt et)) (hx : opd T s.gl x = some (.map (some id))) (hb : lookH s.heap id = some (.map es clock))
    (h : K (.pointer (some ⟨s.next, 0, none⟩)) { s with heap := (s.next, some (.miter id clock [] clock)) :: s.heap, next := s.next + 1 }) : OpW P (.range t x) T s K := by
  refine ⟨_, _, h, Nat.le_succ _, rfl, ?_⟩
  intro o ho nt B w0 ρ w tmps ds H F hf
  have r1 := F.ev H ds _ _ (opd_ok hc hx)
  obtain ⟨e, he, e1⟩ := map_inv r1
  have hb' : s.st.heap.get id = some (.map es clock) := by rw [st_get]; exact hb
  obtain ⟨o0, es', hw, hrel⟩ := H.blk _ _ _ hb' he
  have hfree := hf s.next (Nat.le_refl _) (Nat.lt_succ_self _)
  have H' : HRel P B w0 ρ (SS.st { s with heap := (s.next, some (.miter id clock [] clock)) :: s.heap, next := s.next + 1 }) w := by
    refine H.same rfl fun i a b hi hb2 => ?_
    simp only [SS.st, toH, Tr.get_put] at hb2 ⊢
    by_cases q : i = s.next
    · subst q; rw [hfree] at hi; cases hi
    · rwa [if_neg q] at hb2
  generalize hev : (⟨tmps, ds⟩ : Act).eval = ev at *
  refine ⟨.value (.pointer (some ⟨w.heap.size, 0, none⟩)), _, w.alloc (.mapIter (some e.blk) clock #[] clock), ρ.ext s.next ⟨w.heap.size, 0, 0, 0, false⟩, ?_, .inl rfl, .pointer ⟨rfl, rfl, _, Ren.ext_self, rfl, rfl⟩, ?_, ?_⟩
  · simp [execOp, ho, Instr.range, e1, run_underlying hm, Go.MapKept.run_getObj_map (P := P) hw, Result.andThen]
  · refine H'.new (b := .miter id clock [] clock) hfree (by simp [SS.st, toH]) rfl rfl rfl rfl rfl rfl ⟨rfl, e, Ren.le_ext hfree _ _ he, ?_⟩
    show (w.heap.push _)[w.heap.size]? = _
    simp
  · exact Ext.one hfree (Nat.lt_succ_self _)

/-- The entry that the step handed out. -/
theorem entry_W {x : Operand} {id m since clock : Nat} {seen : List Nat} {es : List MapEntry} {e : MapEntry} (hc : okC x = true) (hx : opd T s.gl x = some (.pointer (some ⟨id, 0, none⟩))) (hi : lookH s.heap id = some (.miter m since (seen ++ [e.born]) clock))
    (hb : lookH s.heap m = some (.map es clock)) (he : e ∈ es) (hn : (es.map (·.born)).Nodup) (h : K (.tuple ⟨[e.key, e.val]⟩) s) : OpW P (.entry x) T s K := by
  refine ⟨_, _, h, Nat.le_refl _, rfl, ?_⟩
  intro o ho nt B w0 ρ w tmps ds H F hf
  have r1 := F.ev H ds _ _ (opd_ok hc hx)
  obtain ⟨a', ha', q1, q2, ei, q3, q4, q5⟩ := ptr_inv r1
  have hi' : s.st.heap.get id = some (.miter m since (seen ++ [e.born]) clock) := by rw [st_get]; exact hi
  obtain ⟨i0, em, hem, hwi⟩ := H.blk _ _ _ hi' q3
  have hb' : s.st.heap.get m = some (.map es clock) := by rw [st_get]; exact hb
  obtain ⟨o0, es', hw, hrel⟩ := H.blk _ _ _ hb' hem
  obtain ⟨x', hx', v1, v2, v3⟩ := hrel.mem' he
  rw [addr_eq q2, q4, q5, i0] at ha'
  have run := run_entry_at (P := P) w ei.blk em.blk since seen.toArray es'.toArray clock x' (by rw [hwi]; simp [v3]) hw (by simpa using hx') (by simpa [hrel.born] using hn)
  generalize hev : (⟨tmps, ds⟩ : Act).eval = ev at *
  refine ⟨.value (.tuple #[x'.key, x'.val]), _, w, ρ, ?_, .inl rfl, .tuple' (b := [x'.key, x'.val]) (.cons v1 (.cons v2 (.nil _))), H, .refl _ _ _⟩
  have ha2 : ev x = .pointer (some ⟨ei.blk, 0, none⟩) := ha'
  simp only [execOp, ho, ha2, Sem.run_bind, run, Result.andThen_ok, Sem.run_pure]

/-- The next step: in each world one of what is left, or the end. -/
theorem next_M {x : Operand} {id m since c clock : Nat} {seen : List Nat} {es : List MapEntry} (hc : okC x = true) (hx : opd T s.gl x = some (.pointer (some ⟨id, 0, none⟩))) (hi : lookH s.heap id = some (.miter m since seen c))
    (hb : lookH s.heap m = some (.map es clock)) (hold : ∀ e ∈ es, e.born < since) (hsc : since ≤ c) (o : Oper) (ho : o.op = .next x false) {nt B : Nat} {w0 : World} {ρ : Ren} {w : World} {tmps : Array Value} {ds : List Deferred}
    (H : HRel P B w0 ρ s.st w) (F : FRel ρ nt (toTr T) tmps) :
    ((∀ e ∈ es, e.born ∈ seen) ∧ (execOp (⟨tmps, ds⟩ : Act).eval o).run P w = .ok (.value (.tuple #[.bool false])) w) ∨
    ∃ e ∈ es, e.born ∉ seen ∧ ∃ v' w', (execOp (⟨tmps, ds⟩ : Act).eval o).run P w = .ok (.value v') w' ∧ VRel ρ (.tuple ⟨[.bool true, e.key, e.val]⟩) v' ∧ HRel P B w0 ρ (SS.st { s with heap := (id, some (.miter m since (seen ++ [e.born]) clock)) :: s.heap }) w' ∧ w.heap.size ≤ w'.heap.size := by
  have r1 := F.ev H ds _ _ (opd_ok hc hx)
  obtain ⟨a', ha', q1, q2, ei, q3, q4, q5⟩ := ptr_inv r1
  have hi' : s.st.heap.get id = some (.miter m since seen c) := by rw [st_get]; exact hi
  obtain ⟨i0, em, hem, hwi⟩ := H.blk _ _ _ hi' q3
  have hb' : s.st.heap.get m = some (.map es clock) := by rw [st_get]; exact hb
  obtain ⟨o0, es', hw, hrel⟩ := H.blk _ _ _ hb' hem
  rw [addr_eq q2, q4, q5, i0] at ha'
  generalize hev : (⟨tmps, ds⟩ : Act).eval = ev at *
  have ha2 : ev x = .pointer (some ⟨ei.blk, 0, none⟩) := ha'
  rcases run_next_at (P := P) w o.type ei.blk em.blk since c seen.toArray es'.toArray clock hwi hw (fun x hx => by
      obtain ⟨y, hy, -, -, q⟩ := hrel.mem (show x ∈ es' by simpa using hx)
      rw [← q]; exact hold y hy) hsc with ⟨z, run⟩ | ⟨e', he', w1, hw1, run⟩
  · refine .inl ⟨fun e he => ?_, by simp only [execOp, ho, ha2, Sem.run_bind, run, Result.andThen_ok, Sem.run_pure]⟩
    obtain ⟨x', hx', -, -, v3⟩ := hrel.mem' he
    have hz : leftOf es'.toArray seen.toArray = #[] := Array.eq_empty_of_size_eq_zero z
    unfold leftOf at hz
    rw [Array.filter_eq_empty_iff] at hz
    have := hz x' (by simpa using hx')
    rw [v3]
    simpa using this
  · have hm' : e' ∈ es' ∧ e'.born ∉ seen := by
      unfold leftOf at he'
      simpa using he'
    obtain ⟨y, hy, v1, v2, v3⟩ := hrel.mem hm'.1
    have H1 : HRel P B w0 ρ s.st w1 := by rcases hw1 with rfl | rfl; exact H; exact H.drew
    have hwi1 : w1.heap[ei.blk]? = some (.mapIter (some em.blk) since ⟨seen⟩ c) := by rcases hw1 with rfl | rfl <;> exact hwi
    refine .inr ⟨y, hy, by rw [v3]; exact hm'.2, .tuple #[.bool true, e'.key, e'.val], ChangeMaps.setBlock w1 ei.blk (.mapIter (some em.blk) since (seen.toArray.push e'.born) clock), ?_, .tuple' (b := [.bool true, e'.key, e'.val]) (.cons (.bool _) (.cons v1 (.cons v2 (.nil _)))), ?_, by
      have e : w1.heap = w.heap := by rcases hw1 with h | h <;> rw [h] <;> rfl
      show w.heap.size ≤ (w1.heap.setIfInBounds _ _).size
      rw [e]; simp⟩
    · simp only [execOp, ho, ha2, Sem.run_bind, run, Result.andThen_ok, Sem.run_pure]
    · refine H1.turn (b' := .miter m since (seen ++ [y.born]) clock) q3 hi' rfl rfl (fun i => ?_) rfl (by simp [ChangeMaps.setBlock]) (fun k hk => (heap_set hwi1).2 k hk) rfl rfl rfl ⟨i0, em, hem, ?_⟩
      · simp only [SS.st, toH, Tr.get_put]
      · show (w1.heap.setIfInBounds ei.blk _)[ei.blk]? = _
        rw [(heap_set hwi1).1]
        simp [v3]
end
end Go.Vf
