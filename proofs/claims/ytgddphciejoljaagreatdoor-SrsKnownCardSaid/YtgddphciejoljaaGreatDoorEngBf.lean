import Derived.Test.YtgddphciejoljaaGreatDoorEngBd
import Derived.MapKept
import Derived.Maps.RangeRun
/- EngMa -/
section
/- The machine of plain blocks, by rows: maps; going through them, in any order. -/
namespace Go.Vf
open Go.RowKit Go.MapKept
set_option linter.unusedVariables false
set_option linter.unusedSimpArgs false
section
variable {P : Program} {T : TL} {s : SS} {K : Value → SS → Prop}

theorem key_plain {d : TypeDesc} {v : Value} (h : IsKey d v) : plain1 v = true := by
  cases d <;> cases v <;> first | rfl | exact h.elim

theorem map_inv {ρ : Ren} {id : Nat} {v' : Value} (h : VRel ρ (.map (some id)) v') : ∃ e, ρ id = some e ∧ v' = .map (some e.blk) := by
  cases h with
  | map h1 h2 => subst h2; exact ⟨_, h1, rfl⟩

theorem st_get (s : SS) (id : Nat) : s.st.heap.get id = lookH s.heap id := s.get id

/-- The world's entries, by the machine's. -/
theorem MRel.mem {ρ : Ren} {es es' : List MapEntry} (h : MRel ρ es es') {x : MapEntry} (hx : x ∈ es') : ∃ y ∈ es, VRel ρ y.key x.key ∧ VRel ρ y.val x.val ∧ y.born = x.born := by
  obtain ⟨i, hi⟩ := List.getElem?_of_mem hx
  have hlt := (List.getElem?_eq_some_iff.1 hi).1
  have hlt' : i < es.length := by rw [h.1]; exact hlt
  exact ⟨es[i], List.getElem_mem hlt', h.2 i _ _ (List.getElem?_eq_getElem hlt') hi⟩
theorem MRel.mem' {ρ : Ren} {es es' : List MapEntry} (h : MRel ρ es es') {y : MapEntry} (hy : y ∈ es) : ∃ x ∈ es', VRel ρ y.key x.key ∧ VRel ρ y.val x.val ∧ y.born = x.born := by
  obtain ⟨i, hi⟩ := List.getElem?_of_mem hy
  have hlt := (List.getElem?_eq_some_iff.1 hi).1
  have hlt' : i < es'.length := by rw [← h.1]; exact hlt
  exact ⟨es'[i], List.getElem_mem hlt', h.2 i _ _ hi (List.getElem?_eq_getElem hlt')⟩
theorem MRel.born {ρ : Ren} {es es' : List MapEntry} (h : MRel ρ es es') : es'.map (·.born) = es.map (·.born) := by
  refine List.ext_getElem? fun i => ?_
  rw [List.getElem?_map, List.getElem?_map]
  rcases Nat.lt_or_ge i es.length with q | q
  · have q' : i < es'.length := by rw [← h.1]; exact q
    rw [List.getElem?_eq_getElem q, List.getElem?_eq_getElem q']
    have := (h.2 i _ _ (List.getElem?_eq_getElem q) (List.getElem?_eq_getElem q')).2.2
    simp only [Option.map_some, this]
  · rw [List.getElem?_eq_none q, List.getElem?_eq_none (by rw [← h.1]; exact q)]

/-- A new key. -/
theorem insert_W {t kt et : TypeId} {d : TypeDesc} {m key val : Operand} {id clock : Nat} {es : List MapEntry} {kv v : Value} (hc : (okC m && okC key && okC val) = true) (hm : P.underlying t = some (.map kt et)) (hd : P.underlying kt = some d)
    (hx : opd T s.gl m = some (.map (some id))) (hy : opd T s.gl key = some kv) (hz : opd T s.gl val = some v) (hk : IsKey d kv) (hb : lookH s.heap id = some (.map es clock)) (hks : ∀ x ∈ es, IsKey d x.key) (hnew : ∀ x ∈ es, x.key ≠ kv)
    (h : K (.tuple #[]) { s with heap := (id, some (.map (es ++ [⟨kv, v, clock⟩]) (clock + 1))) :: s.heap }) : OpW P (.insert t m key val) T s K := by
  refine ⟨_, _, h, Nat.le_refl _, rfl, ?_⟩
  intro o ho nt B w0 ρ w tmps ds H F hf
  simp only [Bool.and_eq_true] at hc
  have r1 := F.ev H ds _ _ (opd_ok hc.1.1 hx)
  have r2 := F.ev H ds _ _ (opd_ok hc.1.2 hy)
  have r3 := F.ev H ds _ _ (opd_ok hc.2 hz)
  obtain ⟨e, he, e1⟩ := map_inv r1
  have e2 := plain1_inv (key_plain hk) r2
  have hb' : s.st.heap.get id = some (.map es clock) := by rw [st_get]; exact hb
  obtain ⟨o0, es', hw, hrel⟩ := H.blk _ _ _ hb' he
  have same : ∀ x ∈ es', IsKey d x.key ∧ x.key ≠ kv := by
    intro x hx
    obtain ⟨y, hy, q1, -, -⟩ := hrel.mem hx
    rw [plain1_inv (key_plain (hks y hy)) q1]
    exact ⟨hks y hy, hnew y hy⟩
  have hfind : Instr.findNow d kv es' 0 = some none := by
    rcases findNow_spec hk es' 0 (fun x hx => (same x hx).1) with ⟨h1, -⟩ | ⟨j, e0, -, h2, h3⟩
    · exact h1
    · exact absurd h3 (same e0 (List.mem_of_getElem? h2)).2
  have hck : (Instr.checkKey false 10000 kt kv).run P w = .ok () w := run_checkKey hd hk false 9999
  generalize hev : (⟨tmps, ds⟩ : Act).eval = ev at *
  refine ⟨.skip, undef, { w with heap := w.heap.setIfInBounds e.blk (.map (es'.toArray.push ⟨kv, ev val, clock⟩) (clock + 1)) }, ρ, ?_, .inr ⟨rfl, rfl⟩, undef_rel, ?_, .refl _ _ _⟩
  · simp [execOp, ho, Instr.mapUpdate, e1, e2, run_underlying hm, Go.MapKept.run_getObj_map (P := P) hw, hck, run_findKey hd hfind, run_setObj_map _ hw, Result.andThen]
  · refine H.turn (b' := .map (es ++ [⟨kv, v, clock⟩]) (clock + 1)) he hb' rfl rfl (fun i => ?_) rfl (by simp) (fun k hk => (heap_set hw).2 k hk) rfl rfl rfl ⟨o0, es' ++ [⟨kv, ev val, clock⟩], ?_, ?_⟩
    · simp only [SS.st, toH, Tr.get_put]
    · rw [(heap_set hw).1]; simp
    · refine ⟨by simp [hrel.1], fun i a b ha hb => ?_⟩
      rcases Nat.lt_or_ge i es.length with q | q
      · rw [List.getElem?_append_left q] at ha
        rw [List.getElem?_append_left (by rw [← hrel.1]; exact q)] at hb
        exact hrel.2 i a b ha hb
      · rw [List.getElem?_append_right q] at ha
        rw [List.getElem?_append_right (by rw [← hrel.1]; exact q)] at hb
        rw [← hrel.1] at hb
        cases hi : i - es.length with
        | zero =>
          rw [hi] at ha hb
          cases ha; cases hb
          refine ⟨?_, r3, rfl⟩
          rw [← e2] at r2 ⊢
          exact e2 ▸ r2
        | succ n => rw [hi] at ha; simp at ha

/-- The way through a map begins. -/
theorem range_W {t kt et : TypeId} {x : Operand} {id clock : Nat} {es : List MapEntry} (hc : okC x = true) (hm : P.underlying t = some (.map kt et)) (hx : opd T s.gl x = some (.map (some id))) (hb : lookH s.heap id = some (.map es clock))
    (h : K (.pointer (some ⟨s.next, 0, none⟩)) { s with heap := (s.next, some (.miter id clock [] clock)) :: s.heap, next := s.next + 1 }) : OpW P (.range t x) T s K := by
  refine ⟨_, _, h, Nat.le_succ _, rfl, ?_⟩
  intro o ho nt B w0 ρ w tmps ds H F hf
  have r1 := F.ev H ds _ _ (opd_ok hc hx)
  obtain ⟨e, he, e1⟩ := map_inv r1
  have hb' : s.st.heap.get id = some (.map es clock) := by rw [st_get]; exact hb
  obtain ⟨o0, es', hw, hrel⟩ := H.blk _ _ _ hb' he
  have hfree := hf s.next (Nat.le_refl _) (Nat.lt_succ_self _)
  have H' : HRel P B w0 ρ (SS.st { s with heap := (s.next, some (.miter id clock [] clock)) :: s.heap, next := s.next + 1 }) w := by
    refine H.same rfl fun i a b hi hb2 => ?_
    simp only [SS.st, toH, Tr.get_put] at hb2 ⊢
    by_cases q : i = s.next
    · subst q; rw [hfree] at hi; cases hi
    · rwa [if_neg q] at hb2
  generalize hev : (⟨tmps, ds⟩ : Act).eval = ev at *
  refine ⟨.value (.pointer (some ⟨w.heap.size, 0, none⟩)), _, w.alloc (.mapIter (some e.blk) clock #[] clock), ρ.ext s.next ⟨w.heap.size, 0, 0, 0, false⟩, ?_, .inl rfl, .pointer ⟨rfl, rfl, _, Ren.ext_self, rfl, rfl⟩, ?_, ?_⟩
  · simp [execOp, ho, Instr.range, e1, run_underlying hm, Go.MapKept.run_getObj_map (P := P) hw, Result.andThen]
  · refine H'.new (b := .miter id clock [] clock) hfree (by simp [SS.st, toH]) rfl rfl rfl rfl rfl rfl ⟨rfl, e, Ren.le_ext hfree _ _ he, ?_⟩
    show (w.heap.push _)[w.heap.size]? = _
    simp
  · exact Ext.one hfree (Nat.lt_succ_self _)

/-- The entry that the step handed out. -/
theorem entry_W {x : Operand} {id m since clock : Nat} {seen : List Nat} {es : List MapEntry} {e : MapEntry} (hc : okC x = true) (hx : opd T s.gl x = some (.pointer (some ⟨id, 0, none⟩))) (hi : lookH s.heap id = some (.miter m since (seen ++ [e.born]) clock))
    (hb : lookH s.heap m = some (.map es clock)) (he : e ∈ es) (hn : (es.map (·.born)).Nodup) (h : K (.tuple ⟨[e.key, e.val]⟩) s) : OpW P (.entry x) T s K := by
  refine ⟨_, _, h, Nat.le_refl _, rfl, ?_⟩
  intro o ho nt B w0 ρ w tmps ds H F hf
  have r1 := F.ev H ds _ _ (opd_ok hc hx)
  obtain ⟨a', ha', q1, q2, ei, q3, q4, q5⟩ := ptr_inv r1
  have hi' : s.st.heap.get id = some (.miter m since (seen ++ [e.born]) clock) := by rw [st_get]; exact hi
  obtain ⟨i0, em, hem, hwi⟩ := H.blk _ _ _ hi' q3
  have hb' : s.st.heap.get m = some (.map es clock) := by rw [st_get]; exact hb
  obtain ⟨o0, es', hw, hrel⟩ := H.blk _ _ _ hb' hem
  obtain ⟨x', hx', v1, v2, v3⟩ := hrel.mem' he
  rw [addr_eq q2, q4, q5, i0] at ha'
  have run := run_entry_at (P := P) w ei.blk em.blk since seen.toArray es'.toArray clock x' (by rw [hwi]; simp [v3]) hw (by simpa using hx') (by simpa [hrel.born] using hn)
  generalize hev : (⟨tmps, ds⟩ : Act).eval = ev at *
  refine ⟨.value (.tuple #[x'.key, x'.val]), _, w, ρ, ?_, .inl rfl, .tuple' (b := [x'.key, x'.val]) (.cons v1 (.cons v2 (.nil _))), H, .refl _ _ _⟩
  have ha2 : ev x = .pointer (some ⟨ei.blk, 0, none⟩) := ha'
  simp only [execOp, ho, ha2, Sem.run_bind, run, Result.andThen_ok, Sem.run_pure]

/-- The next step: in each world one of what is left, or the end. -/
theorem next_M {x : Operand} {id m since c clock : Nat} {seen : List Nat} {es : List MapEntry} (hc : okC x = true) (hx : opd T s.gl x = some (.pointer (some ⟨id, 0, none⟩))) (hi : lookH s.heap id = some (.miter m since seen c))
    (hb : lookH s.heap m = some (.map es clock)) (hold : ∀ e ∈ es, e.born < since) (hsc : since ≤ c) (o : Oper) (ho : o.op = .next x false) {nt B : Nat} {w0 : World} {ρ : Ren} {w : World} {tmps : Array Value} {ds : List Deferred}
    (H : HRel P B w0 ρ s.st w) (F : FRel ρ nt (toTr T) tmps) :
    ((∀ e ∈ es, e.born ∈ seen) ∧ (execOp (⟨tmps, ds⟩ : Act).eval o).run P w = .ok (.value (.tuple #[.bool false])) w) ∨
    ∃ e ∈ es, e.born ∉ seen ∧ ∃ v' w', (execOp (⟨tmps, ds⟩ : Act).eval o).run P w = .ok (.value v') w' ∧ VRel ρ (.tuple ⟨[.bool true, e.key, e.val]⟩) v' ∧ HRel P B w0 ρ (SS.st { s with heap := (id, some (.miter m since (seen ++ [e.born]) clock)) :: s.heap }) w' ∧ w.heap.size ≤ w'.heap.size := by
  have r1 := F.ev H ds _ _ (opd_ok hc hx)
  obtain ⟨a', ha', q1, q2, ei, q3, q4, q5⟩ := ptr_inv r1
  have hi' : s.st.heap.get id = some (.miter m since seen c) := by rw [st_get]; exact hi
  obtain ⟨i0, em, hem, hwi⟩ := H.blk _ _ _ hi' q3
  have hb' : s.st.heap.get m = some (.map es clock) := by rw [st_get]; exact hb
  obtain ⟨o0, es', hw, hrel⟩ := H.blk _ _ _ hb' hem
  rw [addr_eq q2, q4, q5, i0] at ha'
  generalize hev : (⟨tmps, ds⟩ : Act).eval = ev at *
  have ha2 : ev x = .pointer (some ⟨ei.blk, 0, none⟩) := ha'
  rcases run_next_at (P := P) w o.type ei.blk em.blk since c seen.toArray es'.toArray clock hwi hw (fun x hx => by
      obtain ⟨y, hy, -, -, q⟩ := hrel.mem (show x ∈ es' by simpa using hx)
      rw [← q]; exact hold y hy) hsc with ⟨z, run⟩ | ⟨e', he', w1, hw1, run⟩
  · refine .inl ⟨fun e he => ?_, by simp only [execOp, ho, ha2, Sem.run_bind, run, Result.andThen_ok, Sem.run_pure]⟩
    obtain ⟨x', hx', -, -, v3⟩ := hrel.mem' he
    have hz : leftOf es'.toArray seen.toArray = #[] := Array.eq_empty_of_size_eq_zero z
    unfold leftOf at hz
    rw [Array.filter_eq_empty_iff] at hz
    have := hz x' (by simpa using hx')
    rw [v3]
    simpa using this
  · have hm' : e' ∈ es' ∧ e'.born ∉ seen := by
      unfold leftOf at he'
      simpa using he'
    obtain ⟨y, hy, v1, v2, v3⟩ := hrel.mem hm'.1
    have H1 : HRel P B w0 ρ s.st w1 := by rcases hw1 with rfl | rfl; exact H; exact H.drew
    have hwi1 : w1.heap[ei.blk]? = some (.mapIter (some em.blk) since ⟨seen⟩ c) := by rcases hw1 with rfl | rfl <;> exact hwi
    refine .inr ⟨y, hy, by rw [v3]; exact hm'.2, .tuple #[.bool true, e'.key, e'.val], ChangeMaps.setBlock w1 ei.blk (.mapIter (some em.blk) since (seen.toArray.push e'.born) clock), ?_, .tuple' (b := [.bool true, e'.key, e'.val]) (.cons (.bool _) (.cons v1 (.cons v2 (.nil _)))), ?_, by
      have e : w1.heap = w.heap := by rcases hw1 with h | h <;> rw [h] <;> rfl
      show w.heap.size ≤ (w1.heap.setIfInBounds _ _).size
      rw [e]; simp⟩
    · simp only [execOp, ho, ha2, Sem.run_bind, run, Result.andThen_ok, Sem.run_pure]
    · refine H1.turn (b' := .miter m since (seen ++ [y.born]) clock) q3 hi' rfl rfl (fun i => ?_) rfl (by simp [ChangeMaps.setBlock]) (fun k hk => (heap_set hwi1).2 k hk) rfl rfl rfl ⟨i0, em, hem, ?_⟩
      · simp only [SS.st, toH, Tr.get_put]
      · show (w1.heap.setIfInBounds ei.blk _)[ei.blk]? = _
        rw [(heap_set hwi1).1]
        simp [v3]
end
end Go.Vf
end
/- EngMr -/
section
/- The machine of plain blocks, by rows: a loop that goes through a map, in whatever order. -/
namespace Go.Vf
open Go.RowKit
set_option linter.unusedVariables false
set_option linter.unusedSimpArgs false
section
variable {P : Program} {nt k : Nat}

/-- What a loop through a map has: the ground without the way's own block, that block, the map, its entries, what is known at the head. -/
structure MapL where
  sb : SS
  it : Nat
  m : Nat
  since : Nat
  es : List MapEntry
  TH : TL

def MapL.at (g : MapL) (n : Nat) (seen : List Nat) : SS := { heap := (g.it, some (.miter g.m g.since seen g.since)) :: g.sb.heap, next := n, gl := g.sb.gl }
def MapL.fin (g : MapL) (n : Nat) : SS := { heap := g.sb.heap, next := n, gl := g.sb.gl }
def MapL.left (g : MapL) (seen : List Nat) : Nat := (g.es.filter fun e => !seen.contains e.born).length

theorem left_less {g : MapL} {seen : List Nat} {e : MapEntry} (he : e ∈ g.es) (hs : e.born ∉ seen) : g.left (seen ++ [e.born]) < g.left seen := by
  unfold MapL.left
  have key : ∀ (l : List MapEntry), ((l.filter fun x => !(seen ++ [e.born]).contains x.born).length ≤ (l.filter fun x => !seen.contains x.born).length) ∧ (e ∈ l → (l.filter fun x => !(seen ++ [e.born]).contains x.born).length < (l.filter fun x => !seen.contains x.born).length) := by
    intro l
    induction l with
    | nil => exact ⟨Nat.le_refl _, fun h => by cases h⟩
    | cons x l ih =>
      have hc : (seen ++ [e.born]).contains x.born = (seen.contains x.born || x.born == e.born) := by
        rw [Bool.eq_iff_iff]; simp
      simp only [List.filter_cons, hc]
      cases h1 : seen.contains x.born with
      | true =>
        simp only [Bool.true_or, Bool.not_true, Bool.false_eq_true, if_false]
        refine ⟨ih.1, fun h => ?_⟩
        rcases List.mem_cons.1 h with rfl | h
        · exact absurd (by simpa using h1) hs
        · exact ih.2 h
      | false =>
        cases h2 : x.born == e.born with
        | true =>
          simp only [Bool.false_or, Bool.not_true, Bool.false_eq_true, if_false, Bool.not_false, if_true, List.length_cons]
          exact ⟨by omega, fun _ => by omega⟩
        | false =>
          simp only [Bool.false_or, Bool.not_false, if_true, List.length_cons]
          refine ⟨by omega, fun h => ?_⟩
          rcases List.mem_cons.1 h with rfl | h
          · simp at h2
          · have := ih.2 h; omega
  exact (key g.es).2 he

/-- A bound for all of a row. -/
theorem bound_all {α : Type} {p : α → Nat → Prop} (mono : ∀ a n m, n ≤ m → p a n → p a m) : ∀ {l : List α}, (∀ a ∈ l, ∃ n, p a n) → ∀ n0, ∃ n, n0 ≤ n ∧ ∀ a ∈ l, p a n
  | [], _, n0 => ⟨n0, Nat.le_refl _, fun a h => by cases h⟩
  | a :: l, h, n0 => by
    obtain ⟨n1, h1⟩ := h a (by simp)
    obtain ⟨n2, h2, h3⟩ := bound_all mono (l := l) (fun b hb => h b (by simp [hb])) (max n0 n1)
    refine ⟨n2, by omega, fun b hb => ?_⟩
    rcases List.mem_cons.1 hb with rfl | hb
    · exact mono _ _ _ (by omega) h1
    · exact h3 b hb

variable (P nt) in
/-- From a head on, the loop comes to its end; no number above n is taken. -/
def LX (c : Code) (g : MapL) (id0 n : Nat) (seen : List Nat) (N : Nat) : Prop :=
  n ≤ N ∧ ∀ (B : Nat) (w0 : World) (ρ : Ren) (w : World) (tmps : Array Value) (ds : List Deferred) (Q' : Exit → Act → World → Prop) (rr : Option Nat), HRel P B w0 ρ (g.at n seen).st w → FRel ρ nt (toTr g.TH) tmps → Free ρ n N →
    (∀ ρ' tmps' w' M, HRel P B w0 ρ' (g.fin N).st w' → FRel ρ' nt (toTr g.TH) tmps' → Ext ρ ρ' n N → Marks w w' M → Q' (.exit id0) ⟨tmps', M.map mkD ++ ds⟩ w') → ∀ r, g.left seen < r → Code.roundsIn (Fr rr) 0 P c Q' r ⟨tmps, ds⟩ w

theorem LX.mono {c : Code} {g : MapL} {id0 n : Nat} {seen : List Nat} {N N' : Nat} (h : LX P nt c g id0 n seen N) (hN : N ≤ N') : LX P nt c g id0 n seen N' :=
  ⟨Nat.le_trans h.1 hN, fun B w0 ρ w tmps ds Q' rr H F hf hQ => h.2 B w0 ρ w tmps ds Q' rr H F (hf.sub (Nat.le_refl _) hN) fun ρ' tmps' w' M H' F' x K =>
    hQ ρ' tmps' w' M (H'.same rfl fun _ _ _ _ hb => hb) F' (x.mono (Nat.le_refl _) hN) K⟩

/-- Operations behind the first, and the code behind them. -/
def Rest (P : Program) (nt : Nat) (ops : Array Oper) (l : List Oper) (cb : Code) (T : TL) (s : SS) (ex : AExit) (T3 : TL) (s3 : SS) : Prop :=
  ∃ T2 s2, WSX P nt ops l T s T2 s2 ∧ WX P nt cb T2 s2 ex T3 s3

theorem Rest.le {ops : Array Oper} {l : List Oper} {cb : Code} {T : TL} {s : SS} {ex : AExit} {T3 : TL} {s3 : SS} (h : Rest P nt ops l cb T s ex T3 s3) : s.next ≤ s3.next := by
  obtain ⟨T2, s2, h1, h2⟩ := h
  exact Nat.le_trans h1.1 h2.1

theorem Rest.run {ops : Array Oper} {o : Oper} {l : List Oper} {cb : Code} {T : TL} {s : SS} {ex : AExit} {T3 : TL} {s3 : SS} (h : Rest P nt ops l cb T s ex T3 s3) (hops : ops.toList = o :: l) {B : Nat} {w0 : World} {ρ : Ren} {w : World} {tmps : Array Value} {ds : List Deferred} {Q' : Exit → Act → World → Prop} {rr : Option Nat}
    (H : HRel P B w0 ρ s.st w) (F : FRel ρ nt (toTr T) tmps) (hf : Free ρ s.next s3.next)
    (hQ : ∀ ρ' tmps' w' M, HRel P B w0 ρ' s3.st w' → FRel ρ' nt (toTr T3) tmps' → Ext ρ ρ' s.next s3.next → Marks w w' M → Q' (exOf ex) ⟨tmps', M.map mkD ++ ds⟩ w') :
    wpOpsIn (Fr rr) 0 P ops (Exit.then (cb.wpIn (Fr rr) 0 P Q') Q') (List.range' 1 l.length) ⟨tmps, ds⟩ w := by
  obtain ⟨T2, s2, ⟨a1, a2, a3⟩, b1, b2, b3⟩ := h
  refine a3 1 (fun i => ?_) B w ρ w tmps ds _ rr H.rebase F (hf.sub (Nat.le_refl _) b1) fun ρ1 tmps1 w1 H1 F1 x1 => ?_
  · rw [show ops[1 + i]? = ops.toList[1 + i]? by simp, hops, Nat.add_comm 1 i, List.getElem?_cons_succ]
  · refine b3 B w1 ρ1 w1 tmps1 ds Q' rr H1.rebase F1 (hf.ext x1 a1) fun ρ2 tmps2 w2 M2 H2 F2 x2 K2 => ?_
    exact hQ ρ2 tmps2 w2 M2 ((H.join H1).join H2) F2 (x1.trans' x2 a1 b1) ⟨K2.1, fun D hD => ⟨Nat.le_trans H1.below.size (K2.2 D hD).1, (K2.2 D hD).2⟩⟩

theorem LX.all {ops : Array Oper} {o : Oper} {l : List Oper} {cb : Code} {g : MapL} {rid id0 d : Nat} {x : Operand} (hops : ops.toList = o :: l) (ho : o.op = .next x false) (hdst : o.dst = some d) (hd : dstOk nt (some d) = true) (hw : want ops (toTr g.TH) o = some true)
    (hc : okC x = true) (hx : opd g.TH g.sb.gl x = some (.pointer (some ⟨g.it, 0, none⟩))) (hm : lookH g.sb.heap g.m = some (.map g.es g.since)) (hne : g.it ≠ g.m) (hold : ∀ e ∈ g.es, e.born < g.since)
    {n0 : Nat} (body : ∀ n seen, n0 ≤ n → ∀ e ∈ g.es, e.born ∉ seen → ∃ T3 s3, Rest P nt ops l cb (putL g.TH (some d) (.tuple ⟨[.bool true, e.key, e.val]⟩)) (g.at n (seen ++ [e.born])) .normal T3 s3 ∧ Wk P nt k T3 s3 g.TH (g.at s3.next (seen ++ [e.born])))
    (last : ∀ n seen, n0 ≤ n → ∃ T3 s3, Rest P nt ops l cb (putL g.TH (some d) (.tuple ⟨[.bool false]⟩)) (g.at n seen) (.exit id0) T3 s3 ∧ Wk P nt k T3 s3 g.TH (g.fin s3.next)) :
    ∀ (kk n : Nat) (seen : List Nat), n0 ≤ n → g.left seen = kk → ∃ N, LX P nt (.seq (.region rid ops false) cb) g id0 n seen N := by
  intro kk
  induction kk using Nat.strongRecOn with
  | _ kk ih =>
  intro n seen hn0 hk
  have each : ∀ e ∈ g.es, ∃ N, e.born ∉ seen → ∃ T3 s3, Rest P nt ops l cb (putL g.TH (some d) (.tuple ⟨[.bool true, e.key, e.val]⟩)) (g.at n (seen ++ [e.born])) .normal T3 s3 ∧ Wk P nt k T3 s3 g.TH (g.at s3.next (seen ++ [e.born])) ∧ LX P nt (.seq (.region rid ops false) cb) g id0 s3.next (seen ++ [e.born]) N := by
    intro e he
    by_cases hs : e.born ∈ seen
    · exact ⟨0, fun h => absurd hs h⟩
    · obtain ⟨T3, s3, h1, h2⟩ := body n seen hn0 e he hs
      have hle : n ≤ s3.next := h1.le
      obtain ⟨N, hN⟩ := ih _ (hk ▸ left_less he hs) s3.next (seen ++ [e.born]) (Nat.le_trans hn0 hle) rfl
      exact ⟨N, fun _ => ⟨T3, s3, h1, h2, hN⟩⟩
  obtain ⟨Tz, sz, z1, z2⟩ := last n seen hn0
  obtain ⟨N, hN0, hN⟩ := bound_all (p := fun (e : MapEntry) N => e.born ∉ seen → ∃ T3 s3, Rest P nt ops l cb (putL g.TH (some d) (.tuple ⟨[.bool true, e.key, e.val]⟩)) (g.at n (seen ++ [e.born])) .normal T3 s3 ∧ Wk P nt k T3 s3 g.TH (g.at s3.next (seen ++ [e.born])) ∧ LX P nt (.seq (.region rid ops false) cb) g id0 s3.next (seen ++ [e.born]) N)
    (fun e a b hab h hs => let ⟨T3, s3, h1, h2, h3⟩ := h hs; ⟨T3, s3, h1, h2, h3.mono hab⟩) each sz.next
  have hnz : n ≤ sz.next := z1.le
  refine ⟨N, Nat.le_trans hnz hN0, fun B w0 ρ w tmps ds Q' rr H F hf hQ r hr => ?_⟩
  obtain ⟨r, rfl⟩ : ∃ q, r = q + 1 := ⟨r - 1, by omega⟩
  rw [roundsIn_succ]
  refine wpIn_seq (wpIn_region ?_)
  have hsz : ops.size = l.length + 1 := by
    have := congrArg List.length hops
    simpa using this
  have h0 : ops[0]? = some o := by
    rw [show ops[0]? = ops.toList[0]? by simp, hops]
    rfl
  rw [List.range_eq_range', hsz, List.range'_succ]
  simp only [wpOpsIn, h0, want_ok F hw, if_true]
  rcases next_M (c := g.since) hc (by exact hx) lkH (lkT hne hm) hold (Nat.le_refl _) o ho H F with ⟨hall, run⟩ | ⟨e, he, hs, v', w1, run, hv, H1, hsz1⟩
  · refine op_fr (noDefer_run run (.inl ⟨_, rfl⟩)) ?_
    unfold Oper.wp
    rw [run]
    obtain ⟨tmps1, e1, e2⟩ := F.put (putT_L hd (.tuple ⟨[.bool false]⟩)) (.tuple' (b := [.bool false]) (.cons (.bool _) (.nil _))) ds
    show wpOpsIn (Fr rr) 0 P ops _ _ ((⟨tmps, ds⟩ : Act).put o.dst (.tuple #[.bool false])) w
    rw [hdst, e1]
    refine z1.run hops H e2 (hf.sub (Nat.le_refl _) hN0) fun ρ2 tmps2 w2 M2 H2 F2 x2 K2 => ?_
    obtain ⟨H3, F3⟩ := z2.2.2 B w0 ρ2 w2 tmps2 H2 F2
    exact hQ ρ2 tmps2 w2 M2 (H3.same rfl fun _ _ _ _ hb => hb) F3 (x2.mono (Nat.le_refl _) hN0) K2
  · obtain ⟨T3, s3, h1, h2, h3⟩ := hN e he hs
    refine op_fr (noDefer_run run (.inl ⟨_, rfl⟩)) ?_
    unfold Oper.wp
    rw [run]
    obtain ⟨tmps1, e1, e2⟩ := F.put (putT_L hd (.tuple ⟨[.bool true, e.key, e.val]⟩)) hv ds
    show wpOpsIn (Fr rr) 0 P ops _ _ ((⟨tmps, ds⟩ : Act).put o.dst v') w1
    rw [hdst, e1]
    have hle : n ≤ s3.next := h1.le
    have H1' : HRel P B w0 ρ (g.at n (seen ++ [e.born])).st w1 := H1.same rfl fun id z b _ hb => by
      rw [SS.get] at hb ⊢
      simp only [MapL.at, lookH] at hb ⊢
      rcases beq_cases g.it id with ⟨_, q⟩ | ⟨_, q⟩
      · rw [q] at hb ⊢; exact hb
      · rw [q] at hb ⊢; simp only [cond_false] at hb ⊢; exact hb
    refine h1.run hops (w0 := w1) H1'.rebase e2 (hf.sub (Nat.le_refl _) h3.1) fun ρ2 tmps2 w2 M2 H2 F2 x2 K2 => ?_
    obtain ⟨H3, F3⟩ := h2.2.2 B w1 ρ2 w2 tmps2 H2 F2
    refine h3.2 B w2 ρ2 w2 tmps2 (M2.map mkD ++ ds) Q' rr H3.rebase F3 ((hf.ext x2 hle).sub (Nat.le_refl _) (Nat.le_refl _)) (fun ρ4 tmps4 w4 M4 H4 F4 x4 K4 => ?_) r (by have := left_less he hs; omega)
    have K2' : Marks w w2 M2 := ⟨K2.1, fun D hD => ⟨Nat.le_trans hsz1 (K2.2 D hD).1, (K2.2 D hD).2⟩⟩
    exact marks_app (hQ ρ4 tmps4 w4 (M4 ++ M2) ((H1'.join H3).join H4) F4 (x2.trans' x4 hle h3.1) (K2'.join K4 (Nat.le_trans hsz1 H3.below.size) H4.books))

theorem comp_loop {c : Code} {m : MC} (h : comp P nt c = some (.loop m)) : ∃ a, c = .loop a ∧ comp P nt a = some m := by
  cases c <;> simp only [comp] at h <;> first
    | (cases h; done)
    | skip
  case loop a =>
    cases hx : comp P nt a with
    | none => rw [hx] at h; cases h
    | some x => rw [hx] at h; cases h; exact ⟨a, rfl, hx⟩
  all_goals
    repeat' (first | (cases h; done) | (simp only [Bool.cond_eq_ite, Option.map_eq_some_iff] at h; (first | (obtain ⟨_, _, e⟩ := h; cases e) | skip)) | split at h)
theorem comp_seq {c : Code} {m1 m2 : MC} (h : comp P nt c = some (.seq m1 m2)) : ∃ a b, c = .seq a b ∧ comp P nt a = some m1 ∧ comp P nt b = some m2 := by
  cases c <;> simp only [comp] at h <;> first
    | (cases h; done)
    | skip
  case seq a b =>
    split at h
    · rename_i x y hx hy
      cases h
      exact ⟨a, b, rfl, hx, hy⟩
    · cases h
  all_goals
    repeat' (first | (cases h; done) | (simp only [Bool.cond_eq_ite, Option.map_eq_some_iff] at h; (first | (obtain ⟨_, _, e⟩ := h; cases e) | skip)) | split at h)
theorem comp_reg {c : Code} {ms : List MOper} (h : comp P nt c = some (.reg ms)) : ∃ id ops, c = .region id ops false ∧ cSeq P nt ops ops.toList = some ms := by
  cases c <;> simp only [comp] at h <;> first
    | (cases h; done)
    | skip
  case region id ops draw =>
    cases draw with
    | false =>
      simp only at h
      cases hx : cSeq P nt ops ops.toList with
      | none => rw [hx] at h; cases h
      | some x => rw [hx] at h; cases h; exact ⟨id, ops, rfl, hx⟩
    | true =>
      simp only at h
      repeat' (first | (cases h; done) | (simp only [Bool.cond_eq_ite, Option.map_eq_some_iff] at h; (first | (obtain ⟨_, _, e⟩ := h; cases e) | skip)) | split at h)
  all_goals
    repeat' (first | (cases h; done) | (simp only [Bool.cond_eq_ite, Option.map_eq_some_iff] at h; (first | (obtain ⟨_, _, e⟩ := h; cases e) | skip)) | split at h)

/-- A loop through a map: each entry's round by itself, from whatever number and behind whatever rounds. -/
theorem MW.maps (G : Good P) {g : MapL} {T : TL} {s : SS} {Q : AExit → TL → SS → Prop} {id0 d : Nat} {x : Operand} {ml : List MOper} {mb : MC} (hc : okC x = true) (hw0 : Wk P nt k T s g.TH (g.at s.next [])) (hx : opd g.TH g.sb.gl x = some (.pointer (some ⟨g.it, 0, none⟩)))
    (hm : lookH g.sb.heap g.m = some (.map g.es g.since)) (hne : g.it ≠ g.m) (hold : ∀ e ∈ g.es, e.born < g.since)
    (body : ∀ n seen, s.next ≤ n → ∀ e ∈ g.es, e.born ∉ seen → Box (wp P nt k (.seq (.reg ml) mb) (putL g.TH (some d) (.tuple ⟨[.bool true, e.key, e.val]⟩)) (g.at n (seen ++ [e.born])) fun ex T3 s3 => ex = .normal ∧ Wk P nt k T3 s3 g.TH (g.at s3.next (seen ++ [e.born]))))
    (last : ∀ n seen, s.next ≤ n → Box (wp P nt k (.seq (.reg ml) mb) (putL g.TH (some d) (.tuple ⟨[.bool false]⟩)) (g.at n seen) fun ex T3 s3 => ex = .exit id0 ∧ Wk P nt k T3 s3 g.TH (g.fin s3.next)))
    (hQ : ∀ N, s.next ≤ N → Q (.exit id0) g.TH (g.fin N)) : MW P nt k (.loop (.seq (.reg (⟨some d, none, .raw (.next x false)⟩ :: ml)) mb)) T s Q := by
  intro c hcm
  obtain ⟨c1, rfl, hc1⟩ := comp_loop hcm
  obtain ⟨ca, cb, rfl, hca, hcb⟩ := comp_seq hc1
  obtain ⟨rid, ops, rfl, hops⟩ := comp_reg hca
  cases hol : ops.toList with
  | nil => rw [hol] at hops; cases hops
  | cons o l =>
  rw [hol] at hops
  simp only [cSeq] at hops
  split at hops
  · rename_i mo ml' h1 h2
    cases hops
    obtain ⟨e1, e2, e3, q⟩ := wG_ok (run := True) (skip := False) (T := g.TH) h1 trivial
    have hw := (q.resolve_right fun z => z.2).1
    have ho : o.op = .next x false := by
      rcases cOp_cases e3 with e4 | ⟨e4, e5⟩
      · injection e4 with e4; exact e4.symm
      · cases e5
    have rest : ∀ {v : Value} {s1 : SS} {Q1 : AExit → TL → SS → Prop}, Box (wp P nt k (.seq (.reg ml) mb) (putL g.TH (some d) v) s1 Q1) → ∃ ex T3 s3, Q1 ex T3 s3 ∧ Rest P nt ops l cb (putL g.TH (some d) v) s1 ex T3 s3 := fun {v s1 Q1} h => by
      have hs : wSeq P ml (putL g.TH (some d) v) s1 fun T s => Box (wp P nt k mb T s Q1) := h.out
      obtain ⟨T2, s2, hb, hx2⟩ := wSeq_ok (k := k) G h2 hs
      obtain ⟨ex, T3, s3, q1, q2⟩ := comp_ok G hcb hb.out
      exact ⟨ex, T3, s3, q1, T2, s2, hx2, q2⟩
    obtain ⟨N, hN1, hN2⟩ := LX.all (k := k) (rid := rid) (id0 := id0) hol ho e1.symm (e1 ▸ e2) hw hc hx hm hne hold
      (n0 := s.next) (fun n seen hn e he hs => by
        obtain ⟨ex, T3, s3, ⟨rfl, q2⟩, r⟩ := rest (body n seen hn e he hs)
        exact ⟨T3, s3, r, q2⟩)
      (fun n seen hn => by
        obtain ⟨ex, T3, s3, ⟨rfl, q2⟩, r⟩ := rest (last n seen hn)
        exact ⟨T3, s3, r, q2⟩) _ s.next [] (Nat.le_refl _) rfl
    refine W.weak hw0 ⟨.exit id0, g.TH, g.fin N, hQ N hN1, hN1, rfl, fun B w0 ρ w tmps ds Q' rr H F hf hQ' => ?_⟩
    exact wpIn_loop_rounds (g.left [] + 1) (hN2 B w0 ρ w tmps ds Q' rr H F hf hQ' _ (Nat.lt_succ_self _))
  · cases hops

/-! ### For the user -/

theorem MapL.at_chg (g : MapL) {n : Nat} {seen : List Nat} (hf : Fine g.sb) (hit : g.it = g.sb.next) (hn : g.sb.next < n) : Chg g.sb (g.at n seen) [] :=
  ⟨rfl, Nat.le_of_lt hn, fun id b hid _ hb => lkT (show g.it ≠ id by omega) hb, fun h id hid => by
    have hid' : n ≤ id := hid
    exact lkN (show g.it ≠ id by omega) (hf id (by omega))⟩
theorem MapL.at_fine (g : MapL) {n : Nat} {seen : List Nat} (hf : Fine g.sb) (hit : g.it = g.sb.next) (hn : g.sb.next < n) : Fine (g.at n seen) := fun id hid => by
  have hid' : n ≤ id := hid
  exact lkN (show g.it ≠ id by omega) (hf id (by omega))

/-- Behind an entry's round that changed nothing. -/
theorem MapL.back {g : MapL} {n : Nat} {seen : List Nat} {T3 : TL} {s3 : SS} (hT : Sub T3 g.TH) (hf : Fine g.sb) (hit : g.it = g.sb.next) (hn : g.sb.next < n) (c : Chg (g.at n seen) s3 []) : Wk P nt k T3 s3 g.TH (g.at s3.next seen) :=
  Wk.less hT (fun id b hb => by
    have hlt : id < n := by
      rcases Nat.lt_or_ge id n with q | q
      · exact q
      · have := g.at_fine (seen := seen) hf hit hn id q
        rw [show lookH (g.at n seen).heap id = some b from hb] at this
        cases this
    exact c.blk id b hlt (by simp) hb) (Nat.le_refl _) c.gl.symm
/-- At the end. -/
theorem MapL.over {g : MapL} {n : Nat} {seen : List Nat} {T3 : TL} (hT : Sub T3 g.TH) (hf : Fine g.sb) (hit : g.it = g.sb.next) : Wk P nt k T3 (g.at n seen) g.TH (g.fin n) :=
  Wk.less hT (fun id b hb => by
    have hne : g.it ≠ id := fun e => by
      have := hf id (by omega)
      rw [show lookH g.sb.heap id = some b from hb] at this
      cases this
    exact lkT hne hb) (Nat.le_refl _) rfl

def keyOf : Value → List UInt8
  | .string b => b.data.toList
  | _ => []
def isStr : Value → Bool
  | .string _ => true
  | _ => false
end
end Go.Vf
end
