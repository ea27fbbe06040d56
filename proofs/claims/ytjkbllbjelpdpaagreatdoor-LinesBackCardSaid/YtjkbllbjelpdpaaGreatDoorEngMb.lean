import Derived.Test.YtjkbllbjelpdpaaGreatDoorEngBd
import Derived.MapKept
/- Maps: a key that is told, and asked. -/
namespace Go.Vf
open Go.RowKit Go.MapKept
set_option linter.unusedVariables false
set_option linter.unusedSimpArgs false
section
variable {P : Program} {T : TL} {s : SS} {K : Value → SS → Prop}

theorem mkey_plain {d : TypeDesc} {v : Value} (h : IsKey d v) : plain1 v = true := by
  cases d <;> cases v <;> first | rfl | exact h.elim

theorem mmap_inv {ρ : Ren} {id : Nat} {v' : Value} (h : VRel ρ (.map (some id)) v') : ∃ e, ρ id = some e ∧ v' = .map (some e.blk) := by
  cases h with
  | map h1 h2 => subst h2; exact ⟨_, h1, rfl⟩

theorem MRel.mem1 {ρ : Ren} {es es' : List MapEntry} (h : MRel ρ es es') {x : MapEntry} (hx : x ∈ es') : ∃ y ∈ es, VRel ρ y.key x.key ∧ VRel ρ y.val x.val ∧ y.born = x.born := by
  obtain ⟨i, hi⟩ := List.getElem?_of_mem hx
  have hlt := (List.getElem?_eq_some_iff.1 hi).1
  have hlt' : i < es.length := by rw [h.1]; exact hlt
  exact ⟨es[i], List.getElem_mem hlt', h.2 i _ _ (List.getElem?_eq_getElem hlt') hi⟩
theorem MRel.mem2 {ρ : Ren} {es es' : List MapEntry} (h : MRel ρ es es') {y : MapEntry} (hy : y ∈ es) : ∃ x ∈ es', VRel ρ y.key x.key ∧ VRel ρ y.val x.val ∧ y.born = x.born := by
  obtain ⟨i, hi⟩ := List.getElem?_of_mem hy
  have hlt := (List.getElem?_eq_some_iff.1 hi).1
  have hlt' : i < es'.length := by rw [← h.1]; exact hlt
  exact ⟨es'[i], List.getElem_mem hlt', h.2 i _ _ hi (List.getElem?_eq_getElem hlt')⟩

/-- A new key. -/
theorem update_new {t kt et : TypeId} {d : TypeDesc} {m key val : Operand} {id clock : Nat} {es : List MapEntry} {kv v : Value} (hc : (okC m && okC key && okC val) = true) (hm : P.underlying t = some (.map kt et)) (hd : P.underlying kt = some d)
    (hx : opd T s.gl m = some (.map (some id))) (hy : opd T s.gl key = some kv) (hz : opd T s.gl val = some v) (hk : IsKey d kv) (hb : lookH s.heap id = some (.map es clock)) (hks : ∀ x ∈ es, IsKey d x.key) (hnew : ∀ x ∈ es, x.key ≠ kv)
    (h : K (.tuple #[]) { s with heap := (id, some (.map (es ++ [⟨kv, v, clock⟩]) (clock + 1))) :: s.heap }) : OpW P (.mapUpdate t m key val) T s K := by
  refine ⟨_, _, h, Nat.le_refl _, rfl, fun o ho nt B w0 ρ w tmps ds H F hf => ?_⟩
  simp only [Bool.and_eq_true] at hc
  have r1 := F.ev H ds _ _ (opd_ok hc.1.1 hx)
  have r2 := F.ev H ds _ _ (opd_ok hc.1.2 hy)
  have r3 := F.ev H ds _ _ (opd_ok hc.2 hz)
  obtain ⟨e, he, e1⟩ := mmap_inv r1
  have e2 := plain1_inv (mkey_plain hk) r2
  have hb' : s.st.heap.get id = some (.map es clock) := by rw [SS.get]; exact hb
  obtain ⟨o0, es', hw, hrel⟩ := H.blk _ _ _ hb' he
  have same : ∀ x ∈ es', IsKey d x.key ∧ x.key ≠ kv := by
    intro x hx
    obtain ⟨y, hy, q1, -, -⟩ := hrel.mem1 hx
    rw [plain1_inv (mkey_plain (hks y hy)) q1]
    exact ⟨hks y hy, hnew y hy⟩
  have hfind : Instr.findNow d kv es' 0 = some none := by
    rcases findNow_spec hk es' 0 (fun x hx => (same x hx).1) with ⟨h1, -⟩ | ⟨j, e0, -, h2, h3⟩
    · exact h1
    · exact absurd h3 (same e0 (List.mem_of_getElem? h2)).2
  have hck : (Instr.checkKey false 10000 kt kv).run P w = .ok () w := run_checkKey hd hk false 9999
  generalize hev : (⟨tmps, ds⟩ : Act).eval = ev at *
  refine ⟨.skip, undef, { w with heap := w.heap.setIfInBounds e.blk (.map (es'.toArray.push ⟨kv, ev val, clock⟩) (clock + 1)) }, ρ, ?_, .inr ⟨rfl, rfl⟩, undef_rel, ?_, .refl _ _ _⟩
  · simp [execOp, ho, Instr.mapUpdate, e1, e2, run_underlying hm, Go.MapKept.run_getObj_map (P := P) hw, hck, run_findKey hd hfind, run_setObj_map _ hw, Result.andThen]
  · refine H.turn (b' := .map (es ++ [⟨kv, v, clock⟩]) (clock + 1)) he hb' rfl rfl (fun i => ?_) rfl (by simp) (fun k hk => (heap_set hw).2 k hk) rfl rfl rfl ⟨o0, es' ++ [⟨kv, ev val, clock⟩], ?_, ?_⟩
    · simp only [SS.st, toH, Tr.get_put]
    · rw [(heap_set hw).1]; simp
    · refine ⟨by simp [hrel.1], fun i a b ha hb => ?_⟩
      rcases Nat.lt_or_ge i es.length with q | q
      · rw [List.getElem?_append_left q] at ha
        rw [List.getElem?_append_left (by rw [← hrel.1]; exact q)] at hb
        exact hrel.2 i a b ha hb
      · rw [List.getElem?_append_right q] at ha
        rw [List.getElem?_append_right (by rw [← hrel.1]; exact q)] at hb
        rw [← hrel.1] at hb
        cases hi : i - es.length with
        | zero =>
          rw [hi] at ha hb
          cases ha; cases hb
          refine ⟨?_, r3, rfl⟩
          rw [← e2] at r2 ⊢
          exact e2 ▸ r2
        | succ n => rw [hi] at ha; simp at ha

/-- A key that is there is asked. -/
theorem lookup_in {t kt et : TypeId} {d : TypeDesc} {m key : Operand} {id clock : Nat} {es : List MapEntry} {kv v : Value} (hc : (okC m && okC key) = true) (hm : P.underlying t = some (.map kt et)) (hd : P.underlying kt = some d)
    (hx : opd T s.gl m = some (.map (some id))) (hy : opd T s.gl key = some kv) (hk : IsKey d kv) (hpv : plain1 v = true) (hb : lookH s.heap id = some (.map es clock)) (hks : ∀ x ∈ es, IsKey d x.key) (hin : ∃ x ∈ es, x.key = kv) (hall : ∀ x ∈ es, x.key = kv → x.val = v)
    (h : K v s) : OpW P (.lookup t m key false) T s K := by
  refine ⟨_, _, h, Nat.le_refl _, rfl, fun o ho nt B w0 ρ w tmps ds H F hf => ?_⟩
  simp only [Bool.and_eq_true] at hc
  have r1 := F.ev H ds _ _ (opd_ok hc.1 hx)
  have r2 := F.ev H ds _ _ (opd_ok hc.2 hy)
  obtain ⟨e, he, e1⟩ := mmap_inv r1
  have e2 := plain1_inv (mkey_plain hk) r2
  have hb' : s.st.heap.get id = some (.map es clock) := by rw [SS.get]; exact hb
  obtain ⟨o0, es', hw, hrel⟩ := H.blk _ _ _ hb' he
  have same : ∀ x ∈ es', IsKey d x.key ∧ (x.key = kv → x.val = v) := by
    intro x hx
    obtain ⟨y, hy, q1, q2, -⟩ := hrel.mem1 hx
    have ek := plain1_inv (mkey_plain (hks y hy)) q1
    rw [ek]
    refine ⟨hks y hy, fun q => ?_⟩
    have ev := hall y hy q
    rw [ev] at q2
    exact plain1_inv hpv q2
  obtain ⟨y, hy', hykv⟩ := hin
  obtain ⟨x, hx', q1, -, -⟩ := hrel.mem2 hy'
  have hxkv : x.key = kv := by rw [plain1_inv (mkey_plain (hks y hy')) q1]; exact hykv
  have hck : ∀ b, (Instr.checkKey b 10000 kt kv).run P w = .ok () w := fun b => run_checkKey hd hk b 9999
  generalize hev : (⟨tmps, ds⟩ : Act).eval = ev at *
  rcases findNow_spec hk es' 0 (fun x hx => (same x hx).1) with ⟨-, h2⟩ | ⟨j, e0, h1, h2, h3⟩
  · exact absurd hxkv (h2 x hx')
  · have hv0 : e0.val = v := (same e0 (List.mem_of_getElem? h2)).2 h3
    rw [hv0] at h1
    refine ⟨.value v, v, w, ρ, ?_, .inl rfl, plain1_rel hpv, H, .refl _ _ _⟩
    simp [execOp, ho, Instr.lookup, e1, e2, run_underlying hm, Go.MapKept.run_getObj_map (P := P) hw, hck, run_findKey hd h1, Result.andThen]

/-- A key that is not there is asked: a number's zero. -/
theorem lookup_out {t kt et : TypeId} {d : TypeDesc} {m key : Operand} {id clock : Nat} {es : List MapEntry} {kv z : Value} (hc : (okC m && okC key) = true) (hm : P.underlying t = some (.map kt et)) (hd : P.underlying kt = some d)
    (hx : opd T s.gl m = some (.map (some id))) (hy : opd T s.gl key = some kv) (hk : IsKey d kv) (hpz : plain1 z = true) (hb : lookH s.heap id = some (.map es clock)) (hks : ∀ x ∈ es, IsKey d x.key) (hout : ∀ x ∈ es, x.key ≠ kv) (hzero : ∀ w : World, (zeroValue et).run P w = .ok z w)
    (h : K z s) : OpW P (.lookup t m key false) T s K := by
  refine ⟨_, _, h, Nat.le_refl _, rfl, fun o ho nt B w0 ρ w tmps ds H F hf => ?_⟩
  simp only [Bool.and_eq_true] at hc
  have r1 := F.ev H ds _ _ (opd_ok hc.1 hx)
  have r2 := F.ev H ds _ _ (opd_ok hc.2 hy)
  obtain ⟨e, he, e1⟩ := mmap_inv r1
  have e2 := plain1_inv (mkey_plain hk) r2
  have hb' : s.st.heap.get id = some (.map es clock) := by rw [SS.get]; exact hb
  obtain ⟨o0, es', hw, hrel⟩ := H.blk _ _ _ hb' he
  have same : ∀ x ∈ es', IsKey d x.key ∧ x.key ≠ kv := by
    intro x hx
    obtain ⟨y, hy, q1, -, -⟩ := hrel.mem1 hx
    rw [plain1_inv (mkey_plain (hks y hy)) q1]
    exact ⟨hks y hy, hout y hy⟩
  have hfind : Instr.findNow d kv es' 0 = some none := by
    rcases findNow_spec hk es' 0 (fun x hx => (same x hx).1) with ⟨h1, -⟩ | ⟨j, e0, -, h2, h3⟩
    · exact h1
    · exact absurd h3 (same e0 (List.mem_of_getElem? h2)).2
  have hck : ∀ b, (Instr.checkKey b 10000 kt kv).run P w = .ok () w := fun b => run_checkKey hd hk b 9999
  generalize hev : (⟨tmps, ds⟩ : Act).eval = ev at *
  refine ⟨.value z, z, w, ρ, ?_, .inl rfl, plain1_rel hpz, H, .refl _ _ _⟩
  simp [execOp, ho, Instr.lookup, e1, e2, run_underlying hm, Go.MapKept.run_getObj_map (P := P) hw, hck, run_findKey hd hfind, hzero w, Result.andThen]
end
end Go.Vf
