import Derived.Test.YtioildcpkcijkaaDoorLgO
import Derived.Test.YtioildcpkcijkaaDoorEngBg
/- Rows of calls, from a row's arguments to a state. -/
namespace Go.Vf.S
open Go Go.Vf Go.RowKit Go.ChangeShapes Go.Proofs Go.Proofs.YtioildcpkcijkaaDoor
set_option linter.unusedVariables false
set_option linter.unusedSimpArgs false
set_option maxRecDepth 10000

theorem i64_wf {z : Int} (h : (Lit.int .i64 z).wf = true) : -9223372036854775808 ≤ z ∧ z ≤ 9223372036854775807 := by
  simpa [Lit.wf, IntKind.min, IntKind.max, IntKind.signed, IntKind.bits] using h

theorem inB_none (s : SS) : InB s none [] := ⟨⟨⟨rfl, rfl⟩, trivial⟩, fun id q => by simp [blkOf] at q⟩
theorem inI_none (s : SS) : InI s none [] := ⟨⟨rfl, rfl⟩, fun id q => by simp [blkOf] at q⟩
theorem inB_some {s : SS} {id : Nat} {zs : List Int} (h : lookH s.heap id = some (.cells (zs.map fun z => .int .u8 z) tB true true)) (hlt : id < s.next) (hw : ∀ z ∈ zs, (Lit.int .u8 z).wf = true) : InB s (some ⟨id, 0, none⟩) (zs.map fun z => UInt8.ofNat z.toNat) := by
  rw [ints_bytes hw] at h
  refine ⟨⟨⟨rfl, rfl, hlt, _, _, _, _, h, ?_, bytesV_plain _⟩, _, _, _, h, sz_B⟩, fun j q => ?_⟩
  · rw [takeN_bytes (by omega), List.drop_zero, List.take_of_length_le (Nat.le_refl _)]
  · simp only [blkOf, List.mem_singleton] at q
    subst q
    exact ⟨_, _, _, h⟩
theorem inI_some {s : SS} {id : Nat} {zs : List Int} (h : lookH s.heap id = some (.cells (zs.map fun z => .int .i64 z) tI true true)) (hlt : id < s.next) : InI s (some ⟨id, 0, none⟩) zs := by
  refine ⟨⟨rfl, rfl, hlt, _, _, _, h, fun i hi => ?_⟩, fun j q => ?_⟩
  · rw [Nat.zero_add, List.getElem?_map, List.getElem?_eq_getElem hi, List.getD, List.getElem?_eq_getElem hi]
    rfl
  · simp only [blkOf, List.mem_singleton] at q
    subst q
    exact ⟨_, h⟩

section
variable {H : Type} {enc : TypeId × Value → H} {W : World}

/-- Bytes that are handed in. -/
theorem arg_inB {v : Value} {d : DataW H} {ps : List MemPlace} {base : Nat} (hok : Value.okWide pr W .any base 37 v) (h : DataW.Trod enc pr W 0 (fun _ => true) true 37 v d ps) (hnf : ∀ b off, MemPlace.cell b off ∈ ps → W.frozen? ⟨b, off, none⟩ = false) (id : Nat) :
    ∃ (ba : Option Addr) (l : List UInt8) (xs : List (RE × ABlk)), GoodL pr W xs id ∧ (∀ ρ : Ren, Laid xs id ρ → VRel ρ (.slice ba l.length 0) v) ∧ ∀ s : SS, LaidS xs id s → InB s ba l := by
  obtain ⟨ba, zs, xs, h1, h2, h3, h4, h5⟩ := arg_ints (k := .u8) Tryd.underlying37 Tryd.underlying5 (by kernel_rfl) hok h hnf id
  refine ⟨ba, zs.map fun z => UInt8.ofNat z.toNat, xs, h1, fun ρ hρ => by rw [List.length_map]; exact h2 ρ hρ, fun s hs => ?_⟩
  rcases h5 with ⟨rfl, rfl⟩ | ⟨rfl, e1, rfl⟩
  · exact inB_none s
  · exact inB_some (hs.1 0 _ rfl) (by have := hs.2; simp at this; omega) h3
/-- Numbers that are handed in. -/
theorem arg_inI {v : Value} {d : DataW H} {ps : List MemPlace} {base : Nat} (hok : Value.okWide pr W .any base 38 v) (h : DataW.Trod enc pr W 0 (fun _ => true) true 38 v d ps) (hnf : ∀ b off, MemPlace.cell b off ∈ ps → W.frozen? ⟨b, off, none⟩ = false) (id : Nat) :
    ∃ (ba : Option Addr) (l : List Int) (xs : List (RE × ABlk)), GoodL pr W xs id ∧ (∀ ρ : Ren, Laid xs id ρ → VRel ρ (.slice ba l.length 0) v) ∧ ∀ s : SS, LaidS xs id s → InI s ba l := by
  obtain ⟨ba, zs, xs, h1, h2, h3, h4, h5⟩ := arg_ints (k := .i64) Tryd.underlying38 Tryd.underlying3 (by kernel_rfl) hok h hnf id
  refine ⟨ba, zs, xs, h1, h2, fun s hs => ?_⟩
  rcases h5 with ⟨rfl, rfl⟩ | ⟨rfl, e1, rfl⟩
  · exact inI_none s
  · exact inI_some (hs.1 0 _ rfl) (by have := hs.2; simp at this; omega)

/-- A call that four cells read. -/
theorem act_cells {fuel : Nat} {cs : List Value} {x : DataW H × List MemPlace} (hl : cs.length = 4) (h : DataW.trod enc pr W 0 (fun _ => true) true fuel 40 cs = some x) (hnf : ∀ b off, MemPlace.cell b off ∈ x.2 → W.frozen? ⟨b, off, none⟩ = false)
    {e5 e3 : RE} (h5 : GoodB pr W e5 (.cells [] 5 true true)) (h3 : GoodB pr W e3 (.cells [] 3 true true)) (id : Nat) :
    ∃ (a : AV) (x1 x2 : RE × ABlk), GoodB pr W x1.1 x1.2 ∧ GoodB pr W x2.1 x2.2 ∧ (∀ ρ : Ren, ρ id = some x1.1 → ρ (id + 1) = some x2.1 → LRel ρ (aCell a) cs) ∧
      ∀ s : SS, lookH s.heap id = some x1.2 → lookH s.heap (id + 1) = some x2.2 → id + 1 < s.next → ActOk s a := by
  obtain ⟨xs, n, -, rfl, -, hlen, hf⟩ := DataW.trod_struct Tryd.underlying40 h
  match cs, hl with
  | [c0, c1, c2, c3], _ =>
  have k3 : pr.cellsOf 3 = 1 := by kernel_rfl
  have k31 : pr.cellsOf 37 = 1 := by kernel_rfl
  have k33 : pr.cellsOf 38 = 1 := by kernel_rfl
  match xs, hlen with
  | [y0, y1, y2, y3], _ =>
  have f0 := hf 0 _ rfl
  have f1 := hf 1 _ rfl
  have f2 := hf 2 _ rfl
  have f3 := hf 3 _ rfl
  simp only [k3, k31, k33, List.drop_zero, List.drop_succ_cons, List.take_succ_cons, List.take_zero, List.getElem?_cons_zero, List.getElem?_cons_succ] at f0 f1 f2 f3
  obtain ⟨z0, g0, -, w0⟩ := DataW.trod_int Tryd.underlying3 f0
  obtain ⟨z1, g1, -, w1⟩ := DataW.trod_int Tryd.underlying3 f1
  cases g0; cases g1
  obtain ⟨bb, zs, r1, p1, p2, p3, p4⟩ := inner_ints Tryd.underlying37 Tryd.underlying5 (by kernel_rfl) f2 (fun b off q => hnf b off (by simp [q])) h5 id
  obtain ⟨kb, ks, r2, q1, q2, q3, q4⟩ := inner_ints Tryd.underlying38 Tryd.underlying3 (by kernel_rfl) f3 (fun b off q => hnf b off (by simp [q])) h3 (id + 1)
  refine ⟨⟨z0, z1, bb, zs.map fun z => UInt8.ofNat z.toNat, kb, ks⟩, (r1, _), (r2, _), p1, q1, fun ρ hρ1 hρ2 => ?_, fun s hs1 hs2 hn => ⟨?_, ?_, i64_wf w1⟩⟩
  · refine .cons (.int _ _) (.cons (.int _ _) (.cons ?_ (.cons (q2 ρ hρ2) (.nil _))))
    rw [List.length_map]
    exact p2 ρ hρ1
  · rcases p4 with ⟨rfl, rfl⟩ | rfl
    · exact inB_none s
    · exact inB_some hs1 (by omega) p3
  · rcases q4 with ⟨rfl, rfl⟩ | rfl
    · exact inI_none s
    · exact inI_some hs2 hn

def inner (F : Nat → AV × (RE × ABlk) × (RE × ABlk)) (n : Nat) : List (RE × ABlk) := (List.range n).flatMap fun i => [(F i).2.1, (F i).2.2]
theorem inner_len (F : Nat → AV × (RE × ABlk) × (RE × ABlk)) (n : Nat) : (inner F n).length = 2 * n := by
  unfold inner
  induction n with
  | zero => rfl
  | succ n ih => rw [List.range_succ, List.flatMap_append, List.length_append, ih]; simp; omega
theorem inner_get (F : Nat → AV × (RE × ABlk) × (RE × ABlk)) : ∀ (n i : Nat), i < n → (inner F n)[2 * i]? = some (F i).2.1 ∧ (inner F n)[2 * i + 1]? = some (F i).2.2
  | 0, i, h => by omega
  | n + 1, i, h => by
    have len : (inner F n).length = 2 * n := inner_len F n
    have e : inner F (n + 1) = inner F n ++ [(F n).2.1, (F n).2.2] := by
      unfold inner
      rw [List.range_succ, List.flatMap_append]
      simp
    rw [e]
    by_cases q : i = n
    · subst q
      rw [List.getElem?_append_right (by omega), List.getElem?_append_right (by omega), len, Nat.sub_self, show 2 * i + 1 - 2 * i = 1 from by omega]
      exact ⟨rfl, rfl⟩
    · rw [List.getElem?_append_left (by omega), List.getElem?_append_left (by omega)]
      exact inner_get F n i (by omega)
theorem inner_mem (F : Nat → AV × (RE × ABlk) × (RE × ABlk)) {n i : Nat} {x : RE × ABlk} (h : (inner F n)[i]? = some x) : ∃ j, j < n ∧ (i = 2 * j ∧ x = (F j).2.1 ∨ i = 2 * j + 1 ∧ x = (F j).2.2) := by
  have hi := (List.getElem?_eq_some_iff.1 h).1
  rw [inner_len] at hi
  obtain ⟨g1, g2⟩ := inner_get F n (i / 2) (by omega)
  rcases Nat.mod_two_eq_zero_or_one i with q | q
  · rw [show 2 * (i / 2) = i from by omega, h] at g1
    exact ⟨i / 2, by omega, .inl ⟨by omega, Option.some.inj g1⟩⟩
  · rw [show 2 * (i / 2) + 1 = i from by omega, h] at g2
    exact ⟨i / 2, by omega, .inr ⟨by omega, Option.some.inj g2⟩⟩

theorem aCells_get (l : List AV) {i : Nat} (h : i < l.length) {j : Nat} (hj : j < 4) : (aCells l)[i * 4 + j]? = (aCell l[i])[j]? := by
  have e := aCells_drop l i
  rw [List.drop_eq_getElem_cons h] at e
  have : ((aCells l).drop (i * 4))[j]? = (aCell l[i])[j]? := by
    rw [e]
    show (aCell l[i] ++ aCells (l.drop (i + 1)))[j]? = _
    rw [List.getElem?_append_left (by show j < 4; exact hj)]
  rw [List.getElem?_drop] at this
  exact this

/-- A row of calls that is handed in. -/
theorem arg_acts {v : Value} {d : DataW H} {ps : List MemPlace} {base : Nat} (hok : Value.okWide pr W .any base 22 v) (h : DataW.Trod enc pr W 0 (fun _ => true) true 22 v d ps) (hnf : ∀ b off, MemPlace.cell b off ∈ ps → W.frozen? ⟨b, off, none⟩ = false) (id : Nat) :
    ∃ (lb : Option Addr) (l : List AV) (xs : List (RE × ABlk)), GoodL pr W xs id ∧ (∀ ρ : Ren, Laid xs id ρ → VRel ρ (.slice lb l.length 0) v) ∧ ∀ s : SS, LaidS xs id s → InA s lb l := by
  obtain ⟨fuel, h⟩ := h
  have ht := Tryd.underlying22
  have hcell : Cell.ok pr W .any base 22 v := by
    unfold Value.okWide at hok
    rw [ht] at hok
    simp only [Cell.okWide, ht] at hok
    exact hok
  unfold Cell.ok at hcell
  rw [ht] at hcell
  split at hcell <;> first
    | (rename_i q; simp at q; done)
    | exact hcell.elim
    | skip
  · exact ⟨none, [], [], .nil _, fun ρ _ => .nilSlice 0 0, fun s _ => ⟨rfl, by simp, Nat.zero_le _⟩⟩
  rename_i e' a len cap q
  cases q
  obtain ⟨h1, h2, h3, h4, row, cells, h5, h6⟩ := hcell
  rcases DataW.trod_slice ht h with ⟨e1, -⟩ | ⟨a', len', cap', elems, rest, m, rfl, e1, e2, e3, e4, e5, e6, e7, e8, -⟩
  · simp [Value.cells] at e1
  simp [Value.cells] at e1
  obtain ⟨rfl, rfl, rfl⟩ := e1
  obtain ⟨b, off, sp⟩ := a
  simp only at h4
  subst h4
  have c5 : pr.cellsOf 40 = 4 := by kernel_rfl
  cases hb : W.heap[b]? with
  | none => simp [World.shape?, hb] at h5
  | some o =>
    cases o with
    | cells rc T0 fr =>
      obtain ⟨rc⟩ := rc
      obtain ⟨lo, hi⟩ := fr
      have hbs : b < W.heap.size := (Array.getElem?_eq_some_iff.1 hb).1
      have hcells : rc.length = cells ∧ T0 = row := by
        simp only [World.shape?, hb, Option.some.injEq, Prod.mk.injEq] at h5
        exact ⟨by have := h5.2; simpa using this, h5.1⟩
      have hoff : off ≤ rc.length := by
        have h6' : off ≤ cells / pr.cellsOf row * pr.cellsOf row := liesAt_off h6
        have hle := Nat.div_mul_le_self cells (pr.cellsOf row)
        omega
      have hrest := e8 rfl
      have cell : ∀ i, i < cap → ∃ cs y, cs.length = 4 ∧ (∀ j, j < 4 → rc[off + i * 4 + j]? = cs[j]?) ∧ DataW.trod enc pr W 0 (fun _ => true) true m 40 cs = some y ∧ ∀ z ∈ y.2, z ∈ ps := by
        intro i hi
        have hx : ∃ y, (W.cells? 0 ((⟨b, off, none⟩ : Addr).add (i * pr.cellsOf 40)) (pr.cellsOf 40)).bind (DataW.trod enc pr W 0 (fun _ => true) true m 40) = some y ∧ y ∈ elems ++ rest := by
          by_cases hl : i < len
          · have := e7 i hl
            rw [List.getElem?_eq_getElem (by omega)] at this
            exact ⟨_, this, List.mem_append_left _ (List.getElem_mem _)⟩
          · have := hrest.2 (i - len) (by omega)
            rw [show len + (i - len) = i from by omega, List.getElem?_eq_getElem (by rw [hrest.1]; omega)] at this
            exact ⟨_, this, List.mem_append_right _ (List.getElem_mem _)⟩
        obtain ⟨y, hy, hm⟩ := hx
        rw [c5, Option.bind_eq_some_iff] at hy
        obtain ⟨cs, hcs, hy⟩ := hy
        have hsz := (World.cells?_some hcs)
        refine ⟨cs, y, hsz.2.1, fun j hj => ?_, hy, fun z hz => ?_⟩
        · have := hsz.2.2 j hj
          rw [add_eq, add_eq] at this
          rw [← this]
          show rc[off + i * 4 + j]? = W.cell? ⟨b, off + i * 4 + j, none⟩
          rw [cell_at hb]
        · have := congrArg Prod.snd e2
          simp only at this
          rw [this]
          exact List.mem_append_right _ (List.mem_flatMap.2 ⟨y, hm, hz⟩)
      have hroom : off + cap * 4 ≤ rc.length := by
        rcases Nat.eq_zero_or_pos cap with q | q
        · omega
        · obtain ⟨cs, y, hl, hv', -⟩ := cell (cap - 1) (by omega)
          have h4 := hv' 3 (by omega)
          rw [List.getElem?_eq_getElem (by omega : 3 < cs.length)] at h4
          have := (List.getElem?_eq_some_iff.1 h4).1
          omega
      have hd : ∀ u, (pr.info? u).map (·.size) = some 1 → GoodB pr W ⟨b, off, 0, 1, true⟩ (.cells [] u true true) := fun u hcu =>
        ⟨fun ρ => ⟨rfl, rc, lo, hi, T0, hb, (fun z => by cases z), (fun i hi' => absurd hi' (Nat.not_lt_zero i)), by show off + 0 ≤ rc.length; omega, Nat.le_refl _, hcu, fun i v hv => by simp at hv⟩, rfl, hbs⟩
      have key : ∀ i : Nat, ∃ q : AV × (RE × ABlk) × (RE × ABlk), i < cap → GoodB pr W q.2.1.1 q.2.1.2 ∧ GoodB pr W q.2.2.1 q.2.2.2 ∧
          (∃ cs : List Value, cs.length = 4 ∧ (∀ j, j < 4 → rc[off + i * 4 + j]? = cs[j]?) ∧ ∀ ρ : Ren, ρ (id + 1 + 2 * i) = some q.2.1.1 → ρ (id + 1 + 2 * i + 1) = some q.2.2.1 → LRel ρ (aCell q.1) cs) ∧
          ∀ s : SS, lookH s.heap (id + 1 + 2 * i) = some q.2.1.2 → lookH s.heap (id + 1 + 2 * i + 1) = some q.2.2.2 → id + 1 + 2 * i + 1 < s.next → ActOk s q.1 := by
        intro i
        by_cases hi : i < cap
        · obtain ⟨cs, y, g1, g2, g3, g4⟩ := cell i hi
          obtain ⟨a, x1, x2, k1, k2, k3, k4⟩ := act_cells g1 g3 (fun b off hbo => hnf b off (g4 _ hbo)) (hd 5 (by kernel_rfl)) (hd 3 (by kernel_rfl)) (id + 1 + 2 * i)
          exact ⟨(a, x1, x2), fun _ => ⟨k1, k2, ⟨cs, g1, g2, k3⟩, k4⟩⟩
        · exact ⟨(⟨0, 0, none, [], none, []⟩, (⟨b, off, 0, 1, true⟩, .cells [] 5 true true), (⟨b, off, 0, 1, true⟩, .cells [] 5 true true)), fun q => absurd q hi⟩
      obtain ⟨F, hF⟩ := Classical.axiomOfChoice key
      obtain ⟨l, hl⟩ : ∃ l, l = (List.range len).map fun i => (F i).1 := ⟨_, rfl⟩
      have ll : l.length = len := by rw [hl]; simp
      have lg : ∀ i (h : i < l.length), l[i] = (F i).1 := by
        intro i h
        simp only [hl, List.getElem_map, List.getElem_range]
      refine ⟨some ⟨id, 0, none⟩, l, (⟨b, off, cap * 4, 4, true⟩, .cells (aCells l) tA true true) :: inner F len, fun ρ hρ i x hx => ?_, fun ρ hρ => ?_, fun s hs => ⟨⟨rfl, rfl, ?_, ?_⟩, fun a ha => ?_, ?_⟩⟩
      · have get : ∀ j, j < len → ρ (id + 1 + 2 * j) = some (F j).2.1.1 ∧ ρ (id + 1 + 2 * j + 1) = some (F j).2.2.1 := by
          intro j hj
          obtain ⟨g1, g2⟩ := inner_get F len j hj
          have a1 := hρ (2 * j + 1) _ (by rw [List.getElem?_cons_succ]; exact g1)
          have a2 := hρ (2 * j + 1 + 1) _ (by rw [List.getElem?_cons_succ]; exact g2)
          rw [show id + 1 + 2 * j = id + (2 * j + 1) from by omega, show id + (2 * j + 1) + 1 = id + (2 * j + 1 + 1) from by omega]
          exact ⟨a1, a2⟩
        match i, hx with
        | 0, hx =>
          cases hx
          refine ⟨⟨rfl, rc, lo, hi, T0, hb, (fun z => by cases z), fun i hi' hc2 => ?_, hroom, by rw [aCells_len, ll]; exact Nat.mul_le_mul_right 4 h1, (by kernel_rfl), fun i v hv => ?_⟩, rfl, hbs⟩
          · have hi2 : i < cap * 4 := hi'
            have hc3 : lo ≤ off + i ∧ off + i < hi := hc2
            have hin : MemPlace.cell b (off + i) ∈ ps := by
              have := congrArg Prod.snd e2
              simp only at this
              rw [this]
              refine List.mem_append_left _ (List.mem_map.2 ⟨i, List.mem_range.2 ?_, rfl⟩)
              rw [c5, e6, hrest.1]
              have : len + (cap - len) = cap := by omega
              rw [this]
              exact hi2
            have := hnf b (off + i) hin
            simp only [World.frozen?, hb] at this
            simp at this
            omega
          · have hil := (List.getElem?_eq_some_iff.1 hv).1
            rw [aCells_len, ll] at hil
            have hq : i / 4 < len := by omega
            have ei : i = i / 4 * 4 + i % 4 := by omega
            have hm5 : i % 4 < 4 := Nat.mod_lt _ (by decide)
            rw [ei, aCells_get l (by omega) hm5, lg] at hv
            obtain ⟨-, -, ⟨cs, g1, g2, g3⟩, -⟩ := hF (i / 4) (by omega)
            obtain ⟨r1, r2⟩ := get (i / 4) hq
            have hrel := g3 ρ r1 r2
            have hlt : i % 4 < cs.length := by omega
            refine ⟨cs[i % 4], ?_, hrel.2 (i % 4) v _ hv (List.getElem?_eq_getElem hlt)⟩
            have := g2 (i % 4) hm5
            rw [List.getElem?_eq_getElem hlt] at this
            show rc[off + i]? = _
            rw [← this]
            congr 1
            omega
        | i + 1, hx =>
          rw [List.getElem?_cons_succ] at hx
          obtain ⟨j, hj, ⟨_, rfl⟩ | ⟨_, rfl⟩⟩ := inner_mem F hx
          · have := (hF j (by omega)).1
            exact ⟨this.1 ρ, this.2⟩
          · have := (hF j (by omega)).2.1
            exact ⟨this.1 ρ, this.2⟩
      · have := hρ 0 _ rfl
        rw [ll]
        exact .slice (.inl ⟨rfl, rfl, _, this, rfl, .inr ⟨rfl, h1, Nat.le_refl _, Nat.le_refl _, .inr rfl⟩⟩)
      · have := hs.2
        simp at this
        omega
      · exact hs.1 0 _ rfl
      · rw [hl] at ha
        obtain ⟨j, hj, rfl⟩ := List.mem_map.1 ha
        have hj := List.mem_range.1 hj
        obtain ⟨g1, g2⟩ := inner_get F len j hj
        have a1 := hs.1 (2 * j + 1) _ (by rw [List.getElem?_cons_succ]; exact g1)
        have a2 := hs.1 (2 * j + 1 + 1) _ (by rw [List.getElem?_cons_succ]; exact g2)
        have a3 := hs.2
        rw [List.length_cons, inner_len] at a3
        refine (hF j (by omega)).2.2.2 s ?_ ?_ (by omega)
        · rw [show id + 1 + 2 * j = id + (2 * j + 1) from by omega]; exact a1
        · rw [show id + 1 + 2 * j + 1 = id + (2 * j + 1 + 1) from by omega]; exact a2
      · rw [ll]
        have : cap ≤ maxLen := e5
        have e : maxLen = 9223372036854775807 := by decide
        omega
    | _ => simp [World.shape?, hb] at h5

/-- A start that knows the table of the check, and what is handed in behind it. -/
theorem start1 {xs : List (RE × ABlk)} (g0 : GoodB pr W ⟨0, 0, 16, 1, false⟩ gB) (h : GoodL pr W xs 1) : HRel pr W.heap.size W (renOf ((⟨0, 0, 16, 1, false⟩, gB) :: xs)) (startS ((⟨0, 0, 16, 1, false⟩, gB) :: xs) 1).st W ∧ FreeFrom (renOf ((⟨0, 0, 16, 1, false⟩, gB) :: xs)) (startS ((⟨0, 0, 16, 1, false⟩, gB) :: xs) 1).next ∧ Laid xs 1 (renOf ((⟨0, 0, 16, 1, false⟩, gB) :: xs)) ∧ LaidS xs 1 (startS ((⟨0, 0, 16, 1, false⟩, gB) :: xs) 1) ∧ Fine (startS ((⟨0, 0, 16, 1, false⟩, gB) :: xs) 1) := by
  have hl : Laid xs 1 (renOf ((⟨0, 0, 16, 1, false⟩, gB) :: xs)) := fun i x hi => by
    simp only [renOf]
    rw [Nat.add_comm, List.getElem?_cons_succ, hi]
    rfl
  obtain ⟨h1, h2⟩ := startS_rel (P := pr) (W := W) (bs := (⟨0, 0, 16, 1, false⟩, gB) :: xs) (gl := 1) (fun i e b hi => by
    match i, hi with
    | 0, hi => cases hi; exact ⟨g0.1 _, g0.2.1, g0.2.2⟩
    | i + 1, hi =>
      rw [List.getElem?_cons_succ] at hi
      exact h _ hl i (e, b) hi) (fun g hg => by
    obtain rfl : g = 0 := by omega
    exact ⟨_, _, rfl, rfl, rfl⟩)
  refine ⟨h1, h2, hl, ⟨fun i x hi => ?_, by show 1 + xs.length ≤ xs.length + 1; omega⟩, fun id hid => ?_⟩
  · simp only [startS, heapOf_look, Nat.zero_le, if_true, Nat.sub_zero]
    rw [Nat.add_comm, List.getElem?_cons_succ, hi]
    rfl
  · have hid' : xs.length + 1 ≤ id := hid
    simp only [startS, heapOf_look, Nat.zero_le, if_true, Nat.sub_zero]
    rw [List.getElem?_eq_none (by simpa using hid')]
    rfl
end
end Go.Vf.S
