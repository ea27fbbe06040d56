import Derived.Test.YtfminjggoaegdaaGreatDoorMg5
section
namespace Go.Vf.S
open Go Go.Vf Go.Proofs Go.RowKit
attribute [local irreducible] wSeq wRow wp wG
set_option linter.unusedVariables false
set_option linter.unusedSimpArgs false
set_option maxRecDepth 10000
def AtTy (s : SS) (t : TypeId) (id : Nat) : Prop := ∃ cs g r, lookH s.heap id = some (.cells cs t g r)
def AtMp (s : SS) (id : Nat) : Prop := ∃ es c, lookH s.heap id = some (.map es c)
theorem ty_away {s : SS} {t t' : TypeId} {W : Option Addr} {cw n : Nat} {cs : List Value} (o : OwnR t s W cw n cs) (ht : t ≠ t') {id : Nat} (h : AtTy s t' id ∨ AtMp s id) : id ∉ blkOf W := by
 intro q
 cases W with
 | none => simp [blkOf] at q
 | some ad =>
  obtain ⟨b, off, sp⟩ := ad
  obtain ⟨_, _, _, g, h4, _⟩ := o
  simp [blkOf] at q
  subst q
  rcases h with ⟨cs', g', r', h⟩ | ⟨es, c, h⟩
  ·rw [h] at h4
   exact ht (ABlk.cells.inj (Option.some.inj h4)).2.1.symm
  ·rw [h] at h4
   cases h4
theorem own_ty {s : SS} {t : TypeId} {W : Option Addr} {cw n : Nat} {cs : List Value} (o : OwnR t s W cw n cs) : ∀ id ∈ blkOf W, AtTy s t id := by
 intro id q
 cases W with
 | none => simp [blkOf] at q
 | some ad =>
  obtain ⟨b, off, sp⟩ := ad
  obtain ⟨_, _, _, g, h4, _⟩ := o
  simp [blkOf] at q
  subst q
  exact ⟨_, _, _, h4⟩
theorem gen_kp {T : TL} {s : SS} {K : RR → Prop} {x a : Tmp} {ts : Array TypeId} {u w : Value} {fk : FuncId} {av : List Value} (hx : look T x = some u) (ha : look T a = some w) (h : callV pr u [w] = some (.enter fk av)) (hK : K (.call fk av)) : wN pr (.gen (.call ⟨.value (.tmp x), #[.tmp a], ts⟩)) T s K := by
 refine ⟨.call fk av, ?_, hK⟩
 simp only [aOp, operand, operands, toTr_get, hx, ha]
 exact h
structure R1Ix where
 i : Nat
 V : Option Addr
 s : SS
structure R2Ix where
 i : Nat
 m : Kv
 fl : List Flt
 V : Option Addr
 s : SS
structure R2I (sb sd : SS) (V0 : Option Addr) (W : Option Addr) (xs : List EnV) (keep : Kv → Ent → Kv × Nat) (inn : List UInt8) (J : Nat → Kv → SS → Prop) (m0 : Kv) (fl0 : List Flt) (x : R2Ix) : Prop where
 i : x.i ≤ xs.length
 own : FlO x.s x.V x.fl
 low : ∀ id ∈ blkOf x.V, sb.next ≤ id
 ents : EsO x.s W xs
 vals : ∀ y ∈ xs, TsO x.s y.W y.e.vs
 j : J x.i x.m x.s
 chg : ∃ Z, Chg sb x.s Z
 e0 : x.fl = [] → x.V = none
 go : kpF keep inn ((xs.drop x.i).map (·.e)) x.m x.fl = kpF keep inn (xs.map (·.e)) m0 fl0
set_option maxHeartbeats 4000000 in
theorem read_w {s : SS} {inn l : List UInt8} {vals : Bool} {keepV : Value} {fk : FuncId} {args : Value → List Value} {J : Nat → Kv → SS → Prop} {keep : Kv → Ent → Kv × Nat} {m : Kv} (f : Fine s) (hl : l.length ≤ 10000) (hJ0 : J 0 m s)
    (stab : ∀ i m s1 s2 A, J i m s1 → Chg s1 s2 A → (∀ id ∈ A, s.next ≤ id ∧ AtTy s1 tFl id) → J i m s2) (hcall : ∀ v, callV pr keepV [v] = some (.enter fk (args v)))
    (hk : ∀ i m s1 (x : EnV), i < 64 → Fine s1 → s.next ≤ s1.next → J i m s1 → TsR s1 x.W x.e.vs → x.e.vs.length ≤ 10000 → x.e.k.length ≤ 1000000 → (∀ w ∈ x.e.vs, w.length ≤ 1000000) → CallW pr fk (args (.agg ⟨enC x⟩)) s1 fun v s2 => v = .int .i64 ((keep m x.e).2 : Int) ∧ J (i + 1) (keep m x.e).1 s2 ∧ ∃ Z, Chg s1 s2 Z ∧ ∀ id ∈ Z, AtTy s1 tTg id ∨ AtMp s1 id)
    (h12 : (rdF keep inn l vals m).2.length ≤ 12) :
    CallW pr n_alias_read [str inn, str l, .bool vals, keepV] s fun v s' => ∃ V, v = .slice V (rdF keep inn l vals m).2.length 0 ∧ FlO s' V (rdF keep inn l vals m).2 ∧ (∃ n, n ≤ 64 ∧ J n (rdF keep inn l vals m).1 s') ∧ (∀ id ∈ blkOf V, s.next ≤ id) ∧ ((rdF keep inn l vals m).2 = [] → V = none) ∧ ∃ Z, Chg s s' Z := by
  refine CallW.run good ok_alias_read (by simp) rfl ?_
  (try refine pSeq ?_); (repeat refine sb ?_)
  refine (parse13_w f hl).mono fun v s1 q => ?_
  obtain ⟨W, Vf, cv, xs, fs, rfl, hT, hE, hF, hVf, c1⟩ := q
  have f1 := c1.fine f
  have J1 : J 0 m s1 := stab 0 m s s1 [] hJ0 c1 (by simp)
  have hsz : ∀ y ∈ xs, y.e.k.length ≤ 10001 ∧ y.e.vs.length ≤ 16 ∧ ∀ w ∈ y.e.vs, w.length ≤ 10001 := by
    intro y hy
    have h1 : y.e ∈ (tabF l vals).1 := by rw [← hT]; exact List.mem_map_of_mem hy
    obtain ⟨a, b, c⟩ := tab_sz _ h1
    exact ⟨by omega, b, fun w hw => by have := c w hw; omega⟩
  have hxl : xs.length ≤ 64 := by
    have := tab_few l vals
    rw [← hT, List.length_map] at this
    exact this
  have hrd : rdF keep inn l vals m = ((kpF keep inn (xs.map (·.e)) m (fs.map fun f => ⟨inn, f.1, f.2⟩)).1, srtF (kpF keep inn (xs.map (·.e)) m (fs.map fun f => ⟨inn, f.1, f.2⟩)).2) := by
    unfold rdF
    rw [← hT]
  rw [hrd] at h12 ⊢
  rw [(srtF_perm _).length_eq] at h12
  have hfs : fs.length ≤ 12 := by
    have := kp_more keep inn (xs.map (·.e)) m (fs.map fun f => ⟨inn, f.1, f.2⟩)
    rw [List.length_map] at this
    omega
  (repeat refine sb ?_)
  refine pLoop (MW.head good (fun x : R1Ix => fs.length - x.i) (fun x => x.i ≤ fs.length ∧ FlO x.s x.V ((fs.take x.i).map fun f => ⟨inn, f.1, f.2⟩) ∧ (∀ id ∈ blkOf x.V, s1.next ≤ id) ∧ Chg s1 x.s [] ∧ (x.i = 0 → x.V = none))
    (fun x => [(0, str inn), (3, keepV), (8, .slice x.V x.i 0), (9, .slice W xs.length 0), (22, .slice Vf fs.length cv), (23, .int .i64 (fs.length : Int)), (24, .int .i64 (x.i : Int))]) (fun x => x.s) ⟨0, none, s1⟩ ⟨Nat.zero_le _, ⟨rfl, rfl, rfl⟩, by simp [blkOf], .refl _ _, fun _ => rfl⟩ (Wk.same ⟨rfl, rfl, rfl, rfl, rfl, rfl, rfl, trivial⟩) ?_)
  rintro ⟨i, V, s2⟩ ⟨hi, oV, hV, c2, hV0⟩
  dsimp only at hi oV hV c2 hV0 ⊢
  have htl : ((fs.take i).map fun f : Nat × Nat => (⟨inn, f.1, f.2⟩ : Flt)).length = i := by rw [List.length_map, List.length_take]; omega
  (repeat refine sb ?_)
  intro q hq
  by_cases hlt : i < fs.length
  · obtain rfl : q = true := by rw [hq]; simp; omega
    obtain ⟨x, hx⟩ : ∃ x, fs[i]? = some x := ⟨_, List.getElem?_eq_getElem hlt⟩
    rcases hF.chg c2 (fun _ _ q => by cases q) with h0 | ⟨bf, tf, gf, rf, hVe, lf, kf⟩
    · rw [h0] at hlt; simp at hlt
    subst hVe
    (repeat refine sb ?_)
    refine ⟨by omega, ?_⟩
    intro m1 hm o ho
    obtain rfl : m1 = i := by omega
    (repeat refine sb ?_)
    refine ldN_is rfl kf (by rw [ho, Nat.zero_add]; exact fl_take (f := flC) (fun _ => rfl) hx) ?_
    (repeat refine sb ?_)
    refine st_abs (cs' := flC x) rfl rfl lkH (Nat.lt_succ_self _) rfl (by rfl) fun s3 k3 c3 n3 => ?_
    have n3 : s3.next = s2.next + 1 := n3
    have c3 : Chg s2 s3 [] := (Chg.new []).fresh c3 (by simp)
    (repeat refine sb ?_)
    refine ldI_is (z := (x.1 : Int)) rfl k3 rfl ?_
    (repeat refine sb ?_)
    refine ldI_is (z := (x.2 : Int)) rfl k3 rfl ?_
    (repeat refine sb ?_)
    have cm : Chg s3 { s3 with heap := (s3.next, some (.cells (fltC ⟨inn, x.1, x.2⟩) tFl false false)) :: s3.heap, next := s3.next + 1 } [] := .new []
    have oV3 := (oV.chg c3 (fun _ _ q => by cases q)).chg cm (fun _ _ q => by cases q)
    rw [htl] at oV3
    refine appR oV3 (show (fltCs _).length = m1 * 3 from by unfold fltCs; rw [fl_len fltC_len, htl]) ⟨by omega, by omega⟩ rfl rfl lkH rfl rfl fun s8 o8 c8 n8 => ?_
    have n8 : s8.next = s3.next + 1 + 1 := n8
    (repeat refine sb ?_)
    intro z hz
    rw [i64_id (by omega)] at hz
    (repeat refine sb ?_)
    refine ⟨⟨m1 + 1, some ⟨s3.next + 1, 0, none⟩, s8⟩, ⟨by show m1 + 1 ≤ fs.length; omega, ?_, fun id q => by simp [blkOf] at q; have := c2.next; omega, (c2.nil (c3.nil cm)).fresh c8 (fun id q => hV id q), fun q => by have q : m1 + 1 = 0 := q; omega⟩, by show fs.length - (m1 + 1) < fs.length - m1; omega, Wk.same ⟨rfl, rfl, rfl, rfl, rfl, rfl, by rw [show z = ((m1 + 1 : Nat) : Int) by omega]; rfl, trivial⟩⟩
    show OwnR tFl s8 _ 0 ((fs.take (m1 + 1)).map _).length (fltCs ((fs.take (m1 + 1)).map _))
    rw [take_next hx, List.map_append, List.length_append, htl]
    unfold fltCs
    rw [List.flatMap_append]
    exact o8
  · obtain rfl : q = false := by rw [hq]; simp; omega
    obtain rfl : i = fs.length := by omega
    rw [List.take_length] at oV htl
    generalize hfl0 : fs.map (fun f : Nat × Nat => (⟨inn, f.1, f.2⟩ : Flt)) = fl0 at *
    have hlen0 := htl
    rw [← htl]
    clear hfl0 htl
    (repeat refine sb ?_)
    have J2 : J 0 m s2 := stab 0 m s1 s2 [] J1 c2 (by simp)
    have c02 := c1.nil c2
    have hE0 : fl0 = [] → V = none := fun q => hV0 (by rw [← hlen0, q]; rfl)
    have hx0 : kpF keep inn ((xs.drop 0).map (·.e)) m fl0 = kpF keep inn (xs.map (·.e)) m fl0 := rfl
    refine pLoop (MW.head good (fun x : R2Ix => xs.length - x.i) (R2I s s2 V W xs keep inn J m fl0)
      (fun x => [(0, str inn), (3, keepV), (8, .slice x.V x.fl.length 0), (38, .slice W xs.length 0), (39, .int .i64 (xs.length : Int)), (40, .int .i64 (x.i : Int))]) (fun x => x.s) ⟨0, m, fl0, V, s2⟩ ⟨Nat.zero_le _, oV, fun id q => by have := hV id q; have := c1.next; omega, hE.own.chg c2 (fun _ _ q => by cases q), fun y hy => (hE.vals y hy).chg c2 (fun _ _ q => by cases q), J2, ⟨[], c02⟩, hE0, hx0⟩ (Wk.same ⟨rfl, rfl, rfl, rfl, rfl, rfl, trivial⟩) ?_)
    rintro ⟨i, m1, fl, V1, s3⟩ I
    have hi1 := I.i
    have oV1 := I.own
    have lV1 := I.low
    have oE := I.ents
    have oT := I.vals
    have J3 := I.j
    obtain ⟨Z3, c3⟩ := I.chg
    have hgo := I.go
    have e0 := I.e0
    dsimp only at hi1 oV1 lV1 oE oT J3 c3 hgo e0 ⊢
    have hfl : fl.length ≤ 12 := by
      have := kp_more keep inn ((xs.drop i).map (·.e)) m1 fl
      rw [hgo] at this
      omega
    (repeat refine sb ?_)
    intro q hq
    by_cases hlt : i < xs.length
    · obtain rfl : q = true := by rw [hq]; simp; omega
      obtain ⟨x, hx⟩ : ∃ x, xs[i]? = some x := ⟨_, List.getElem?_eq_getElem hlt⟩
      have hdr : xs.drop i = x :: xs.drop (i + 1) := by
        rw [List.drop_eq_getElem_cons hlt, show xs[i] = x from by rw [List.getElem?_eq_getElem hlt] at hx; exact Option.some.inj hx]
      obtain ⟨be, ge, hWe, ke⟩ := oE.pos (by omega)
      subst hWe
      obtain ⟨z1, z2, z3⟩ := hsz x (List.mem_of_getElem? hx)
      (repeat refine sb ?_)
      refine ⟨by omega, ?_⟩
      intro m2 hm o ho
      obtain rfl : m2 = i := by omega
      (repeat refine sb ?_)
      refine ldN_is rfl ke (by rw [ho, Nat.zero_add]; exact enCs_take hx) ?_
      (repeat refine sb ?_)
      refine st_abs (cs' := enC x) rfl rfl lkH (Nat.lt_succ_self _) rfl (by rfl) fun s4 k4 c4 n4 => ?_
      have n4 : s4.next = s3.next + 1 := n4
      have c4 : Chg s3 s4 [] := (Chg.new []).fresh c4 (by simp)
      (repeat refine sb ?_)
      refine ldN_is rfl k4 (by rfl) ?_
      (repeat refine sb ?_)
      refine gen_kp rfl rfl (hcall _) ?_
      (repeat refine sb ?_)
      have nl : s.next ≤ s4.next := by have := c3.next; omega
      refine (hk m2 m1 s4 x (by omega) (c4.fine (c3.fine f)) nl (stab m2 m1 s3 s4 [] J3 c4 (by simp)) (TsO.rd ((oT x (List.mem_of_getElem? hx)).chg c4 (fun _ _ q => by cases q))) (by omega) (by omega) (fun w hw => by have := z3 w hw; omega)).mono fun v s5 q => ?_
      obtain ⟨rfl, J5, Z5, c5, hZ5⟩ := q
      have k5 := c5.blk _ _ (show s3.next < s4.next by omega) (fun q => by rcases hZ5 _ q with ⟨cs, g, r, h⟩ | ⟨es, c, h⟩ <;> rw [k4] at h <;> cases h) k4
      have n5 := c5.next
      have oV5 := (oV1.chg c4 (fun _ _ q => by cases q)).chg c5 (fun id hid q => ty_away (t' := tTg) (oV1.chg c4 (fun _ _ q => by cases q)) (by decide) (hZ5 id q) hid)
      have oE5 := (oE.chg c4 (fun _ _ q => by cases q)).chg c5 (fun id hid q => ty_away (t' := tTg) (oE.chg c4 (fun _ _ q => by cases q)) (by decide) (hZ5 id q) hid)
      have oT5 : ∀ y ∈ xs, TsO s5 y.W y.e.vs := fun y hy => ((oT y hy).chg c4 (fun _ _ q => by cases q)).chg c5 (fun id hid q => ty_away (t' := tTg) ((oT y hy).chg c4 (fun _ _ q => by cases q)) (by decide) (hZ5 id q) hid)
      have c05 := (c3.trans c4).trans c5
      rw [hdr, List.map_cons, kpF] at hgo
      generalize hkm : keep m1 x.e = km at *
      obtain ⟨mm, cc⟩ := km
      dsimp only at hgo J5 ⊢
      (repeat refine sb ?_)
      intro q hq
      by_cases h0 : cc = 0
      · obtain rfl : q = false := by rw [hq, h0]; rfl
        rw [if_neg (by omega)] at hgo
        (repeat refine sb ?_)
        intro z hz
        rw [i64_id (by omega)] at hz
        (repeat refine sb ?_)
        exact ⟨⟨m2 + 1, mm, fl, V1, s5⟩, ⟨by show m2 + 1 ≤ xs.length; omega, oV5, lV1, oE5, oT5, J5, ⟨_, c05⟩, e0, hgo⟩, by show xs.length - (m2 + 1) < xs.length - m2; omega, Wk.same ⟨rfl, rfl, rfl, rfl, rfl, by rw [show z = ((m2 + 1 : Nat) : Int) by omega]; rfl, trivial⟩⟩
      · obtain rfl : q = true := by rw [hq]; simp; omega
        rw [if_pos h0] at hgo
        (repeat refine sb ?_)
        refine ldI_is (z := (x.e.n : Int)) rfl k5 rfl ?_
        (repeat refine sb ?_)
        have cm : Chg s5 { s5 with heap := (s5.next, some (.cells (fltC ⟨inn, x.e.n, cc⟩) tFl false false)) :: s5.heap, next := s5.next + 1 } [] := .new []
        refine appR (oV5.chg cm (fun _ _ q => by cases q)) (fl_len fltC_len _) ⟨by omega, by omega⟩ rfl rfl lkH rfl rfl fun s8 o8 c8 n8 => ?_
        have n8 : s8.next = s5.next + 1 + 1 := n8
        have aw := own_ty (oV5.chg cm (fun _ _ q => by cases q))
        have J8 : J (m2 + 1) mm s8 := stab _ mm _ s8 _ (stab _ mm s5 _ [] J5 cm (by simp)) c8 (fun id q => ⟨lV1 id q, aw id q⟩)
        (repeat refine sb ?_)
        intro z hz
        rw [i64_id (by omega)] at hz
        (repeat refine sb ?_)
        refine ⟨⟨m2 + 1, mm, fl ++ [⟨inn, x.e.n, cc⟩], some ⟨s5.next + 1, 0, none⟩, s8⟩, ⟨by show m2 + 1 ≤ xs.length; omega, ?_, fun id q => by simp [blkOf] at q; omega, (oE5.chg cm (fun _ _ q => by cases q)).chg c8 (fun id hid q => ty_away (t' := tFl) (oE5.chg cm (fun _ _ q => by cases q)) (by decide) (.inl (aw id q)) hid), fun y hy => ((oT5 y hy).chg cm (fun _ _ q => by cases q)).chg c8 (fun id hid q => ty_away (t' := tFl) ((oT5 y hy).chg cm (fun _ _ q => by cases q)) (by decide) (.inl (aw id q)) hid), J8, ⟨_, (c05.trans cm).trans c8⟩, (by simp), hgo⟩, by show xs.length - (m2 + 1) < xs.length - m2; omega, Wk.same ⟨rfl, rfl, ?_, rfl, rfl, by rw [show z = ((m2 + 1 : Nat) : Int) by omega]; rfl, trivial⟩⟩
        · show OwnR tFl s8 _ 0 (fl ++ [_]).length (fltCs (fl ++ [_]))
          unfold fltCs
          rw [List.length_append, List.flatMap_append]
          exact o8
        · show some (Value.slice _ (fl.length + 1) 0) = some (.slice _ (fl ++ [_]).length 0)
          rw [List.length_append]
          rfl
    · obtain rfl : q = false := by rw [hq]; simp; omega
      obtain rfl : i = xs.length := by omega
      rw [List.drop_length, List.map_nil, kpF] at hgo
      (repeat refine sb ?_)
      refine (sort14_w (c3.fine f) oV1 hfl).mono fun v s9 q => ?_
      obtain ⟨rfl, o9, c9⟩ := q
      (repeat refine sb ?_)
      rw [← hgo]
      dsimp only
      refine ⟨V1, (by rw [(srtF_perm fl).length_eq]; rfl), ?_, ⟨xs.length, hxl, stab _ _ s3 s9 _ J3 c9 (fun id q => ⟨lV1 id q, own_ty oV1 id q⟩)⟩, lV1, (fun q => e0 (by have h1 := (srtF_perm fl).length_eq; rw [q] at h1; exact List.eq_nil_of_length_eq_zero h1.symm)), _, c3.trans c9⟩
      show OwnR tFl s9 V1 0 (srtF fl).length _
      exact o9
end Go.Vf.S
end
section
namespace Go.Vf.S
open Go Go.Vf Go.Proofs Go.RowKit
attribute [local irreducible] wSeq wRow wp wG
set_option linter.unusedVariables false
set_option linter.unusedSimpArgs false
set_option maxRecDepth 10000
abbrev Ls := List (List UInt8 × List UInt8)
def lsC (x : List UInt8 × List UInt8) : List Value := [str x.1, str x.2]
def LsR (s : SS) (W : Option Addr) (l : Ls) : Prop := l = [] ∨ ∃ b cs g r, W = some ⟨b, 0, none⟩ ∧ b < s.next ∧ lookH s.heap b = some (.cells cs 55 g r) ∧ ∀ (i : Nat) x, l[i]? = some x → takeN 2 (cs.drop (i * 2)) = some (lsC x)
theorem LsR.chg {s s' : SS} {W : Option Addr} {l : Ls} {A : List Nat} (h : LsR s W l) (c : Chg s s' A) (hA : ∀ id ∈ blkOf W, id ∉ A) : LsR s' W l := by
 rcases h with h | ⟨b, cs, g, r, rfl, h1, h2, h3⟩
 ·exact .inl h
 ·exact .inr ⟨b, cs, g, r, rfl, Nat.lt_of_lt_of_le h1 c.next, c.blk _ _ h1 (hA b (by simp [blkOf])) h2, h3⟩
abbrev tLi : TypeId := 55
abbrev tEr : TypeId := 30
def ecV (cs : List Nat) : List Value := cs.map fun c : Nat => Value.int .i64 (c : Int)
theorem rep_ecV : ∀ n : Nat, repeatL n [.int .i64 0] = ecV (List.replicate n 0)
 | 0 => rfl
 | n + 1 => by
  show [Value.int .i64 0] ++ repeatL n [.int .i64 0] = _
  rw [rep_ecV n, List.replicate_succ]
  rfl
theorem ec_set (cs r : List Nat) (w v : Nat) {off : Nat} (ho : off = cs.length) : setRow (ecV (cs ++ w :: r)) off [.int .i64 (v : Int)] = some (ecV (cs ++ v :: r)) := by
 have hl : off = (cs.map fun c : Nat => Value.int .i64 (c : Int)).length := by rw [List.length_map, ho]
 unfold ecV
 rw [List.map_append, List.map_append, List.map_cons, List.map_cons, hl]
 exact setRow_mid _ [_] _ [_] rfl
theorem setV_mem {xs : List KvV} {z y : KvV} (h : y ∈ setV xs z) : y = z ∨ y ∈ xs := by
 unfold setV at h
 split at h
 ·obtain ⟨w, hw, rfl⟩ := List.mem_map.1 h
  split
  ·exact .inl rfl
  ·exact .inr hw
 ·rcases List.mem_append.1 h with h | h
  ·exact .inr h
  ·exact .inl (List.mem_singleton.1 h)
structure NmIx where
 i : Nat
 xs : List KvV
 cs : List Nat
 s : SS
structure NmI (s : SS) (b e : Nat) (ls : Ls) (m0 : Kv) (x : NmIx) : Prop where
 i : x.i ≤ ls.length
 len : x.cs.length = x.i
 map : MapK x.s b x.xs
 nil : ∀ y ∈ x.xs, y.W = none ∧ y.ts = []
 codes : lookH x.s.heap e = some (.cells (ecV (x.cs ++ List.replicate (ls.length - x.i) 0)) tEr false false)
 chg : Chg s x.s [b]
 lt : e < x.s.next
 go1 : (nmsF (ls.drop x.i) (x.xs.map kvT)).1 = (nmsF ls m0).1
 go2 : x.cs ++ (nmsF (ls.drop x.i) (x.xs.map kvT)).2 = (nmsF ls m0).2
theorem MapK.ne {s : SS} {m e : Nat} {xs : List KvV} {c : List Value} {t : TypeId} {g r : Bool} (h : MapK s m xs) (he : lookH s.heap e = some (.cells c t g r)) : m ≠ e := by
 rintro rfl
 obtain ⟨es, cl, h1, _⟩ := h.at_
 rw [h1] at he
 cases he
set_option maxHeartbeats 2000000 in
theorem name_w {s : SS} {tb a b cw : Nat} {W : Option Addr} {ls : Ls} {xs : List KvV} (f : Fine s) (hT : TabP s tb a b) (hM : MapK s b xs) (hn : ∀ y ∈ xs, y.W = none ∧ y.ts = []) (hL : LsR s W ls) (h5 : ls.length ≤ 100) :
  CallW pr n_alias_Table_name [ptrV tb, .slice W ls.length cw] s fun v s' => ∃ xs', v = .slice (some ⟨s.next, 0, none⟩) ls.length ls.length ∧ lookH s'.heap s.next = some (.cells (ecV (nmsF ls (xs.map kvT)).2) tEr false false) ∧ MapK s' b xs' ∧ xs'.map kvT = (nmsF ls (xs.map kvT)).1 ∧ (∀ y ∈ xs', y.W = none ∧ y.ts = []) ∧ Chg s s' [b] ∧ s.next < s'.next := by
 refine CallW.run good ok_alias_Table_name (by simp) rfl ?_
 (try refine pSeq ?_); (repeat(first|refine sb ?_|refine kNo ?_))
 refine ⟨⟨by omega, by omega, by omega, by omega⟩, ?_⟩
 intro m1 n1 hm1 hn1 cs0 hcs
 obtain rfl : m1 = ls.length := by omega
 obtain rfl : n1 = ls.length := by omega
 subst hcs
 rw [rep_ecV]
 (repeat(first|refine sb ?_|refine kNo ?_))
 have c0 : Chg s { s with heap := (s.next, some (.cells (ecV (List.replicate ls.length 0)) tEr false false)) :: s.heap, next := s.next + 1 } [] := .new []
 refine pLoop (MW.head good (fun x : NmIx => ls.length - x.i) (NmI s b s.next ls (xs.map kvT))
  (fun x => [(0, ptrV tb), (5, .slice (some ⟨s.next, 0, none⟩) ls.length ls.length), (13, .slice W ls.length cw), (14, .int .i64 (ls.length : Int)), (15, .int .i64 (x.i : Int))]) (fun x => x.s) ⟨0, xs, [], _⟩ ⟨Nat.zero_le _, rfl, hM.chg c0 (by simp), hn, lkH, c0.sub (by simp), Nat.lt_succ_self _, rfl, rfl⟩ (Wk.same ⟨rfl, rfl, rfl, rfl, rfl, trivial⟩) ?_)
 rintro ⟨i, ys, cs, s1⟩ I
 have hi := I.i
 have hcl := I.len
 have m1 := I.map
 have hnil := I.nil
 have k1 := I.codes
 have c1 := I.chg
 have lt1 := I.lt
 have g1 := I.go1
 have g2 := I.go2
 dsimp only at hi hcl m1 hnil k1 c1 lt1 g1 g2 ⊢
 have hbe : b ≠ s.next := m1.ne k1
 have t1 : TabP s1 tb a b := hT.chg c1 (by simp; intro q; have := hM.at_; obtain ⟨es, cl, h1, _⟩ := this; rw [← q, hT.at_] at h1; cases h1)
 (repeat(first|refine sb ?_|refine kNo ?_))
 intro q hq
 by_cases hlt : i < ls.length
 ·obtain rfl : q = true := by rw [hq]; simp; omega
  obtain ⟨x, hx⟩ : ∃ x, ls[i]? = some x := ⟨_, List.getElem?_eq_getElem hlt⟩
  have hdr : ls.drop i = x :: ls.drop (i + 1) := by
   rw [List.drop_eq_getElem_cons hlt, show ls[i] = x from by rw [List.getElem?_eq_getElem hlt] at hx; exact Option.some.inj hx]
  have hLb : ∀ id ∈ blkOf W, id ∉ [b] := by
   intro id hid q
   obtain rfl := List.mem_singleton.1 q
   rcases hL with h | ⟨bl, cl, g, r, rfl, l2, l3, _⟩
   ·rw [h] at hlt; simp at hlt
   ·simp [blkOf] at hid
    subst hid
    obtain ⟨es, cl, h1, _⟩ := hM.at_
    rw [h1] at l3
    cases l3
  rcases hL.chg c1 hLb with h0 | ⟨bl, cl, gl, rl, hWe, ll, kl, hcl2⟩
  ·rw [h0] at hlt; simp at hlt
  subst hWe
  (repeat(first|refine sb ?_|refine kNo ?_))
  refine ⟨by omega, ?_⟩
  intro m hm o ho
  obtain rfl : m = i := by omega
  (repeat(first|refine sb ?_|refine kNo ?_))
  refine ldN_is rfl kl (by rw [ho, Nat.zero_add]; exact hcl2 _ _ hx) ?_
  (repeat(first|refine sb ?_|refine kNo ?_))
  refine st_abs (cs' := lsC x) rfl rfl lkH (Nat.lt_succ_self _) rfl (by rfl) fun s2 k2 c2 n2 => ?_
  have n2 : s2.next = s1.next + 1 := n2
  have c2 : Chg s1 s2 [] := (Chg.new []).fresh c2 (by simp)
  (repeat(first|refine sb ?_|refine kNo ?_))
  refine ldS_is (l := x.1) rfl k2 rfl ?_
  (repeat(first|refine sb ?_|refine kNo ?_))
  refine mayName_w.mono fun v s3 q => ?_
  obtain ⟨rfl, c3⟩ := q
  have n3 := c3.next
  have c23 := c2.nil c3
  have k3 := c3.blk _ _ (show s1.next < s2.next by omega) (by simp) k2
  have e3 := c23.blk _ _ lt1 (by simp) k1
  have hrep : List.replicate (ls.length - m) 0 = 0 :: List.replicate (ls.length - (m + 1)) 0 := by
   rw [show ls.length - m = (ls.length - (m + 1)) + 1 by omega, List.replicate_succ]
  rw [hdr] at g1 g2
  (repeat(first|refine sb ?_|refine kNo ?_))
  intro q hq
  cases hnm : nmF x.1 with
  | false =>
   obtain rfl : q = true := by rw [hq, hnm]; rfl
   (repeat(first|refine sb ?_|refine kNo ?_))
   refine ⟨by omega, ?_⟩
   intro m2 hm2 o2 ho2
   obtain rfl : m2 = m := by omega
   (repeat(first|refine sb ?_|refine kNo ?_))
   refine st_abs (cs' := ecV ((cs ++ [23]) ++ List.replicate (ls.length - (m2 + 1)) 0)) rfl rfl e3 (by omega) rfl ?_ fun s4 k4 c4 n4 => ?_
   ·rw [hrep, List.append_assoc]
    exact ec_set cs _ 0 23 (by rw [ho2]; omega)
   have n4 : s4.next = s3.next := n4
   rw [nmsF, if_pos hnm] at g1 g2
   (repeat(first|refine sb ?_|refine kNo ?_))
   intro z hz
   rw [i64_id (by omega)] at hz
   (repeat(first|refine sb ?_|refine kNo ?_))
   exact ⟨⟨m2 + 1, ys, cs ++ [23], s4⟩, ⟨by show m2 + 1 ≤ ls.length; omega, by show (cs ++ [23]).length = m2 + 1; rw [List.length_append, hcl]; rfl, (m1.chg c23 (by simp)).chg c4 (by simp; exact hbe), hnil, k4, (c1.trans' c23 (C := [b]) (fun _ h _ => h) (fun _ h _ => by cases h)).fresh c4 (by simp), by show s.next < s4.next; omega, g1, by show (cs ++ [23]) ++ _ = _; rw [List.append_assoc]; exact g2⟩, by show ls.length - (m2 + 1) < ls.length - m2; omega, Wk.same ⟨rfl, rfl, rfl, rfl, by rw [show z = ((m2 + 1 : Nat) : Int) by omega]; rfl, trivial⟩⟩
  | true =>
   obtain rfl : q = false := by rw [hq, hnm]; rfl
   have m3 := m1.chg c23 (by simp)
   have hkeys : (ys.map kvT).map (·.1) = ys.map (·.k) := by rw [List.map_map]; rfl
   rw [nmsF, if_neg (by rw [hnm]; simp), hkeys] at g1 g2
   (repeat(first|refine sb ?_|refine kNo ?_))
   refine ld1_is (v := .map (some b)) rfl (t1.chg c23 (by simp)).at_ rfl ?_
   (repeat(first|refine sb ?_|refine kNo ?_))
   refine ldS_is (l := x.1) rfl k3 rfl ?_
   (repeat(first|refine sb ?_|refine kNo ?_))
   refine gen_look (z := x.1) (ok := true) m3 rfl rfl rfl ?_
   rw [fdB_in]
   by_cases hin : x.1 ∈ ys.map (·.k)
   ·rw [decide_eq_true hin]
    rw [if_pos hin] at g2
    (repeat(first|refine sb ?_|refine kNo ?_))
    refine ⟨by omega, ?_⟩
    intro m2 hm2 o2 ho2
    obtain rfl : m2 = m := by omega
    (repeat(first|refine sb ?_|refine kNo ?_))
    refine st_abs (cs' := ecV ((cs ++ [9]) ++ List.replicate (ls.length - (m2 + 1)) 0)) rfl rfl e3 (by omega) rfl ?_ fun s4 k4 c4 n4 => ?_
    ·rw [hrep, List.append_assoc]
     exact ec_set cs _ 0 9 (by rw [ho2]; omega)
    have n4 : s4.next = s3.next := n4
    have m4 := m3.chg c4 (by simp; exact hbe)
    have kx4 := c4.blk _ _ (show s1.next < s3.next by omega) (by simp; omega) k3
    have htn : tb ≠ s.next := fun q => by have := hT.lt; omega
    (repeat(first|refine sb ?_|refine kNo ?_))
    refine ld1_is (v := .map (some b)) rfl (TabP.chg t1 (c23.trans c4) (by simp; exact htn)).at_ rfl ?_
    (repeat(first|refine sb ?_|refine kNo ?_))
    refine ldS_is (l := x.1) rfl kx4 rfl ?_
    (repeat(first|refine sb ?_|refine kNo ?_))
    refine gen_upd ⟨x.1, [], none⟩ m4 rfl rfl rfl rfl fun s5 m5 c5 n5 => ?_
    (repeat(first|refine sb ?_|refine kNo ?_))
    intro z hz
    rw [i64_id (by omega)] at hz
    (repeat(first|refine sb ?_|refine kNo ?_))
    refine ⟨⟨m2 + 1, setV ys ⟨x.1, [], none⟩, cs ++ [9], s5⟩, ⟨by show m2 + 1 ≤ ls.length; omega, by show (cs ++ [9]).length = m2 + 1; rw [List.length_append, hcl]; rfl, m5, ?_, ?_, ?_, by show s.next < s5.next; omega, ?_, ?_⟩, by show ls.length - (m2 + 1) < ls.length - m2; omega, Wk.same ⟨rfl, rfl, rfl, rfl, by rw [show z = ((m2 + 1 : Nat) : Int) by omega]; rfl, trivial⟩⟩
    ·intro y hy
     rcases setV_mem hy with rfl | hy
     ·exact ⟨rfl, rfl⟩
     ·exact hnil y hy
    ·refine c5.blk _ _ (by omega) (by simp; exact fun q => hbe q.symm) ?_
     exact k4
    ·exact ((c1.trans' c23 (C := [b]) (fun _ h _ => h) (fun _ h _ => by cases h)).fresh c4 (by simp)).trans' c5 (C := [b]) (fun _ h _ => h) (fun _ h _ => h)
    ·show (nmsF (ls.drop (m2 + 1)) ((setV ys ⟨x.1, [], none⟩).map kvT)).1 = _
     rw [setV_T]
     exact g1
    ·show (cs ++ [9]) ++ (nmsF (ls.drop (m2 + 1)) ((setV ys ⟨x.1, [], none⟩).map kvT)).2 = _
     rw [setV_T, List.append_assoc]
     exact g2
   ·rw [decide_eq_false hin]
    rw [if_neg hin] at g2
    (repeat(first|refine sb ?_|refine kNo ?_))
    refine ld1_is (v := .map (some b)) rfl (TabP.chg t1 c23 (by simp)).at_ rfl ?_
    (repeat(first|refine sb ?_|refine kNo ?_))
    refine ldS_is (l := x.1) rfl k3 rfl ?_
    (repeat(first|refine sb ?_|refine kNo ?_))
    refine gen_upd ⟨x.1, [], none⟩ m3 rfl rfl rfl rfl fun s5 m5 c5 n5 => ?_
    (repeat(first|refine sb ?_|refine kNo ?_))
    intro z hz
    rw [i64_id (by omega)] at hz
    (repeat(first|refine sb ?_|refine kNo ?_))
    refine ⟨⟨m + 1, setV ys ⟨x.1, [], none⟩, cs ++ [0], s5⟩, ⟨by show m + 1 ≤ ls.length; omega, by show (cs ++ [0]).length = m + 1; rw [List.length_append, hcl]; rfl, m5, ?_, ?_, ?_, by show s.next < s5.next; omega, ?_, ?_⟩, by show ls.length - (m + 1) < ls.length - m; omega, Wk.same ⟨rfl, rfl, rfl, rfl, by rw [show z = ((m + 1 : Nat) : Int) by omega]; rfl, trivial⟩⟩
    ·intro y hy
     rcases setV_mem hy with rfl | hy
     ·exact ⟨rfl, rfl⟩
     ·exact hnil y hy
    ·refine c5.blk _ _ (by omega) (by simp; exact fun q => hbe q.symm) ?_
     rw [List.append_assoc]; rw [hrep] at e3; exact e3
    ·exact (c1.trans' c23 (C := [b]) (fun _ h _ => h) (fun _ h _ => by cases h)).trans' c5 (C := [b]) (fun _ h _ => h) (fun _ h _ => h)
    ·show (nmsF (ls.drop (m + 1)) ((setV ys ⟨x.1, [], none⟩).map kvT)).1 = _
     rw [setV_T]
     exact g1
    ·show (cs ++ [0]) ++ (nmsF (ls.drop (m + 1)) ((setV ys ⟨x.1, [], none⟩).map kvT)).2 = _
     rw [setV_T, List.append_assoc]
     exact g2
 ·obtain rfl : q = false := by rw [hq]; simp; omega
  obtain rfl : i = ls.length := by omega
  rw [List.drop_length, nmsF] at g1 g2
  rw [Nat.sub_self, List.replicate_zero, List.append_nil] at k1
  (repeat(first|refine sb ?_|refine kNo ?_))
  refine ⟨ys, rfl, ?_, m1, g1, hnil, c1, lt1⟩
  rw [← g2, List.append_nil]
  exact k1
end Go.Vf.S
end
section
namespace Go.Vf.S
open Go Go.Vf Go.Proofs Go.RowKit
attribute [local irreducible] wSeq wRow wp wG
set_option linter.unusedVariables false
set_option linter.unusedSimpArgs false
set_option maxRecDepth 10000
abbrev tPt : TypeId := 26
structure Env (s : SS) (tb a b pb eb : Nat) (W : Option Addr) (lists : Ls) (codes : List Nat) : Prop where
 hF : FrT s
 hG : Gb s
 T : TabP s tb a b
 p : pb < s.next ∧ lookH s.heap pb = some (.cells [ptrV tb] tPt false false)
 e : eb < s.next ∧ lookH s.heap eb = some (.cells (ecV codes) tEr false false)
 L : LsR s W lists
theorem at_ne {s : SS} {id b : Nat} {cs : List Value} {t t' : TypeId} {g r : Bool} (h : lookH s.heap b = some (.cells cs t g r)) (hi : AtTy s t' id ∨ AtMp s id) (ht : t ≠ t') : b ≠ id := by
 rintro rfl
 rcases hi with ⟨cs', g', r', q⟩ | ⟨es, c, q⟩
 ·rw [h] at q
  exact ht (ABlk.cells.inj (Option.some.inj q)).2.1
 ·rw [h] at q
  cases q
theorem Env.chg {s s' : SS} {tb a b pb eb : Nat} {W : Option Addr} {lists : Ls} {codes : List Nat} {A : List Nat} (h : Env s tb a b pb eb W lists codes) (c : Chg s s' A) (hA : ∀ id ∈ A, AtTy s tFl id ∨ AtTy s tTg id ∨ AtMp s id) : Env s' tb a b pb eb W lists codes := by
 have two : ∀ {b : Nat} {cs : List Value} {t : TypeId} {g r : Bool}, lookH s.heap b = some (.cells cs t g r) → t ≠ tFl → t ≠ tTg → b ∉ A := by
  intro b cs t g r hb h1 h2 q
  rcases hA b q with q | q
  ·exact at_ne hb (.inl q) h1 rfl
  ·exact at_ne hb q h2 rfl
 refine ⟨h.hF.chg c (two h.hF.2.2 (by decide) (by decide)), h.hG.chg c (two h.hG.2.2 (by decide) (by decide)), h.T.chg c (two h.T.at_ (by decide) (by decide)), ⟨Nat.lt_of_lt_of_le h.p.1 c.next, c.blk _ _ h.p.1 (two h.p.2 (by decide) (by decide)) h.p.2⟩, ⟨Nat.lt_of_lt_of_le h.e.1 c.next, c.blk _ _ h.e.1 (two h.e.2 (by decide) (by decide)) h.e.2⟩, ?_⟩
 rcases h.L with h0 | ⟨bl, cl, g, r, hW, l2, l3, l4⟩
 ·exact .inl h0
 ·exact .inr ⟨bl, cl, g, r, hW, Nat.lt_of_lt_of_le l2 c.next, c.blk _ _ l2 (two l3 (by decide) (by decide)) l3, l4⟩
structure PaJ (s0 : SS) (tb a b pb eb : Nat) (W : Option Addr) (lists : Ls) (codes : List Nat) (ls xs : List KvV) (st : SS) : Prop where
 env : Env st tb a b pb eb W lists codes
 ma : MapK st a xs
 ra : RowsA s0.next st xs
 mb : MapK st b ls
 chg : Chg s0 st []
 low : s0.next ≤ a ∧ s0.next ≤ b
theorem map_ty {s : SS} {m : Nat} {xs : List KvV} (h : MapK s m xs) {t : TypeId} {id : Nat} (hi : AtTy s t id) : m ≠ id := by
 rintro rfl
 obtain ⟨es, c, h1, _⟩ := h.at_
 obtain ⟨cs, g, r, h2⟩ := hi
 rw [h1] at h2
 cases h2
theorem PaJ.stab {s0 s st s2 : SS} {tb a b pb eb : Nat} {W : Option Addr} {lists : Ls} {codes : List Nat} {ls xs : List KvV} {A : List Nat} (h : PaJ s0 tb a b pb eb W lists codes ls xs st) (h0 : s0.next ≤ s.next) (c : Chg st s2 A) (hA : ∀ id ∈ A, s.next ≤ id ∧ AtTy st tFl id) : PaJ s0 tb a b pb eb W lists codes ls xs s2 :=
 ⟨h.env.chg c (fun id q => .inl (hA id q).2), h.ma.chg c (fun q => map_ty h.ma (hA _ q).2 rfl), h.ra.chg c (fun x hx id hid q => ty_away (h.ra x hx).1 (by decide) (.inl (hA id q).2) hid), h.mb.chg c (fun q => map_ty h.mb (hA _ q).2 rfl), h.chg.fresh c (fun id q => by have := (hA id q).1; omega), h.low⟩
structure PbJ (s0 : SS) (n1 tb a b pb eb cb : Nat) (W : Option Addr) (lists : Ls) (codes : List Nat) (xs ls : List KvV) (V0 : Option Addr) (fl0 : List Flt) (x : List UInt8 × List UInt8) (B : Nat) (st : SS) : Prop where
 env : Env st tb a b pb eb W lists codes
 ma : MapK st a xs
 ra : ∀ y ∈ xs, TgO st y.W y.ts ∧ ∀ id ∈ blkOf y.W, id < n1
 mb : MapK st b ls
 rb : RowsA n1 st ls
 db : DisA ls
 len : ∀ y ∈ ls, y.ts.length ≤ B
 nk : x.1 ∈ ls.map (·.k)
 fl : FlO st V0 fl0
 cell : cb < st.next ∧ lookH st.heap cb = some (.cells (lsC x) tLi false false)
 chg : Chg s0 st []
 n1 : s0.next ≤ n1 ∧ n1 ≤ st.next
 low : s0.next ≤ a ∧ s0.next ≤ b
theorem PbJ.stab {s0 s st s2 : SS} {n1 tb a b pb eb cb : Nat} {W : Option Addr} {lists : Ls} {codes : List Nat} {xs ls : List KvV} {V0 : Option Addr} {fl0 : List Flt} {x : List UInt8 × List UInt8} {B : Nat} {A : List Nat} (h : PbJ s0 n1 tb a b pb eb cb W lists codes xs ls V0 fl0 x B st) (h0 : s0.next ≤ s.next) (hV : ∀ id ∈ blkOf V0, id < s.next) (c : Chg st s2 A) (hA : ∀ id ∈ A, s.next ≤ id ∧ AtTy st tFl id) : PbJ s0 n1 tb a b pb eb cb W lists codes xs ls V0 fl0 x B s2 :=
  ⟨h.env.chg c (fun id q => .inl (hA id q).2), h.ma.chg c (fun q => map_ty h.ma (hA _ q).2 rfl), fun y hy => ⟨(h.ra y hy).1.chg c (fun id hid q => ty_away (h.ra y hy).1 (by decide) (.inl (hA id q).2) hid), (h.ra y hy).2⟩, h.mb.chg c (fun q => map_ty h.mb (hA _ q).2 rfl), h.rb.chg c (fun y hy id hid q => ty_away (h.rb y hy).1 (by decide) (.inl (hA id q).2) hid), h.db, h.len, h.nk,
   h.fl.chg c (fun id hid q => by have := hV id hid; have := (hA id q).1; omega), ⟨Nat.lt_of_lt_of_le h.cell.1 c.next, c.blk _ _ h.cell.1 (fun q => at_ne h.cell.2 (.inl (hA _ q).2) (by decide) rfl) h.cell.2⟩, h.chg.fresh c (fun id q => by have := (hA id q).1; omega), ⟨h.n1.1, Nat.le_trans h.n1.2 c.next⟩, h.low⟩
theorem setK_mem {m : Kv} {k : List UInt8} {v : List Tg} {z : List UInt8 × List Tg} (h : z ∈ setK m k v) : z = (k, v) ∨ z ∈ m := by
 unfold setK at h
 split at h
 ·obtain ⟨w, hw, rfl⟩ := List.mem_map.1 h
  split
  ·exact .inl rfl
  ·exact .inr hw
 ·rcases List.mem_append.1 h with h | h
  ·exact .inr h
  ·exact .inl (List.mem_singleton.1 h)
theorem setK_key {m : Kv} {k : List UInt8} {v : List Tg} {n : List UInt8} (h : n ∈ m.map (·.1)) : n ∈ (setK m k v).map (·.1) := by
 obtain ⟨w, hw, rfl⟩ := List.mem_map.1 h
 unfold setK
 split
 ·rw [List.map_map]
  refine List.mem_map.2 ⟨w, hw, ?_⟩
  show (if w.1 = k then (k, v) else w).1 = w.1
  split
  ·rename_i q; exact q.symm
  ·rfl
 ·rw [List.map_append]
  exact List.mem_append_left _ (List.mem_map_of_mem hw)
theorem tgs_len (names : List (List UInt8)) (al : Bool) : ∀ (ws : List (List UInt8)) (all : List Tg) (e : Nat), (tgsF names al ws all e).1.length ≤ all.length + ws.length
 | [], all, e => Nat.le_refl _
 | w :: r, all, e => by
  rw [tgsF]
  split
  ·exact Nat.zero_le _
  ·have := tgs_len names al r (all ++ [(ptF w).1]) (if (ptF w).1.kind = 5 ∧ (ptF w).1.nm ∉ names then 6 else e)
   rw [List.length_append, List.length_singleton] at this
   rw [List.length_cons]
   omega
theorem keepL_len {name : List UInt8} {m : Kv} {e : Ent} {L : Nat} (h : ∀ z ∈ m, z.2.length ≤ L) : ∀ z ∈ (keepL name m e).1, z.2.length ≤ L + 1 := by
 intro z hz
 unfold keepL at hz
 have h1 := tgs_len (m.map (·.1)) false [e.k] [] 0
 have h2 : ((getK m name).getD []).length ≤ L := by
  cases hg : getK m name with
  | none => exact Nat.zero_le _
  | some v => exact h _ (getK_in hg)
 split at hz
 ·rcases setK_mem hz with rfl | hz
  ·show (_ ++ _ : List Tg).length ≤ _
   rw [List.length_append]
   simp only [List.length_cons, List.length_nil] at h1
   omega
  ·have := h z hz; omega
 ·have := h z hz; omega
theorem keepL_key {name : List UInt8} {m : Kv} {e : Ent} {n : List UInt8} (h : n ∈ m.map (·.1)) : n ∈ (keepL name m e).1.map (·.1) := by
 unfold keepL
 split
 ·exact setK_key h
 ·exact h
theorem PbJ.keep {s0 st : SS} {n1 tb a b pb eb cb : Nat} {W : Option Addr} {lists : Ls} {codes : List Nat} {xs ls : List KvV} {V0 : Option Addr} {fl0 : List Flt} {x : List UInt8 × List UInt8} {B : Nat} {e : EnV} (h : PbJ s0 n1 tb a b pb eb cb W lists codes xs ls V0 fl0 x B st) (hab : a ≠ b) (hB : B ≤ 9000) (f : Fine st) (hk : e.e.k.length ≤ 1000000) :
  CallW pr n_alias_Table_keepListed [ptrV tb, str x.1, .agg ⟨enC e⟩] st fun v s' => v = .int .i64 ((keepL x.1 (ls.map kvT) e.e).2 : Int) ∧ (∃ ls', ls'.map kvT = (keepL x.1 (ls.map kvT) e.e).1 ∧ PbJ s0 n1 tb a b pb eb cb W lists codes xs ls' V0 fl0 x (B + 1) s') ∧ ∃ Z, Chg st s' Z ∧ (∀ id ∈ Z, AtTy st tTg id ∨ AtMp st id) ∧ ∀ id ∈ Z, id = b ∨ ∃ y ∈ ls, id ∈ blkOf y.W := by
 obtain ⟨r, hr, hrk⟩ := List.mem_map.1 h.nk
 refine (keepListed_w (n0 := n1) f h.env.hF h.env.hG h.env.T h.mb h.rb h.db h.n1.2 hr hrk (by have := h.len r hr; omega) hk).mono fun v s' q => ?_
 obtain ⟨ls', Z, rfl, hls, mb', rb', db', c, hZ, r', hr', hrk', hrl⟩ := q
 obtain ⟨es, cl, hm, _⟩ := h.mb.at_
 have hty : ∀ id ∈ Z, AtTy st tTg id ∨ AtMp st id := by
  intro id hid
  rcases hZ id hid with rfl | ⟨_, y, hy, hy2⟩
  ·exact .inr ⟨_, _, hm⟩
  ·exact .inl (own_ty (h.rb y hy).1 id hy2)
 have hlow : ∀ id ∈ Z, s0.next ≤ id ∨ id = b := by
  intro id hid
  rcases hZ id hid with rfl | ⟨h1, _⟩
  ·exact .inr rfl
  ·exact .inl (Nat.le_trans h.n1.1 h1)
 refine ⟨rfl, ⟨ls', hls, ?_⟩, Z, c, hty, fun id q => (hZ id q).imp (fun q => q) fun q => q.2⟩
 have haz : a ∉ Z := by
  intro q
  rcases hZ a q with q | ⟨_, y, hy, hy2⟩
  ·exact hab q
  ·exact map_ty h.ma (own_ty (h.rb y hy).1 a hy2) rfl
 have hkv : ∀ y ∈ ls', (y.k, y.ts) ∈ (keepL x.1 (ls.map kvT) e.e).1 := fun y hy => by rw [← hls]; exact List.mem_map_of_mem hy
 refine ⟨h.env.chg c (fun id q => .inr (hty id q)), h.ma.chg c haz, fun y hy => ⟨(h.ra y hy).1.chg c (fun id hid q => ?_), (h.ra y hy).2⟩, mb', rb', db', fun y hy => ?_, ?_, h.fl.chg c (fun id hid q => ty_away h.fl (by decide) (hty id q) hid), ⟨Nat.lt_of_lt_of_le h.cell.1 c.next, c.blk _ _ h.cell.1 (fun q => at_ne h.cell.2 (hty _ q) (by decide) rfl) h.cell.2⟩, h.chg.fresh c (fun id q => (hlow id q).elim (fun q => q) (fun q => by rw [q]; exact h.low.2)), ⟨h.n1.1, Nat.le_trans h.n1.2 c.next⟩, h.low⟩
 ·rcases hZ id q with q2 | ⟨q2, _⟩
  ·subst q2
   exact h.mb.not (h.ra y hy).1 hid
  ·have := (h.ra y hy).2 id hid
   omega
 ·exact keepL_len (L := B) (fun z hz => by obtain ⟨w, hw, rfl⟩ := List.mem_map.1 hz; exact h.len w hw) _ (hkv y hy)
 ·have h1 := keepL_key (name := x.1) (e := e.e) (m := ls.map kvT) (n := x.1) (by rw [List.map_map]; exact h.nk)
  rw [← hls, List.map_map] at h1
  exact h1
theorem parse1_w {s0 st : SS} {n1 tb a b pb eb cb : Nat} {W : Option Addr} {lists : Ls} {codes : List Nat} {xs ls : List KvV} {V0 : Option Addr} {fl0 : List Flt} {x : List UInt8 × List UInt8} {B : Nat} {e : EnV} (h : PbJ s0 n1 tb a b pb eb cb W lists codes xs ls V0 fl0 x B st) (hab : a ≠ b) (hB : B ≤ 9000) (f : Fine st) (hk : e.e.k.length ≤ 1000000) :
  CallW pr n_alias_Parse_1 [.agg ⟨enC e⟩, ptrV pb, ptrV cb] st fun v s' => v = .int .i64 ((keepL x.1 (ls.map kvT) e.e).2 : Int) ∧ (∃ ls', ls'.map kvT = (keepL x.1 (ls.map kvT) e.e).1 ∧ PbJ s0 n1 tb a b pb eb cb W lists codes xs ls' V0 fl0 x (B + 1) s') ∧ ∃ Z, Chg st s' Z ∧ ∀ id ∈ Z, AtTy st tTg id ∨ AtMp st id := by
 refine CallW.run good ok_alias_Parse_1 (by simp) rfl ?_
 (try refine pSeq ?_); (repeat refine sb ?_)
 have c0 : Chg st { st with heap := (st.next, some (.cells (enC e) tEn13 false false)) :: st.heap, next := st.next + 1 } [] := .new []
 have h0 := h.stab (s := st) h.chg.next (fun id q => h.fl.lt id q) c0 (by simp)
 refine ld1_is (v := ptrV tb) rfl h0.env.p.2 rfl ?_
 (repeat refine sb ?_)
 refine ldS_is (l := x.1) rfl h0.cell.2 rfl ?_
 (repeat refine sb ?_)
 refine ldN_is (off := 0) (new := enC e) rfl lkH (by rfl) ?_
 (repeat refine sb ?_)
 refine (h0.keep hab hB (c0.fine f) hk).mono fun v s' q => ?_
 obtain ⟨rfl, q1, Z, c, _, hZ⟩ := q
 obtain ⟨es, cl, hm, _⟩ := h.mb.at_
 (repeat refine sb ?_)
 refine ⟨rfl, q1, Z, c0.nil c, fun id hid => ?_⟩
 rcases hZ id hid with rfl | ⟨y, hy, hy2⟩
 ·exact .inr ⟨_, _, hm⟩
 ·exact .inl (own_ty (h.rb y hy).1 id hy2)
theorem PaJ.keep {s0 st : SS} {tb a b pb eb : Nat} {W : Option Addr} {lists : Ls} {codes : List Nat} {ls xs : List KvV} {e : EnV} (h : PaJ s0 tb a b pb eb W lists codes ls xs st) (hab : a ≠ b) (f : Fine st) (hW : TsR st e.W e.e.vs) (hn : e.e.vs.length ≤ 10000) (hk : e.e.k.length ≤ 1000000) (hl : ∀ w ∈ e.e.vs, w.length ≤ 1000000) :
  CallW pr n_alias_Table_keepAlias [ptrV tb, .agg ⟨enC e⟩] st fun v s' => v = .int .i64 ((keepA (ls.map (·.k)) (xs.map kvT) e.e).2 : Int) ∧ (∃ xs', xs'.map kvT = (keepA (ls.map (·.k)) (xs.map kvT) e.e).1 ∧ PaJ s0 tb a b pb eb W lists codes ls xs' s') ∧ ∃ Z, Chg st s' Z ∧ ∀ id ∈ Z, AtTy st tTg id ∨ AtMp st id := by
 refine (keepAlias_w (n0 := s0.next) f h.env.hF h.env.hG h.env.T h.ma h.mb h.ra h.chg.next hW hn hk hl hab).mono fun v s' q => ?_
 obtain ⟨xs', rfl, hxs, ma', ra', c⟩ := q
 obtain ⟨es, cl, hm, _⟩ := h.ma.at_
 have hty : ∀ id ∈ [a], AtTy st tTg id ∨ AtMp st id := fun id q => by rw [List.mem_singleton.1 q]; exact .inr ⟨_, _, hm⟩
 exact ⟨rfl, ⟨xs', hxs, h.env.chg c (fun id q => .inr (hty id q)), ma', ra', h.mb.chg c (by simp; exact fun q => hab q.symm), h.chg.fresh c (fun id q => by rw [List.mem_singleton.1 q]; exact h.low.1), h.low⟩, [a], c, hty⟩
end Go.Vf.S
end
section
namespace Go.Vf.S
open Go Go.Vf Go.Proofs Go.RowKit
attribute [local irreducible] wSeq wRow wp wG
set_option linter.unusedVariables false
set_option linter.unusedSimpArgs false
set_option maxRecDepth 10000
theorem gen_map14 {T : TL} {s : SS} {K : RR → Prop} {t : TypeId} (hK : K (.new (.map [] 0) fun id => .map (some id))) : wN pr (.gen (.makeMap t none)) T s K := ⟨_, rfl, hK⟩
def lstOk : Ls → List Nat → Kv → Prop
 | x :: r, c :: cs, m => if c ≠ 0 then lstOk r cs m else ((rdF (keepL x.1) x.1 x.2 false m).2.length ≤ 12 ∧ x.2.length ≤ 10000) ∧ lstOk r cs (rdF (keepL x.1) x.1 x.2 false m).1
 | _, _, _ => True
theorem callV_bd (p v : Value) : callV pr (.func (.func n_alias_Table_keepAlias) ⟨[p]⟩ ⟨[]⟩) [v] = some (.enter n_alias_Table_keepAlias [p, v]) := by kernel_rfl
theorem callV_pl (p q v : Value) : callV pr (.func (.func n_alias_Parse_1) ⟨[]⟩ ⟨[p, q]⟩) [v] = some (.enter n_alias_Parse_1 [v, p, q]) := by kernel_rfl
theorem nms_len : ∀ (L : Ls) (m : Kv), (nmsF L m).2.length = L.length
 | [], m => rfl
 | x :: r, m => by
  rw [nmsF]
  split
  ·show (nmsF r m).2.length + 1 = _; rw [nms_len r m]; rfl
  ·show (nmsF r _).2.length + 1 = _; rw [nms_len r _]; rfl
theorem nms_keep : ∀ (L : Ls) (m : Kv) (n : List UInt8), n ∈ m.map (·.1) → n ∈ (nmsF L m).1.map (·.1)
 | [], m, n, h => h
 | x :: r, m, n, h => by
  rw [nmsF]
  split
  ·exact nms_keep r m n h
  ·exact nms_keep r _ n (setK_key h)
theorem setK_own (m : Kv) (k : List UInt8) (v : List Tg) : k ∈ (setK m k v).map (·.1) := by
 by_cases h : k ∈ m.map (·.1)
 ·exact setK_key h
 ·unfold setK
  rw [if_neg h, List.map_append]
  simp
theorem nms_in : ∀ (L : Ls) (m : Kv) (i : Nat) (x : List UInt8 × List UInt8), L[i]? = some x → (nmsF L m).2[i]? = some 0 → x.1 ∈ (nmsF L m).1.map (·.1)
 | [], m, i, x, h, _ => by simp at h
 | y :: r, m, i, x, h, hc => by
  rw [nmsF] at hc ⊢
  cases i with
  | zero =>
   obtain rfl : y = x := by simpa using h
   split at hc
   ·simp at hc
   ·rename_i hn
    rw [if_neg hn]
    exact nms_keep r _ _ (setK_own m y.1 [])
  | succ i =>
   rw [List.getElem?_cons_succ] at h
   split at hc
   ·rename_i hn
    rw [if_pos hn]
    exact nms_in r m i x h (by simpa using hc)
   ·rename_i hn
    rw [if_neg hn]
    exact nms_in r _ i x h (by simpa using hc)
theorem app_nil0 {T : TL} {s : SS} {K : RR → Prop} {x y : Operand} {t : TypeId} {size bytes n c : Nat} {V : Option Addr} {cs : List Value} (h : OwnR t s V 0 n cs) (hn : n = 0 → V = none) (hb : n * bytes ≤ 140737488355328 ∧ n ≤ 4294967296) (hx : opd T s.gl x = some (.slice V n 0)) (hy : opd T s.gl y = some (.slice none 0 c))
  (hK : K (.val (.slice V n 0))) : wN pr (.app t size bytes x y) T s K := by
 simp only [wN, hx, hy, wSrc]
 refine ⟨⟨hb.1, hb.2, by simp, rfl⟩, ?_⟩
 cases V with
 | none =>
  obtain ⟨rfl, rfl, _⟩ := h
  exact ⟨fun _ => ⟨rfl, hK⟩, fun q => by omega⟩
 | some q =>
  obtain ⟨b2, off, sp⟩ := q
  obtain ⟨rfl, rfl, h3, g, h4, h5⟩ := h
  simp only [h4]
  cases g with
  | true => exact ⟨fun _ => hK, fun q => by omega⟩
  | false =>
   have := hn (h5 rfl).symm
   cases this
theorem all1_flt : ∀ fs : List Flt, all1 (fltCs fs) = true
 | [] => rfl
 | x :: fs => by
  have ih := all1_flt fs
  exact ih
theorem kp_key (name inn : List UInt8) : ∀ (es : List Ent) (m : Kv) (fs : List Flt) (n : List UInt8), n ∈ m.map (·.1) → n ∈ (kpF (keepL name) inn es m fs).1.map (·.1)
 | [], m, fs, n, h => h
 | e :: r, m, fs, n, h => by
  rw [kpF]
  exact kp_key name inn r _ _ n (keepL_key h)
structure LpIx where
 i : Nat
 ls : List KvV
 V : Option Addr
 fl : List Flt
 s : SS
structure LpI (s0 : SS) (n1 tb a b pb eb : Nat) (W : Option Addr) (lists : Ls) (codes : List Nat) (xs : List KvV) (m0 : Kv) (fl0 : List Flt) (x : LpIx) : Prop where
 i : x.i ≤ lists.length
 env : Env x.s tb a b pb eb W lists codes
 ma : MapK x.s a xs
 ra : ∀ y ∈ xs, TgO x.s y.W y.ts ∧ ∀ id ∈ blkOf y.W, id < n1
 mb : MapK x.s b x.ls
 rb : RowsA n1 x.s x.ls
 db : DisA x.ls
 len : ∀ y ∈ x.ls, y.ts.length ≤ 64 * x.i
 fl : FlO x.s x.V x.fl
 e0 : x.fl = [] → x.V = none
 lowV : ∀ id ∈ blkOf x.V, s0.next ≤ id
 few : x.fl.length ≤ 12 + 12 * x.i
 chg : Chg s0 x.s []
 n1 : s0.next ≤ n1 ∧ n1 ≤ x.s.next
 keys : ∀ k ∈ m0.map (·.1), k ∈ x.ls.map (·.k)
 ok : lstOk (lists.drop x.i) (codes.drop x.i) (x.ls.map kvT)
 go : lstF (lists.drop x.i) (codes.drop x.i) (x.ls.map kvT) x.fl = lstF lists codes m0 fl0
set_option maxHeartbeats 4000000 in
theorem parse14_w {s : SS} {l : List UInt8} {W : Option Addr} {cw : Nat} {lists : Ls} (f : Fine s) (hF : FrT s) (hG : Gb s) (hL : LsR s W lists) (h5 : lists.length ≤ 100) (hl : l.length ≤ 10000)
  (h12 : (rdF (keepA ((nmsF lists []).1.map (·.1))) [] l true []).2.length ≤ 12) (hls : lstOk lists (nmsF lists []).2 (nmsF lists []).1) :
  CallW pr n_alias_Parse [str l, .slice W lists.length cw] s fun v s' => ∃ tb a b xs ls V fl, v = .tuple ⟨[ptrV tb, .slice V fl.length 0]⟩ ∧ (xs.map kvT, ls.map kvT, fl) = tableF l lists ∧ TabP s' tb a b ∧ MapK s' a xs ∧ MapK s' b ls ∧ (∀ x ∈ xs, TgO s' x.W x.ts) ∧ (∀ x ∈ ls, TgO s' x.W x.ts) ∧ FlO s' V fl ∧ Chg s s' [] ∧ s.next ≤ tb ∧ s.next ≤ a ∧ s.next ≤ b := by
 refine CallW.run good ok_alias_Parse (by simp) rfl ?_
 (try refine pSeq ?_); (repeat(first|refine sb ?_|refine kNo ?_))
 refine gen_map14 ?_
 (repeat(first|refine sb ?_|refine kNo ?_))
 refine gen_map14 ?_
 (repeat(first|refine sb ?_|refine kNo ?_))
 have hT0 : lookH ((s.next + 3, some (.cells [.pointer none] tPt false false)) :: (s.next + 2, some (.cells [.map (some s.next), .map (some (s.next + 1))] tTb false false)) :: (s.next + 1, some (.map [] 0)) :: (s.next, some (.map [] 0)) :: s.heap) (s.next + 2) = some (.cells [.map (some s.next), .map (some (s.next + 1))] tTb false false) := lkT (by show s.next + 3 ≠ s.next + 2; omega) lkH
 have hB0 : lookH ((s.next + 3, some (.cells [.pointer none] tPt false false)) :: (s.next + 2, some (.cells [.map (some s.next), .map (some (s.next + 1))] tTb false false)) :: (s.next + 1, some (.map [] 0)) :: (s.next, some (.map [] 0)) :: s.heap) (s.next + 1) = some (.map [] 0) := lkT (by show s.next + 3 ≠ s.next + 1; omega) (lkT (by show s.next + 2 ≠ s.next + 1; omega) lkH)
 have hA0 : lookH ((s.next + 3, some (.cells [.pointer none] tPt false false)) :: (s.next + 2, some (.cells [.map (some s.next), .map (some (s.next + 1))] tTb false false)) :: (s.next + 1, some (.map [] 0)) :: (s.next, some (.map [] 0)) :: s.heap) s.next = some (.map [] 0) := lkT (by show s.next + 3 ≠ s.next; omega) (lkT (by show s.next + 2 ≠ s.next; omega) (lkT (by show s.next + 1 ≠ s.next; omega) lkH))
 refine st_abs (cs' := [ptrV (s.next + 2)]) rfl rfl lkH (Nat.lt_succ_self _) rfl rfl fun s1 k1 c1 n1 => ?_
 have n1 : s1.next = s.next + 4 := n1
 have cs1 : Chg s s1 [] := (((Chg.new []).nil ((Chg.new []).nil ((Chg.new []).nil (Chg.new [])))).fresh c1 (fun id q => by rw [List.mem_singleton.1 q]; show s.next ≤ s.next + 1 + 1 + 1; omega))
 have t1 : TabP s1 (s.next + 2) s.next (s.next + 1) := ⟨by omega, c1.blk _ _ (show s.next + 2 < s.next + 4 by omega) (by simp) hT0⟩
 have a1 : MapK s1 s.next [] := ⟨by omega, ⟨[], 0, c1.blk _ _ (show s.next < s.next + 4 by omega) (by simp; omega) hA0, rfl, List.Pairwise.nil, by simp⟩, List.nodup_nil⟩
 have b1 : MapK s1 (s.next + 1) [] := ⟨by omega, ⟨[], 0, c1.blk _ _ (show s.next + 1 < s.next + 4 by omega) (by simp) hB0, rfl, List.Pairwise.nil, by simp⟩, List.nodup_nil⟩
 clear hT0 hB0 hA0 c1
 have k1 : lookH s1.heap (s.next + 3) = some (.cells [ptrV (s.next + 2)] tPt false false) := k1
 have hL1 : LsR s1 W lists := hL.chg cs1 (by simp)
 (repeat(first|refine sb ?_|refine kNo ?_))
 refine ld1_is (v := ptrV (s.next + 2)) rfl k1 rfl ?_
 (repeat(first|refine sb ?_|refine kNo ?_))
 refine (name_w (cs1.fine f) t1 b1 (by simp) hL1 h5).mono fun v s2 q => ?_
 obtain ⟨ls0, rfl, ke, b2, hls0, hnil, c2, lt2⟩ := q
 have n2 := c2.next
 have cs2 : Chg s s2 [] := cs1.fresh c2 (fun id q => by rw [List.mem_singleton.1 q]; omega)
 have t2 := t1.chg c2 (by simp)
 have a2 := a1.chg c2 (by simp)
 have k2 := c2.blk _ _ (show s.next + 3 < s1.next by omega) (by simp) k1
 have ke : lookH s2.heap s1.next = some (.cells (ecV (nmsF lists []).2) tEr false false) := ke
 have hls0 : ls0.map kvT = (nmsF lists []).1 := hls0
 have env2 : Env s2 (s.next + 2) s.next (s.next + 1) (s.next + 3) s1.next W lists (nmsF lists []).2 := ⟨hF.chg cs2 (by simp), hG.chg cs2 (by simp), t2, ⟨by omega, k2⟩, ⟨lt2, ke⟩, hL.chg cs2 (by simp)⟩
 (repeat(first|refine sb ?_|refine kNo ?_))
 refine ld1_is (v := ptrV (s.next + 2)) rfl k2 rfl ?_
 (repeat(first|refine sb ?_|refine kNo ?_))
 refine ⟨.val (.func (.func n_alias_Table_keepAlias) ⟨[ptrV (s.next + 2)]⟩ ⟨[]⟩), rfl, ?_⟩
 (repeat(first|refine sb ?_|refine kNo ?_))
 have hk0 : (nmsF lists []).1.map (·.1) = ls0.map (·.k) := by rw [← hls0, List.map_map]; rfl
 rw [hk0] at h12
 have P2 : PaJ s (s.next + 2) s.next (s.next + 1) (s.next + 3) s1.next W lists (nmsF lists []).2 ls0 [] s2 := ⟨env2, a2, fun x hx => (by cases hx), b2, cs2, by omega, by omega⟩
 refine (read_w (inn := []) (l := l) (vals := true) (keep := keepA (ls0.map (·.k))) (m := []) (J := fun _ m st => ∃ xs, xs.map kvT = m ∧ PaJ s (s.next + 2) s.next (s.next + 1) (s.next + 3) s1.next W lists (nmsF lists []).2 ls0 xs st) (fk := n_alias_Table_keepAlias) (args := fun v => [ptrV (s.next + 2), v]) (cs2.fine f) hl ⟨[], rfl, P2⟩
  (by
   rintro _ m st1 st2 A ⟨xs, h1, h2⟩ c hA
   exact ⟨xs, h1, h2.stab (s := s2) (by omega) c hA⟩) (fun v => callV_bd _ v)
  (by
   rintro i m st x _ f1 _ ⟨xs, h1, h2⟩ hW hn hk hw
   subst h1
   exact h2.keep (by omega) f1 hW hn hk hw) h12).mono fun v s3 q => ?_
 obtain ⟨V0, rfl, oV0, ⟨_, _, xs, hxs, P3⟩, lV0, e0, Z0, c3⟩ := q
 generalize hfl0 : (rdF (keepA (ls0.map (·.k))) [] l true []).2 = fl0 at *
 have htab : tableF l lists = (xs.map kvT, lstF lists (nmsF lists []).2 (nmsF lists []).1 fl0) := by
  unfold tableF
  rw [hk0, hfl0, hxs]
 (repeat(first|refine sb ?_|refine kNo ?_))
 have n3 := c3.next
 have hcl := nms_len lists []
 have hdis0 : DisA ls0 := List.pairwise_iff_getElem.2 fun i j hi hj hij id hid => by
  rw [(hnil _ (List.getElem_mem hi)).1] at hid
  simp [blkOf] at hid
 have hrb0 : RowsA s3.next s3 ls0 := fun y hy => by
  obtain ⟨h1, h2⟩ := hnil y hy
  rw [h1, h2]
  exact ⟨⟨rfl, rfl, rfl⟩, by simp [blkOf]⟩
 have hlen0 : ∀ y ∈ ls0, y.ts.length ≤ 64 * 0 := fun y hy => by rw [(hnil y hy).2]; exact Nat.le_refl _
 generalize hcodes : (nmsF lists []).2 = codes at *
 refine pLoop (MW.head good (fun x : LpIx => lists.length - x.i) (LpI s s3.next (s.next + 2) s.next (s.next + 1) (s.next + 3) s1.next W lists codes xs (nmsF lists []).1 fl0)
  (fun x => [(6, ptrV (s.next + 3)), (7, .slice (some ⟨s1.next, 0, none⟩) lists.length lists.length), (8, .slice x.V x.fl.length 0), (22, .slice W lists.length cw), (23, .int .i64 (lists.length : Int)), (24, .int .i64 (x.i : Int))]) (fun x => x.s) ⟨0, ls0, V0, fl0, s3⟩ ⟨Nat.zero_le _, P3.env, P3.ma, fun y hy => ⟨(P3.ra y hy).1, (P3.ra y hy).1.lt⟩, P3.mb, hrb0, hdis0, hlen0, oV0, e0, (fun id q => by have := lV0 id q; omega), by dsimp only; omega, P3.chg, ⟨by omega, Nat.le_refl _⟩, fun k hk => by rw [hk0] at hk; exact hk, by rw [hls0]; exact hls, by rw [hls0]; rfl⟩ (Wk.same ⟨rfl, rfl, rfl, rfl, rfl, rfl, trivial⟩) ?_)
 rintro ⟨i, ls, V, fl, s4⟩ I
 have hi := I.i
 have env := I.env
 have ma := I.ma
 have ra := I.ra
 have mb := I.mb
 have rb := I.rb
 have db := I.db
 have len := I.len
 have oV := I.fl
 have e0' := I.e0
 have lowV := I.lowV
 have few := I.few
 have chg := I.chg
 have nx := I.n1.2
 have keys := I.keys
 have ok := I.ok
 have go := I.go
 dsimp only at hi env ma ra mb rb db len oV e0' lowV few chg nx keys ok go ⊢
 (repeat(first|refine sb ?_|refine kNo ?_))
 intro q hq
 by_cases hlt : i < lists.length
 ·obtain rfl : q = true := by rw [hq]; simp; omega
  obtain ⟨x, hx⟩ : ∃ x, lists[i]? = some x := ⟨_, List.getElem?_eq_getElem hlt⟩
  obtain ⟨c, hc⟩ : ∃ c, codes[i]? = some c := ⟨_, List.getElem?_eq_getElem (by omega)⟩
  have hdr : lists.drop i = x :: lists.drop (i + 1) := by
   rw [List.drop_eq_getElem_cons hlt, show lists[i] = x from by rw [List.getElem?_eq_getElem hlt] at hx; exact Option.some.inj hx]
  have hdc : codes.drop i = c :: codes.drop (i + 1) := by
   rw [List.drop_eq_getElem_cons (by omega), show codes[i]'(by omega) = c from by rw [List.getElem?_eq_getElem (by omega)] at hc; exact Option.some.inj hc]
  rw [hdr, hdc, lstOk] at ok
  rw [hdr, hdc, lstF] at go
  have hfb : fl.length ≤ 1300 := by omega
  rcases env.L with h0 | ⟨bl, cl, gl, rl, hWe, ll, kl, hcl2⟩
  ·rw [h0] at hlt; simp at hlt
  subst hWe
  (repeat(first|refine sb ?_|refine kNo ?_))
  refine ⟨by omega, ?_⟩
  intro m hm o ho
  obtain rfl : m = i := by omega
  (repeat(first|refine sb ?_|refine kNo ?_))
  refine ldN_is rfl kl (by rw [ho, Nat.zero_add]; exact hcl2 _ _ hx) ?_
  (repeat(first|refine sb ?_|refine kNo ?_))
  refine st_abs (cs' := lsC x) rfl rfl lkH (Nat.lt_succ_self _) rfl (by rfl) fun s5 k5 c5 n5 => ?_
  have n5 : s5.next = s4.next + 1 := n5
  have c5 : Chg s4 s5 [] := (Chg.new []).fresh c5 (by simp)
  have env5 := env.chg c5 (by simp)
  have hec : (ecV codes)[m]? = some (.int .i64 (c : Int)) := by unfold ecV; rw [List.getElem?_map, hc]; rfl
  (repeat(first|refine sb ?_|refine kNo ?_))
  refine ⟨by omega, ?_⟩
  intro m2 hm2 o2 ho2
  obtain rfl : m2 = m := by omega
  (repeat(first|refine sb ?_|refine kNo ?_))
  refine ldI_is (z := (c : Int)) rfl env5.e.2 (by rw [ho2, Nat.zero_add, Nat.mul_one]; exact hec) ?_
  (repeat(first|refine sb ?_|refine kNo ?_))
  intro q hq
  by_cases hc0 : c = 0
  ·obtain rfl : q = false := by rw [hq, hc0]; rfl
   rw [if_neg (by omega)] at ok go
   (repeat(first|refine sb ?_|refine kNo ?_))
   refine ldS_is (l := x.1) rfl k5 rfl ?_
   (repeat(first|refine sb ?_|refine kNo ?_))
   refine ldS_is (l := x.2) rfl k5 rfl ?_
   (repeat(first|refine sb ?_|refine kNo ?_))
   refine ⟨.val (.func (.func n_alias_Parse_1) ⟨[]⟩ ⟨[ptrV (s.next + 3), ptrV s4.next]⟩), rfl, ?_⟩
   (repeat(first|refine sb ?_|refine kNo ?_))
   have cA : ∀ id ∈ ([] : List Nat), s4.next ≤ id ∧ AtTy s4 tFl id := by simp
   have hkx : x.1 ∈ ls.map (·.k) := keys _ (by
    have h1 := nms_in lists [] m2 x hx (by rw [hcodes, hc, hc0])
    exact h1)
   have P4 : PbJ s s3.next (s.next + 2) s.next (s.next + 1) (s.next + 3) s1.next s4.next (some ⟨bl, 0, none⟩) lists codes xs ls V fl x (64 * m2) s5 :=
    ⟨env5, ma.chg c5 (by simp), fun y hy => ⟨(ra y hy).1.chg c5 (fun _ _ q => by cases q), (ra y hy).2⟩, mb.chg c5 (by simp), rb.chg c5 (fun _ _ _ _ q => by cases q), db, len, hkx, oV.chg c5 (fun _ _ q => by cases q), ⟨by omega, k5⟩, chg.nil c5, ⟨I.n1.1, by omega⟩, by omega, by omega⟩
   have oVl := P4.fl.lt
   refine (read_w (inn := x.1) (l := x.2) (vals := false) (keep := keepL x.1) (m := ls.map kvT) (J := fun k m st => ∃ ls', ls'.map kvT = m ∧ PbJ s s3.next (s.next + 2) s.next (s.next + 1) (s.next + 3) s1.next s4.next (some ⟨bl, 0, none⟩) lists codes xs ls' V fl x (64 * m2 + k) st) (fk := n_alias_Parse_1) (args := fun v => [v, ptrV (s.next + 3), ptrV s4.next]) (P4.chg.fine f) ok.1.2 ⟨ls, rfl, P4⟩
    (by
     rintro k m st1 st2 A ⟨xs', h1, h2⟩ c hA
     exact ⟨xs', h1, h2.stab (s := s5) P4.chg.next oVl c hA⟩) (fun v => callV_pl _ _ v)
    (by
     rintro k m st y hk64 f1 _ ⟨xs', h1, h2⟩ hW hn hk hw
     subst h1
     refine (parse1_w h2 (by omega) (by omega) f1 hk).mono fun v s' q => ?_
     obtain ⟨q0, ⟨ls', q1, q2⟩, q3⟩ := q
     exact ⟨q0, ⟨ls', q1, q2⟩, q3⟩) ok.1.1).mono fun v s6 q => ?_
   obtain ⟨V2, rfl, oV2, ⟨kk, hkk, ls2, hls2, P6⟩, lV2, e2, Z6, c6⟩ := q
   have n6 := c6.next
   have ok12 := ok.1.1
   rw [← hls2] at ok go
   generalize hnw : (rdF (keepL x.1) x.1 x.2 false (ls.map kvT)).2 = nw at *
   have keys6 : ∀ k ∈ (nmsF lists []).1.map (·.1), k ∈ ls2.map (·.k) := fun k hk => by
    have h1 := kp_key x.1 x.1 (tabF x.2 false).1 (ls.map kvT) ((tabF x.2 false).2.map fun f => ⟨x.1, f.1, f.2⟩) k (by rw [List.map_map]; exact keys k hk)
    have h2 : k ∈ (ls2.map kvT).map (·.1) := by rw [hls2]; exact h1
    rw [List.map_map] at h2
    exact h2
   have hlen6 : ∀ y ∈ ls2, y.ts.length ≤ 64 * (m2 + 1) := fun y hy => by have := P6.len y hy; omega
   (repeat(first|refine sb ?_|refine kNo ?_))
   cases hnc : nw with
   | nil =>
    rw [hnc] at e2 go
    obtain rfl := e2 rfl
    rw [List.append_nil] at go
    refine app_nil0 P6.fl (fun q => e0' (List.eq_nil_of_length_eq_zero q)) ⟨by omega, by omega⟩ rfl rfl ?_
    (repeat(first|refine sb ?_|refine kNo ?_))
    intro z hz
    rw [i64_id (by omega)] at hz
    (repeat(first|refine sb ?_|refine kNo ?_))
    exact ⟨⟨m2 + 1, ls2, V, fl, s6⟩, ⟨by show m2 + 1 ≤ lists.length; omega, P6.env, P6.ma, P6.ra, P6.mb, P6.rb, P6.db, hlen6, P6.fl, e0', lowV, by show fl.length ≤ 12 + 12 * (m2 + 1); omega, P6.chg, P6.n1, keys6, ok.2, go⟩, by show lists.length - (m2 + 1) < lists.length - m2; omega, Wk.same ⟨rfl, rfl, rfl, rfl, rfl, by rw [show z = ((m2 + 1 : Nat) : Int) by omega]; rfl, trivial⟩⟩
   | cons y0 nw0 =>
    rw [← hnc]
    have hpos : 0 < nw.length := by rw [hnc]; exact Nat.succ_pos _
    obtain ⟨b2, g2, hV2e, k2⟩ := oV2.pos hpos
    subst hV2e
    refine appRk14 (k := nw.length) hpos P6.fl (fl_len fltC_len _) ⟨by omega, by omega⟩ rfl rfl k2 (fl_len fltC_len _) (all1_flt nw) fun s8 o8 c8 n8 => ?_
    have n8 : s8.next = s6.next + 1 := n8
    have cA : ∀ id ∈ blkOf V, AtTy s6 tFl id := own_ty P6.fl
    (repeat(first|refine sb ?_|refine kNo ?_))
    intro z hz
    rw [i64_id (by omega)] at hz
    (repeat(first|refine sb ?_|refine kNo ?_))
    refine ⟨⟨m2 + 1, ls2, some ⟨s6.next, 0, none⟩, fl ++ nw, s8⟩, ⟨by show m2 + 1 ≤ lists.length; omega, P6.env.chg c8 (fun id q => .inl (cA id q)), P6.ma.chg c8 (fun q => map_ty P6.ma (cA _ q) rfl), fun y hy => ⟨(P6.ra y hy).1.chg c8 (fun id hid q => ty_away (P6.ra y hy).1 (by decide) (.inl (cA id q)) hid), (P6.ra y hy).2⟩, P6.mb.chg c8 (fun q => map_ty P6.mb (cA _ q) rfl), P6.rb.chg c8 (fun y hy id hid q => ty_away (P6.rb y hy).1 (by decide) (.inl (cA id q)) hid), P6.db, hlen6, ?_, fun q => absurd (congrArg List.length q) (by rw [List.length_append]; show ¬fl.length + nw.length = 0; omega), fun id q => by simp [blkOf] at q; have := P6.chg.next; omega, by show (fl ++ nw).length ≤ 12 + 12 * (m2 + 1); rw [List.length_append]; omega, P6.chg.fresh c8 lowV, ⟨P6.n1.1, by have := P6.n1.2; show s3.next ≤ s8.next; omega⟩, keys6, ok.2, go⟩, by show lists.length - (m2 + 1) < lists.length - m2; omega, Wk.same ⟨rfl, rfl, ?_, rfl, rfl, by rw [show z = ((m2 + 1 : Nat) : Int) by omega]; rfl, trivial⟩⟩
    ·show OwnR tFl s8 _ 0 (fl ++ nw).length (fltCs (fl ++ nw))
     unfold fltCs
     rw [List.length_append, List.flatMap_append]
     exact o8
    ·show some (Value.slice _ (fl.length + nw.length) 0) = some (.slice _ (fl ++ nw).length 0)
     rw [List.length_append]
  ·obtain rfl : q = true := by rw [hq]; simp; omega
   rw [if_pos hc0] at ok go
   (repeat(first|refine sb ?_|refine kNo ?_))
   refine ldS_is (l := x.1) rfl k5 rfl ?_
   (repeat(first|refine sb ?_|refine kNo ?_))
   refine ⟨by omega, ?_⟩
   intro m3 hm3 o3 ho3
   obtain rfl : m3 = m2 := by omega
   (repeat(first|refine sb ?_|refine kNo ?_))
   refine ldI_is (z := (c : Int)) rfl env5.e.2 (by rw [ho3, Nat.zero_add, Nat.mul_one]; exact hec) ?_
   (repeat(first|refine sb ?_|refine kNo ?_))
   refine mkS_is rfl rfl (rNew (c5.fine (chg.fine f)).at ?_)
   (repeat(first|refine sb ?_|refine kNo ?_))
   have cm : Chg s5 { s5 with heap := (s5.next, some (.cells (fltC ⟨x.1, 0, c⟩) tFl false false)) :: s5.heap, next := s5.next + 1 } [] := .new []
   have oV5 := (oV.chg c5 (fun _ _ q => by cases q)).chg cm (fun _ _ q => by cases q)
   refine appR (bytes := 32) oV5 (fl_len fltC_len _) ⟨by omega, by omega⟩ rfl rfl lkH rfl rfl fun s8 o8 c8 n8 => ?_
   have n8 : s8.next = s5.next + 1 + 1 := n8
   have aw := own_ty oV5
   have c48 := c5.nil (cm.nil c8)
   have cA : ∀ id ∈ blkOf V, AtTy s4 tFl id := own_ty oV
   (repeat(first|refine sb ?_|refine kNo ?_))
   intro z hz
   rw [i64_id (by omega)] at hz
   (repeat(first|refine sb ?_|refine kNo ?_))
   refine ⟨⟨m3 + 1, ls, some ⟨s5.next + 1, 0, none⟩, fl ++ [⟨x.1, 0, c⟩], s8⟩, ⟨by show m3 + 1 ≤ lists.length; omega, env.chg c48 (fun id q => .inl (cA id q)), ma.chg c48 (fun q => map_ty ma (cA _ q) rfl), fun y hy => ⟨(ra y hy).1.chg c48 (fun id hid q => ty_away (ra y hy).1 (by decide) (.inl (cA id q)) hid), (ra y hy).2⟩, mb.chg c48 (fun q => map_ty mb (cA _ q) rfl), rb.chg c48 (fun y hy id hid q => ty_away (rb y hy).1 (by decide) (.inl (cA id q)) hid), db, fun y hy => by have := len y hy; show _ ≤ 64 * (m3 + 1); omega, ?_, by simp, fun id q => by simp [blkOf] at q; have := chg.next; omega, by show (fl ++ [_]).length ≤ 12 + 12 * (m3 + 1); rw [List.length_append, List.length_singleton]; omega, chg.fresh c48 lowV, ⟨I.n1.1, by show s3.next ≤ s8.next; omega⟩, keys, ok, go⟩, by show lists.length - (m3 + 1) < lists.length - m3; omega, Wk.same ⟨rfl, rfl, ?_, rfl, rfl, by rw [show z = ((m3 + 1 : Nat) : Int) by omega]; rfl, trivial⟩⟩
   ·show OwnR tFl s8 _ 0 (fl ++ [_]).length (fltCs (fl ++ [_]))
    unfold fltCs
    rw [List.length_append, List.flatMap_append]
    exact o8
   ·show some (Value.slice _ (fl.length + 1) 0) = some (.slice _ (fl ++ [_]).length 0)
    rw [List.length_append]
    rfl
 ·obtain rfl : q = false := by rw [hq]; simp; omega
  obtain rfl : i = lists.length := by omega
  (repeat(first|refine sb ?_|refine kNo ?_))
  refine ld1_is (v := ptrV (s.next + 2)) rfl env.p.2 rfl ?_
  (repeat(first|refine sb ?_|refine kNo ?_))
  refine ⟨s.next + 2, s.next, s.next + 1, xs, ls, V, fl, rfl, ?_, env.T, ma, mb, fun y hy => (ra y hy).1, fun y hy => (rb y hy).1, oV, chg, by omega, by omega, by omega⟩
  rw [htab, ← go, List.drop_length, lstF]
  simp
end Go.Vf.S
end
section
namespace Go.Vf.S
open Go Go.Vf
set_option linter.unusedVariables false
set_option linter.unusedSimpArgs false
set_option maxRecDepth 10000
def ltr (i : Nat) : UInt8 := UInt8.ofNat (97 + i)
theorem ltr_wl {i : Nat} (h : i < 6) : wlB (ltr i) = true := by
 have : ∀ i < 6, wlB (ltr i) = true := by decide
 exact this i h
theorem ltr_inj {i j : Nat} (hi : i < 6) (hj : j < 6) (h : ltr i = ltr j) : i = j := by
 have : ∀ i < 6, ∀ j < 6, ltr i = ltr j → i = j := by decide
 exact this i hi j hj h
def stG (a : List UInt8) (i : Nat) (t : Tg) : Tg :=
 if kdF true t.kind = 1 then ⟨1, wrF t.a ++ [ltr i], farL, []⟩ else if kdF true t.kind = 5 then ⟨5, [], [], a⟩ else ⟨kdF true t.kind, [], [], wrF t.nm ++ [ltr i]⟩
def GF (a : List UInt8) (j : Nat) (t : Tg) : Prop :=
 (∃ x, t = ⟨1, wrF x ++ [ltr j], farL, []⟩) ∨ (∃ k x, (k = 2 ∨ k = 3 ∨ k = 4) ∧ t = ⟨k, [], [], wrF x ++ [ltr j]⟩) ∨ t = ⟨5, [], [], a⟩
theorem stG_form (a : List UInt8) (i : Nat) (t : Tg) : GF a i (stG a i t) := by
 have h1 := kd_in true t.kind
 have h2 := kd_many t.kind
 unfold stG
 by_cases e1 : kdF true t.kind = 1
 ·rw [if_pos e1]; exact .inl ⟨_, rfl⟩
 ·rw [if_neg e1]
  by_cases e5 : kdF true t.kind = 5
  ·rw [if_pos e5]; exact .inr (.inr rfl)
  ·rw [if_neg e5]; exact .inr (.inl ⟨_, _, by omega, rfl⟩)
theorem GF.pt {a : List UInt8} (ha : WL a) {j : Nat} (hj : j < 6) {t : Tg} (h : GF a j t) : ptF (rawT t) = (t, 0) := by
 have hc := ltr_wl hj
 have h47 : ∀ w, WL w → w.head? ≠ some 47 := fun w hw => by rw [hw.hd]; decide
 rcases h with ⟨x, rfl⟩ | ⟨k, x, hk, rfl⟩ | rfl
 ·exact pt_addr (wr_WLc x hc).may (h47 _ (wr_WLc x hc))
 ·have hw := wr_WLc x hc
  rcases hk with rfl | rfl | rfl
  ·show ptF (wrF x ++ [ltr j]) = _
   rw [pt_local hw.loc (h47 _ hw), hw.low]
  ·show ptF (92 :: (wrF x ++ [ltr j])) = _
   rw [pt_final hw.loc, hw.low]
  ·exact pt_box hw.nm
 ·exact pt_inc ha.nm
theorem wsb_one {x : UInt8} {p : List UInt8} (hx : wsB x = false) : ∀ c, (x :: p).head? = some c → wsB c = false := fun c e => by
 obtain rfl := Option.some.inj e
 exact hx
theorem GF.pl {a : List UInt8} (ha : WL a) {j : Nat} (hj : j < 6) {t : Tg} (h : GF a j t) : PlL (rawT t) := by
 have hc := ltr_wl hj
 rcases h with ⟨x, rfl⟩ | ⟨k, x, hk, rfl⟩ | rfl
 ·have hw := wr_WLc x hc
  show PlL (textF (wrF x ++ [ltr j]) farL)
  rw [hw.text]
  refine ⟨⟨107, 116, rfl, by decide, by rw [List.getLast?_append]; rfl, by decide⟩, fun q => ?_, by rw [List.all_append, hw.tx]; decide, by show some (107 : UInt8) ≠ _; decide⟩
  exact (List.mem_append.1 q).elim (hw.no (by decide)) (by decide)
 ·have hw := wr_WLc x hc
  rcases hk with rfl | rfl | rfl
  ·exact (hw.raw (p := []) (by simp) (by simp) (by simp) rfl).pl (by show some (107 : UInt8) ≠ _; decide)
  ·exact (hw.raw (p := [92]) (wsb_one (by decide)) (by decide) (by decide) (by decide)).pl (by show some (92 : UInt8) ≠ _; decide)
  ·exact (hw.raw (p := [47]) (wsb_one (by decide)) (by decide) (by decide) (by decide)).pl (by show some (47 : UInt8) ≠ _; decide)
 ·exact (ha.raw (p := incL) (wsb_one (by decide)) (by decide) (by decide) (by decide)).pl (by show some (58 : UInt8) ≠ _; decide)
theorem GF.len {a : List UInt8} (ha : WL a) {j : Nat} (hj : j < 6) {t : Tg} (h : GF a j t) : (rawT t).length ≤ 30 := by
 have hc := ltr_wl hj
 rcases h with ⟨x, rfl⟩ | ⟨k, x, hk, rfl⟩ | rfl
 ·have hw := wr_WLc x hc
  show (textF (wrF x ++ [ltr j]) farL).length ≤ 30
  rw [hw.text, List.length_append]
  have := hw.n10
  have : (64 :: farL).length = 8 := rfl
  omega
 ·have hw := (wr_WLc x hc).n10
  rcases hk with rfl | rfl | rfl
  ·show (wrF x ++ [ltr j]).length ≤ 30; omega
  ·show (wrF x ++ [ltr j]).length + 1 ≤ 30; omega
  ·show (wrF x ++ [ltr j]).length + 1 ≤ 30; omega
 ·show (incL ++ a).length ≤ 30
  rw [List.length_append]
  have := ha.n10
  have : incL.length = 9 := rfl
  omega
theorem GF.low {a : List UInt8} (ha : WL a) {j : Nat} (hj : j < 6) {t : Tg} (h : GF a j t) : lwF (rawT t) = rawT t := by
 have hc := ltr_wl hj
 have ap : ∀ (p w : List UInt8), p.map lowB = p → WL w → (p ++ w).map lowB = p ++ w := fun p w hp hw => by rw [List.map_append, hp, hw.low]
 rcases h with ⟨x, rfl⟩ | ⟨k, x, hk, rfl⟩ | rfl
 ·have hw := wr_WLc x hc
  show (textF (wrF x ++ [ltr j]) farL).map lowB = textF (wrF x ++ [ltr j]) farL
  rw [hw.text, List.map_append, hw.low]
  rfl
 ·have hw := wr_WLc x hc
  rcases hk with rfl | rfl | rfl
  ·exact ap [] _ rfl hw
  ·exact ap [92] _ rfl hw
  ·exact ap [47] _ rfl hw
 ·exact ap incL _ (by decide) ha
theorem GF.kind {a : List UInt8} {j : Nat} {t : Tg} (h : GF a j t) : (1 ≤ t.kind ∧ t.kind ≤ 5) ∧ (t.kind = 5 → t.nm = a) := by
 rcases h with ⟨x, rfl⟩ | ⟨k, x, hk, rfl⟩ | rfl
 ·exact ⟨⟨Int.le_refl _, by simp⟩, fun q => by simp at q⟩
 ·rcases hk with rfl | rfl | rfl <;> exact ⟨⟨by simp, by simp⟩, fun q => by simp at q⟩
 ·exact ⟨⟨by simp, Int.le_refl _⟩, fun _ => rfl⟩
theorem GF.S {a : List UInt8} (ha : WL a) {j : Nat} (hj : j < 6) {t : Tg} (h : GF a j t) : TgS t := by
 have hc := ltr_wl hj
 rcases h with ⟨x, rfl⟩ | ⟨k, x, hk, rfl⟩ | rfl
 ·have := (wr_WLc x hc).n10
  exact ⟨by simp, by show (wrF x ++ [ltr j]).length ≤ 10000; omega, by simp [farL], by simp⟩
 ·have := (wr_WLc x hc).n10
  refine ⟨by dsimp only; omega, by simp, by simp, by show (wrF x ++ [ltr j]).length ≤ 10000; omega⟩
 ·have := ha.n10
  exact ⟨by simp, by simp, by simp, by show a.length ≤ 10000; omega⟩
theorem app_one {x y : List UInt8} {c d : UInt8} (h : x ++ [c] = y ++ [d]) : c = d := by
 have := congrArg List.getLast? h
 rw [List.getLast?_concat, List.getLast?_concat] at this
 exact Option.some.inj this
theorem GF.ne {a : List UInt8} {i j : Nat} (hi : i < 6) (hj : j < 6) {t u : Tg} (h : GF a i t) (h' : GF a j u) (hij : i ≠ j) (h5 : t.kind ≠ 5) : t ≠ u := by
 rintro rfl
 rcases h with ⟨x, rfl⟩ | ⟨k, x, hk, rfl⟩ | rfl
 ·rcases h' with ⟨y, hy⟩ | ⟨k, y, hk, hy⟩ | hy
  ·exact hij (ltr_inj hi hj (app_one (Tg.mk.inj hy).2.1))
  ·have := (Tg.mk.inj hy).1; omega
  ·have := (Tg.mk.inj hy).1; omega
 ·rcases h' with ⟨y, hy⟩ | ⟨k', y, hk', hy⟩ | hy
  ·have := (Tg.mk.inj hy).1; omega
  ·exact hij (ltr_inj hi hj (app_one (Tg.mk.inj hy).2.2.2))
  ·have := (Tg.mk.inj hy).1; omega
 ·exact h5 rfl
structure LTI (a : List UInt8) (i : Nat) (own : List Tg) : Prop where
 form : ∀ t ∈ own, ∃ j, j < i ∧ j < 6 ∧ GF a j t
 nd : own.Nodup
 few : own.length ≤ i ∧ own.length ≤ 6
theorem LTI.skip {a : List UInt8} {i : Nat} {own : List Tg} (h : LTI a i own) : LTI a (i + 1) own := ⟨fun t ht => (h.form t ht).imp fun j q => ⟨by omega, q.2⟩, h.nd, by have := h.few; omega⟩
theorem LTI.more {a : List UInt8} {i : Nat} {own : List Tg} {t : Tg} (h : LTI a i own) (hi : i < 6) (ht : ¬((stG a i t).kind = 5 ∧ stG a i t ∈ own)) : LTI a (i + 1) (own ++ [stG a i t]) := by
 have hf := stG_form a i t
 refine ⟨fun u hu => ?_, ?_, by have := h.few; rw [List.length_append, List.length_singleton]; omega⟩
 ·rcases List.mem_append.1 hu with hu | hu
  ·exact (h.form u hu).imp fun j q => ⟨by omega, q.2⟩
  ·rw [List.mem_singleton.1 hu]; exact ⟨i, by omega, hi, hf⟩
 ·rw [List.nodup_append]
  refine ⟨h.nd, by simp, fun u hu v hv q => ?_⟩
  rw [List.mem_singleton.1 hv] at q
  obtain ⟨j, hj, hj6, hg⟩ := h.form u hu
  by_cases h5 : (stG a i t).kind = 5
  ·exact ht ⟨h5, by rw [← q]; exact hu⟩
  ·exact hf.ne hi hj6 hg (by omega) h5 q.symm
theorem LTI.rows {a : List UInt8} (ha : WL a) {i : Nat} {own : List Tg} (h : LTI a i own) : (∀ l ∈ own.map rawT, PlL l) ∧ (own.map rawT).Pairwise (fun x y => lwF x ≠ lwF y) ∧ (txP (own.map rawT)).length ≤ 31 * own.length := by
 refine ⟨fun l hl => ?_, ?_, ?_⟩
 ·obtain ⟨t, ht, rfl⟩ := List.mem_map.1 hl
  obtain ⟨j, _, hj, hg⟩ := h.form t ht
  exact hg.pl ha hj
 ·rw [List.pairwise_map]
  refine List.Pairwise.imp_of_mem (fun {t u} ht hu hne q => ?_) h.nd
  obtain ⟨j, _, hj, hg⟩ := h.form t ht
  obtain ⟨j', _, hj', hg'⟩ := h.form u hu
  rw [hg.low ha hj, hg'.low ha hj'] at q
  have h1 := hg.pt ha hj
  have h2 := hg'.pt ha hj'
  rw [q, h2] at h1
  exact hne (Prod.mk.inj h1).1.symm
 ·have key : ∀ own : List Tg, (∀ t ∈ own, (rawT t).length ≤ 30) → (txP (own.map rawT)).length ≤ 31 * own.length := by
   intro own
   induction own with
   | nil => intro _; exact Nat.le_refl _
   | cons t own ih =>
    intro hh
    have h1 := hh t (by simp)
    have h2 := ih fun u hu => hh u (by simp [hu])
    show ((rawT t ++ [10]) ++ txP (own.map rawT)).length ≤ _
    simp only [List.length_append, List.length_cons, List.length_nil]
    omega
  exact key own fun t ht => by obtain ⟨j, _, hj, hg⟩ := h.form t ht; exact hg.len ha hj
theorem tgs_okL {a : List UInt8} {t : Tg} {names : List (List UInt8)} (hp : ptF (rawT t) = (t, 0)) (hk : t.kind ≤ 5) (h5 : t.kind = 5 → t.nm ∈ names) : tgsF names false [rawT t] [] 0 = ([t], 0) := by
 rw [tgsF, hp, if_neg (by
  rintro (q | ⟨q, _⟩)
  ·exact q rfl
  ·dsimp only at q; omega)]
 dsimp only
 rw [if_neg (fun q => q.2 (h5 q.1)), tgsF]
 rfl
theorem kp_list {a : List UInt8} (ha : WL a) (inn : List UInt8) : ∀ (own : List Tg) (n : Nat) (acc : List Tg) (fs : List Flt), (∀ t ∈ own, ∃ j, j < 6 ∧ GF a j t) → kpF (keepL a) inn (enP n (own.map rawT)) [(a, acc)] fs = ([(a, acc ++ own)], fs)
 | [], n, acc, fs, _ => by rw [List.append_nil]; rfl
 | t :: own, n, acc, fs, h => by
  obtain ⟨j, hj, hg⟩ := h t (by simp)
  have ht := tgs_okL (a := a) (names := [a]) (hg.pt ha hj) hg.kind.1.2 (fun q => by rw [hg.kind.2 q]; simp)
  have hk : keepL a [(a, acc)] ⟨n, rawT t, []⟩ = ([(a, acc ++ [t])], 0) := by
   unfold keepL
   dsimp only
   rw [show ([(a, acc)] : Kv).map (·.1) = [a] from rfl, ht, if_pos (.inl rfl)]
   unfold getK setK
   simp
  show kpF (keepL a) inn (⟨n, rawT t, []⟩ :: enP (n + 1) (own.map rawT)) [(a, acc)] fs = _
  rw [kpF, hk, if_neg (by simp), kp_list ha inn own (n + 1) (acc ++ [t]) fs fun u hu => h u (by simp [hu]), List.append_assoc]
  rfl
theorem rd_list {a : List UInt8} (ha : WL a) {i : Nat} {own : List Tg} (h : LTI a i own) : rdF (keepL a) a (txP (own.map rawT)) false [(a, [])] = ([(a, own)], []) := by
 obtain ⟨h1, h2, h3⟩ := h.rows ha
 have h6 := h.few.2
 unfold rdF
 rw [tab_pl h1 (by rw [List.length_map]; omega) h2 (by omega)]
 dsimp only
 rw [List.map_nil, kp_list ha a own 1 [] [] fun t ht => by obtain ⟨j, _, hj, hg⟩ := h.form t ht; exact ⟨j, hj, hg⟩]
 rfl
def txX (a b : List UInt8) : List UInt8 := [120, 58, 32] ++ incL ++ a ++ [10, 121, 58, 32] ++ incL ++ [32] ++ b ++ [10]
def nnL : List UInt8 := [110, 111, 32, 110, 97, 109, 101]
def lsX (a body : List UInt8) : Ls := [(a, body), (a, [111, 116, 104, 101, 114, 10]), (nnL, [122, 10])]
def inX (n : List UInt8) : Tg := ⟨5, [], [], n⟩
theorem tab_X {a b : List UInt8} (ha : WL a) (hb : WL b) : tabF (txX a b) true = ([⟨1, [120], [incL ++ a]⟩, ⟨2, [121], [incL ++ [32] ++ b]⟩], []) := by
 have r1 : (Lin.row (lnT14 [120] [] (padF [32] [] [] [incL ++ a])) [120] [incL ++ a]).ok := row_made ⟨⟨120, 120, rfl, by decide, rfl, by decide⟩, by decide, by decide, by decide⟩ (by decide) (by decide) rfl rfl rfl (fun w hw => by rw [List.mem_singleton.1 hw]; exact ha.raw (wsb_one (by decide)) (by decide) (by decide) (by decide)) (by simp) (by simp)
 have r2 : (Lin.row (lnT14 [121] [] (padF [32] [] [] [incL ++ [32] ++ b])) [121] [incL ++ [32] ++ b]).ok := row_made ⟨⟨121, 121, rfl, by decide, rfl, by decide⟩, by decide, by decide, by decide⟩ (by decide) (by decide) rfl rfl rfl (fun w hw => by rw [List.mem_singleton.1 hw]; exact hb.raw (wsb_one (by decide)) (by decide) (by decide) (by decide)) (by simp) (by simp)
 have e : txX a b = txJ [Lin.row (lnT14 [120] [] (padF [32] [] [] [incL ++ a])) [120] [incL ++ a], Lin.row (lnT14 [121] [] (padF [32] [] [] [incL ++ [32] ++ b])) [121] [incL ++ [32] ++ b]] := by
  unfold txX txJ lnT14 padF
  simp [Lin.l, jnT]
 have n1 := ha.n10
 have n2 := hb.n10
 have hl : (txX a b).length ≤ 8192 := by
  unfold txX
  simp [incL]
  omega
 rw [e] at hl ⊢
 rw [tab_lins (by
  intro i hi
  rcases List.mem_cons.1 hi with rfl | hi
  ·exact r1
  ·rw [List.mem_singleton.1 hi]; exact r2) (by simp) hl]
 rfl
theorem tgs_X {names : List (List UInt8)} {w n : List UInt8} (h : ptF w = (inX n, 0)) : tgsF names true [w] [] 0 = ([inX n], if n ∈ names then 0 else 6) := by
 rw [tgsF, h, if_neg (by
  rintro (q | ⟨_, q⟩)
  ·exact q rfl
  ·cases q)]
 dsimp only
 rw [tgsF]
 by_cases hn : n ∈ names
 ·rw [if_neg (fun q => q.2 hn), if_pos hn]; rfl
 ·rw [if_pos ⟨rfl, hn⟩, if_neg hn]; rfl
theorem keepA_one {names : List (List UInt8)} {m : Kv} {n : Nat} {k w : List UInt8} (hk : locF k = true) : keepA names m ⟨n, k, [w]⟩ = if (tgsF names true [w] [] 0).2 = 0 ∨ (tgsF names true [w] [] 0).2 = 6 then (setK m (lwF k) (tgsF names true [w] [] 0).1, (tgsF names true [w] [] 0).2) else (m, (tgsF names true [w] [] 0).2) := by
 unfold keepA
 rw [if_neg (by rw [hk]; simp)]
 rfl
theorem rd_X {a b : List UInt8} (ha : WL a) (hb : WL b) : rdF (keepA [a]) [] (txX a b) true [] = ([([120], [inX a]), ([121], [inX b])], if a = b then [] else [⟨[], 2, 6⟩]) := by
 have p1 : ptF (incL ++ a) = (inX a, 0) := pt_inc ha.nm
 have p2 : ptF (incL ++ [32] ++ b) = (inX b, 0) := by rw [List.append_assoc]; exact pt_inc0 (p := [32]) (by decide) hb.nm
 have t1 := tgs_X (names := [a]) p1
 rw [if_pos (List.mem_singleton.2 rfl)] at t1
 have t2 := tgs_X (names := [a]) p2
 have l1 : locF [120] = true := by decide +kernel
 have l2 : locF [121] = true := by decide +kernel
 have k1 : keepA [a] [] ⟨1, [120], [incL ++ a]⟩ = ([([120], [inX a])], 0) := by
  rw [keepA_one l1, t1, if_pos (.inl rfl)]
  rfl
 have k2 : keepA [a] [([120], [inX a])] ⟨2, [121], [incL ++ [32] ++ b]⟩ = ([([120], [inX a]), ([121], [inX b])], if b ∈ [a] then 0 else 6) := by
  rw [keepA_one l2, t2, if_pos (by dsimp only; split <;> simp)]
  rfl
 unfold rdF
 rw [tab_X ha hb]
 dsimp only
 rw [List.map_nil, kpF, k1, kpF, k2, kpF]
 by_cases hab : a = b
 ·subst hab
  rw [if_pos rfl]
  simp
  rfl
 ·rw [if_neg hab]
  have hn : b ∉ [a] := fun q => hab (List.mem_singleton.1 q).symm
  rw [if_neg hn]
  rfl
theorem nms_X {a body : List UInt8} (ha : WL a) : nmsF (lsX a body) [] = ([(a, [])], [0, 9, 23]) := by
 have h1 := ha.nm
 have h2 : nmF nnL = false := by decide +kernel
 unfold lsX
 rw [nmsF, if_neg (by rw [h1]; simp), nmsF, if_neg (by rw [h1]; simp), nmsF, if_pos h2, nmsF]
 have e1 : setK [] a [] = [(a, [])] := rfl
 have e2 : setK [(a, [])] a [] = [(a, [])] := by unfold setK; simp
 rw [e1, e2]
 simp
def fltX (a b : List UInt8) : List Flt := (if a = b then [] else [⟨[], 2, 6⟩]) ++ [⟨a, 0, 9⟩, ⟨nnL, 0, 23⟩]
theorem table_X {a b : List UInt8} (ha : WL a) (hb : WL b) {i : Nat} {own : List Tg} (h : LTI a i own) : tableF (txX a b) (lsX a (txP (own.map rawT))) = ([([120], [inX a]), ([121], [inX b])], [(a, own)], fltX a b) := by
 unfold tableF
 rw [nms_X ha]
 dsimp only
 rw [show ([(a, [])] : Kv).map (·.1) = [a] from rfl, rd_X ha hb]
 unfold lsX
 dsimp only
 rw [lstF, if_neg (by simp)]
 dsimp only
 rw [rd_list ha h]
 dsimp only
 rw [lstF, if_pos (by simp), lstF, if_pos (by simp)]
 unfold fltX
 simp [lstF]
theorem ok_X {a b : List UInt8} (ha : WL a) {i : Nat} {own : List Tg} (h : LTI a i own) : lstOk (lsX a (txP (own.map rawT))) (nmsF (lsX a (txP (own.map rawT))) []).2 (nmsF (lsX a (txP (own.map rawT))) []).1 := by
 have h3 := (h.rows ha).2.2
 have h6 := h.few.2
 rw [nms_X ha]
 unfold lsX
 rw [lstOk, if_neg (by simp)]
 dsimp only
 rw [rd_list ha h]
 refine ⟨⟨Nat.zero_le _, by omega⟩, ?_⟩
 rw [lstOk, if_pos (by simp), lstOk, if_pos (by simp)]
 trivial
end Go.Vf.S
end
section
namespace Go.Vf.S
open Go Go.Vf Go.Proofs Go.RowKit
attribute [local irreducible] wSeq wRow wp wG
set_option linter.unusedVariables false
set_option linter.unusedSimpArgs false
set_option maxRecDepth 10000
theorem all1_tg : ∀ ts : List Tg, all1 (tgCs ts) = true
 | [] => rfl
 | x :: ts => all1_tg ts
theorem app_e0 {T : TL} {s : SS} {K : RR → Prop} {x y : Operand} {t t' : TypeId} {size bytes b c : Nat} {a : Addr} {cs : List Value} {g r : Bool} (hb : lookH s.heap b = some (.cells [] t false false)) (ha : a.spot = none) (h2 : lookH s.heap a.block = some (.cells cs t' g r)) (hx : opd T s.gl x = some (.slice (some ⟨b, 0, none⟩) 0 0)) (hy : opd T s.gl y = some (.slice (some a) 0 c)) (hlt : b < s.next)
  (hK : ∀ s' : SS, lookH s'.heap b = some (.cells [] t false false) → Chg s s' [b] → s'.next = s.next → K (.eff (.slice (some ⟨b, 0, none⟩) 0 0) s')) : wN pr (.app t size bytes x y) T s K := by
 obtain ⟨b2, off, sp⟩ := a
 dsimp only at ha h2
 subst ha
 simp only [wN, hx, hy, wSrc, h2]
 refine ⟨[], by rw [Nat.zero_mul]; rfl, ⟨⟨by omega, by omega, by simp, rfl⟩, ?_⟩⟩
 simp only [hb]
 refine ⟨fun _ => ⟨trivial, [], by rw [Nat.zero_mul]; rfl, fun m hm => ?_⟩, fun q => by omega⟩
 subst hm
 exact hK _ lkH (.turn hlt) rfl
theorem clone14_w {s : SS} {W : Option Addr} {ts : List Tg} (f : Fine s) (h : TgO s W ts) (hn : ts.length ≤ 100000) : CallW pr n_slices_Clone_alias_Target_alias_Target [.slice W ts.length 0] s fun v s' => ∃ V, v = .slice V ts.length 0 ∧ TgO s' V ts ∧ (∀ id ∈ blkOf V, s.next ≤ id) ∧ Chg s s' [] := by
 refine CallW.run good ok_slices_Clone_alias_Target_alias_Target (by simp) rfl ?_
 cases W with
 | none =>
  obtain ⟨h1, h2, h3⟩ := h
  (try refine pSeq ?_); (repeat refine sb ?_)
  intro q hq
  obtain rfl : q = true := by rw [hq]; rfl
  (repeat refine sb ?_)
  exact ⟨none, by rw [h2]; rfl, ⟨h1, h2, rfl⟩, by simp [blkOf], .refl _ _⟩
 | some ad =>
  obtain ⟨b, off, sp⟩ := ad
  have h' := h
  obtain ⟨rfl, rfl, h3, g, h4, h5⟩ := h'
  (repeat refine sb ?_)
  intro q hq
  obtain rfl : q = false := by rw [hq]
  (repeat refine sb ?_)
  have cm : Chg s { s with heap := (s.next, some (.cells [] tTg false false)) :: s.heap, next := s.next + 1 } [] := .new []
  have h4' := cm.blk _ _ h3 (by simp) h4
  rcases Nat.eq_zero_or_pos ts.length with h0 | hpos
  ·have e := List.eq_nil_of_length_eq_zero h0
   subst e
   refine app_e0 (b := s.next) lkH rfl h4' rfl rfl (Nat.lt_succ_self _) fun s2 k2 c2 n2 => ?_
   (repeat refine sb ?_)
   exact ⟨some ⟨s.next, 0, none⟩, rfl, ⟨rfl, rfl, by rw [n2]; exact Nat.lt_succ_self _, false, k2, fun _ => rfl⟩, by simp [blkOf], cm.fresh c2 (by simp)⟩
  ·refine appRk14 (k := ts.length) (W := some ⟨s.next, 0, none⟩) (n := 0) (cw := 0) (cs := []) hpos ⟨rfl, rfl, Nat.lt_succ_self _, false, lkH, fun _ => rfl⟩ (by simp) ⟨by omega, by omega⟩ rfl rfl h4' (tgCs_len ts) (all1_tg ts) fun s2 o2 c2 n2 => ?_
   (repeat refine sb ?_)
   rw [Nat.zero_add, List.nil_append] at o2
   exact ⟨_, by rw [Nat.zero_add]; rfl, o2, by simp [blkOf], cm.fresh c2 (by simp [blkOf])⟩
def fdT (xs : List KvV) (z : List UInt8) : List Tg := match getV xs z with
 | some x => x.ts
 | none => []
def fdW (xs : List KvV) (z : List UInt8) : Option Addr := match getV xs z with
 | some x => x.W
 | none => none
theorem fdV_is (xs : List KvV) (z : List UInt8) : fdV xs z = .slice (fdW xs z) (fdT xs z).length 0 := by
 unfold fdV fdW fdT
 cases getV xs z <;> rfl
theorem fd_own {s : SS} {xs : List KvV} (h : ∀ x ∈ xs, TgO s x.W x.ts) (z : List UInt8) : TgO s (fdW xs z) (fdT xs z) := by
 unfold fdW fdT
 cases hg : getV xs z with
 | none => exact ⟨rfl, rfl, rfl⟩
 | some x => exact h x (getV_in hg).1
theorem byKey_w {s : SS} {tb a b : Nat} {xs : List KvV} {k : List UInt8} (f : Fine s) (hT : TabP s tb a b) (hA : MapK s a xs) (hR : ∀ x ∈ xs, TgO s x.W x.ts) (hn : ∀ x ∈ xs, x.ts.length ≤ 100000) : CallW pr n_alias_Table_byKey [ptrV tb, str k] s fun v s' => ∃ V, v = .tuple ⟨[.slice V (fdT xs k).length 0, .bool (fdB xs k)]⟩ ∧ TgO s' V (fdT xs k) ∧ (∀ id ∈ blkOf V, s.next ≤ id) ∧ Chg s s' [] := by
 refine CallW.run good ok_alias_Table_byKey (by simp) rfl ?_
 (try refine pSeq ?_); (repeat refine sb ?_)
 intro q hq
 obtain rfl : q = false := by rw [hq]
 (repeat refine sb ?_)
 refine ld1_is (v := .map (some a)) rfl hT.at_ rfl ?_
 (repeat refine sb ?_)
 refine raw_look (z := k) (ok := true) hA rfl rfl rfl ?_
 rw [fdV_is]
 (repeat refine sb ?_)
 have hlen : (fdT xs k).length ≤ 100000 := by
  unfold fdT
  cases hg : getV xs k with
  | none => exact Nat.zero_le _
  | some x => exact hn x (getV_in hg).1
 refine (clone14_w f (fd_own hR k) hlen).mono fun v s2 q => ?_
 obtain ⟨V, rfl, oV, lV, c2⟩ := q
 (repeat refine sb ?_)
 exact ⟨V, rfl, oV, lV, c2⟩
theorem list_w {s : SS} {tb a b : Nat} {ls : List KvV} {k : List UInt8} (f : Fine s) (hT : TabP s tb a b) (hA : MapK s b ls) (hR : ∀ x ∈ ls, TgO s x.W x.ts) (hn : ∀ x ∈ ls, x.ts.length ≤ 100000) : CallW pr n_alias_Table_List [ptrV tb, str k] s fun v s' => ∃ V, v = .tuple ⟨[.slice V (fdT ls k).length 0, .bool (fdB ls k)]⟩ ∧ TgO s' V (fdT ls k) ∧ (∀ id ∈ blkOf V, s.next ≤ id) ∧ Chg s s' [] := by
 refine CallW.run good ok_alias_Table_List (by simp) rfl ?_
 (try refine pSeq ?_); (repeat refine sb ?_)
 intro q hq
 obtain rfl : q = false := by rw [hq]
 (repeat refine sb ?_)
 refine ld1_is (v := .map (some b)) rfl hT.at_ rfl ?_
 (repeat refine sb ?_)
 refine raw_look (z := k) (ok := true) hA rfl rfl rfl ?_
 rw [fdV_is]
 (repeat refine sb ?_)
 have hlen : (fdT ls k).length ≤ 100000 := by
  unfold fdT
  cases hg : getV ls k with
  | none => exact Nat.zero_le _
  | some x => exact hn x (getV_in hg).1
 refine (clone14_w f (fd_own hR k) hlen).mono fun v s2 q => ?_
 obtain ⟨V, rfl, oV, lV, c2⟩ := q
 (repeat refine sb ?_)
 exact ⟨V, rfl, oV, lV, c2⟩
def fnR (s : SS) (v : Value) (s' : SS) (r : Option (List Tg × List UInt8)) : Prop := match r with
 | some (ts, k) => ∃ V, v = .tuple ⟨[.slice V ts.length 0, str k, .bool true]⟩ ∧ TgO s' V ts ∧ ∀ id ∈ blkOf V, s.next ≤ id
 | none => v = .tuple ⟨[.slice none 0 0, str [], .bool false]⟩
theorem fnd_is (xs : List KvV) (l : List UInt8) : fndF (xs.map kvT) l = if fdB xs (lwF l) = true then some (fdT xs (lwF l), lwF l) else if fdB xs (spF (lwF l)).1 = true then some (fdT xs (spF (lwF l)).1, (spF (lwF l)).1) else none := by
 unfold fndF
 rw [getV_K, getV_K]
 unfold fdB fdT
 cases getV xs (lwF l) with
 | some x => rfl
 | none =>
  show Option.map _ (Option.map _ (getV xs (spF (lwF l)).1)) = _
  cases getV xs (spF (lwF l)).1 <;> rfl
set_option maxHeartbeats 1000000 in
theorem find14_w {s : SS} {tb a b : Nat} {xs : List KvV} {l : List UInt8} (f : Fine s) (hT : TabP s tb a b) (hA : MapK s a xs) (hR : ∀ x ∈ xs, TgO s x.W x.ts) (hn : ∀ x ∈ xs, x.ts.length ≤ 100000) (hl : l.length ≤ 1000000) : CallW pr n_alias_Table_Find [ptrV tb, str l] s fun v s' => fnR s v s' (fndF (xs.map kvT) l) ∧ Chg s s' [] := by
 rw [fnd_is]
 refine CallW.run good ok_alias_Table_Find (by simp) rfl ?_
 (try refine pSeq ?_); (repeat refine sb ?_)
 refine (lower_w hl).mono fun v s1 q => ?_
 obtain ⟨hv, c1⟩ := q
 replace hv : v = str (lwF l) := hv
 subst hv
 have hwl : (lwF l).length ≤ 1000000 := by unfold lwF; rw [List.length_map]; exact hl
 (repeat refine sb ?_)
 refine (asplit_w (l := lwF l) hwl).mono fun v s2 q => ?_
 obtain ⟨rfl, c2⟩ := q
 have c02 := c1.nil c2
 generalize hsp : spF (lwF l) = sp
 obtain ⟨u, d, hb⟩ := sp
 generalize hw : lwF l = w at *
 (repeat refine sb ?_)
 obtain ⟨s3, hs3⟩ : ∃ s3 : SS, s3 = { s2 with heap := (s2.next, some (.cells [str w, str u] tS false false)) :: s2.heap, next := s2.next + 1 } := ⟨_, rfl⟩
 have c3 : Chg s2 s3 [] := by rw [hs3]; exact .new []
 have k3 : lookH s3.heap s2.next = some (.cells [str w, str u] tS false false) := by rw [hs3]; exact lkH
 have n3 : s3.next = s2.next + 1 := by rw [hs3]
 have c03 := c02.nil c3
 have tab : ∀ st : SS, Chg s st [] → TabP st tb a b ∧ MapK st a xs ∧ ∀ x ∈ xs, TgO st x.W x.ts := fun st c => ⟨hT.chg c (by simp), hA.chg c (by simp), fun x hx => (hR x hx).chg c (fun _ _ q => by cases q)⟩
 refine pLoop (MW.head good (fun x : Nat × SS => 2 - x.1) (fun x => x.1 ≤ 2 ∧ (1 ≤ x.1 → fdB xs w = false) ∧ (2 ≤ x.1 → fdB xs u = false) ∧ Chg s3 x.2 [])
  (fun x => [(0, ptrV tb), (23, .slice (some ⟨s2.next, 0, none⟩) 2 2), (24, .int .i64 2), (25, .int .i64 (x.1 : Int))]) (fun x => x.2) (0, s3) ⟨(show 0 ≤ 2 by decide), (fun q => absurd q (show ¬1 ≤ 0 by decide)), (fun q => absurd q (show ¬2 ≤ 0 by decide)), .refl _ _⟩ ?_ ?_)
 ·dsimp only
  rw [hs3]
  exact Wk.same ⟨rfl, rfl, rfl, rfl, trivial⟩
 rintro ⟨i, s4⟩ ⟨hi, h1, h2, c4⟩
 dsimp only at hi h1 h2 c4 ⊢
 have c04 := c03.nil c4
 have k4 := c4.blk _ _ (show s2.next < s3.next by omega) (by simp) k3
 obtain ⟨t4, a4, r4⟩ := tab s4 c04
 (repeat refine sb ?_)
 intro q hq
 by_cases hlt : i < 2
 ·obtain rfl : q = true := by rw [hq]; simp; omega
  (repeat refine sb ?_)
  refine ⟨by omega, ?_⟩
  intro m hm o ho
  obtain rfl : m = i := by omega
  have hget : [str w, str u][o]? = some (str (if m = 0 then w else u)) := by
   have : m = 0 ∨ m = 1 := by omega
   rcases this with rfl | rfl
   ·rw [ho]; rfl
   ·rw [ho]; rfl
  (repeat refine sb ?_)
  refine ldS_is (l := if m = 0 then w else u) rfl k4 hget ?_
  (repeat refine sb ?_)
  refine (byKey_w (k := if m = 0 then w else u) (c04.fine f) t4 a4 r4 hn).mono fun v s5 q => ?_
  obtain ⟨V, rfl, oV, lV, c5⟩ := q
  cases hfd : fdB xs (if m = 0 then w else u) with
  | true =>
   (repeat refine sb ?_)
   have key : (if fdB xs w = true then some (fdT xs w, w) else if fdB xs u = true then some (fdT xs u, u) else none) = some (fdT xs (if m = 0 then w else u), if m = 0 then w else u) := by
    have : m = 0 ∨ m = 1 := by omega
    rcases this with rfl | rfl
    ·rw [if_pos (show (0 : Nat) = 0 from rfl)] at hfd
     rw [if_pos hfd]
     rfl
    ·rw [if_neg (show ¬(1 : Nat) = 0 by decide)] at hfd
     rw [if_neg (by rw [h1 (by decide)]; simp), if_pos hfd]
     rfl
   refine ⟨?_, c04.nil c5⟩
   show fnR s _ s5 (if fdB xs w = true then some (fdT xs w, w) else if fdB xs u = true then some (fdT xs u, u) else none)
   rw [key]
   exact ⟨V, rfl, oV, fun id q => by have := lV id q; have := c04.next; omega⟩
  | false =>
   (repeat refine sb ?_)
   intro z hz
   rw [i64_id (by omega)] at hz
   (repeat refine sb ?_)
   refine ⟨(m + 1, s5), ⟨by show m + 1 ≤ 2; omega, fun _ => ?_, fun q => ?_, c4.nil c5⟩, by show 2 - (m + 1) < 2 - m; omega, Wk.same ⟨rfl, rfl, rfl, by rw [show z = ((m + 1 : Nat) : Int) by omega]; rfl, trivial⟩⟩
   ·rcases Nat.eq_zero_or_pos m with rfl | hm0
    ·exact hfd
    ·exact h1 hm0
   ·have q : 2 ≤ m + 1 := q
    obtain rfl : m = 1 := by omega
    exact hfd
 ·obtain rfl : q = false := by rw [hq]; simp; omega
  obtain rfl : i = 2 := by omega
  (repeat refine sb ?_)
  refine ⟨?_, c04⟩
  show fnR s _ s4 (if fdB xs w = true then some (fdT xs w, w) else if fdB xs u = true then some (fdT xs u, u) else none)
  rw [h1 (by decide), h2 (by decide)]
  rfl
end Go.Vf.S
end
section
namespace Go.Vf.S
open Go Go.Vf Go.Proofs Go.RowKit
attribute [local irreducible] wSeq wRow wp wG
set_option linter.unusedVariables false
set_option linter.unusedSimpArgs false
set_option maxRecDepth 10000
theorem wr_next {l : List UInt8} {i : Nat} {c : UInt8} (h : l[i]? = some c) : wrF (l.take (i + 1)) = if (wrF (l.take i)).length < 9 ∧ wlB c = true then wrF (l.take i) ++ [c] else wrF (l.take i) := by
 rw [take_next h]
 unfold wrF
 rw [List.filter_append, List.length_cons, List.length_take]
 generalize (l.take i).filter wlB = m
 cases hw : wlB c with
 | false =>
  rw [if_neg (by simp), List.filter_cons, if_neg (by rw [hw]; simp), List.filter_nil, List.append_nil]
 | true =>
  rw [List.filter_cons, if_pos hw, List.filter_nil]
  by_cases h8 : m.length < 8
  ·rw [if_pos ⟨by omega, rfl⟩, List.take_of_length_le (by rw [List.length_append, List.length_singleton]; omega), List.take_of_length_le (by omega), List.cons_append]
  ·rw [if_neg (by omega), List.take_append_of_le_length (by omega)]
theorem bytesV_app (a : List UInt8) (c : UInt8) : bytesV (a ++ [c]) = bytesV a ++ [.int .u8 (c.toNat : Int)] := by unfold bytesV; rw [List.map_append]; rfl
structure WoIx where
 i : Nat
 W : Option Addr
 cw : Nat
 s : SS
set_option maxHeartbeats 1000000 in
theorem word14_w {s : SS} {l : List UInt8} (hl : l.length ≤ 9223372036854775807) : CallW pr n_law14_word [str l] s fun v s' => v = str (wrF l) ∧ Chg s s' [] := by
 refine CallW.run good ok_law14_word (by simp) rfl ?_
 (try refine pSeq ?_); (repeat(first|refine sb ?_|refine gOn rfl ?_|refine gOff rfl rfl ?_|refine gTup rfl ?_))
 refine ⟨by omega, ?_⟩
 (repeat(first|refine sb ?_|refine gOn rfl ?_|refine gOff rfl rfl ?_|refine gTup rfl ?_))
 obtain ⟨s1, hs1⟩ : ∃ s1 : SS, s1 = { s with heap := (s.next + 1, some (.cells (bytesV l) tB true false)) :: (s.next, some (.cells [.int .u8 107] tB false false)) :: s.heap, next := s.next + 1 + 1 } := ⟨_, rfl⟩
 have c1 : Chg s s1 [] := by rw [hs1]; exact (Chg.new []).nil (.new [])
 have n1 : s1.next = s.next + 2 := by rw [hs1]
 have k1 : lookH s1.heap (s.next + 1) = some (.cells (bytesV l) tB true false) := by rw [hs1]; exact lkH
 have o1 : OwnR tB s1 (some ⟨s.next, 0, none⟩) 1 1 (bytesV (wrF (l.take 0))) := ⟨rfl, rfl, by omega, false, by rw [hs1]; exact lkT (by show s.next + 1 ≠ s.next; omega) lkH, fun _ => rfl⟩
 refine pLoop (MW.head good (fun x : WoIx => l.length - x.i) (fun x => x.i ≤ l.length ∧ OwnR tB x.s x.W x.cw (wrF (l.take x.i)).length (bytesV (wrF (l.take x.i))) ∧ lookH x.s.heap (s.next + 1) = some (.cells (bytesV l) tB true false) ∧ (∀ id ∈ blkOf x.W, s.next ≤ id ∧ id ≠ s.next + 1) ∧ Chg s x.s [] ∧ s.next + 1 < x.s.next)
  (fun x => [(3, .slice x.W (wrF (l.take x.i)).length x.cw), (8, .slice (some ⟨s.next + 1, 0, none⟩) l.length 0), (9, .int .i64 (l.length : Int)), (10, .int .i64 (x.i : Int))]) (fun x => x.s) ⟨0, some ⟨s.next, 0, none⟩, 1, s1⟩ ⟨Nat.zero_le _, o1, k1, by simp [blkOf], c1, by dsimp only; omega⟩ ?_ ?_)
 ·dsimp only
  rw [hs1]
  exact Wk.same ⟨rfl, rfl, rfl, rfl, trivial⟩
 rintro ⟨i, W, cw, s2⟩ ⟨hi, oW, k2, lW, c2, n2⟩
 dsimp only at hi oW k2 lW c2 n2 ⊢
 (repeat(first|refine sb ?_|refine gOn rfl ?_|refine gOff rfl rfl ?_|refine gTup rfl ?_))
 intro q hq
 by_cases hlt : i < l.length
 ·obtain rfl : q = true := by rw [hq]; simp; omega
  obtain ⟨c, hc⟩ : ∃ c, l[i]? = some c := ⟨_, List.getElem?_eq_getElem hlt⟩
  have hnx := wr_next hc
  have hwl := (wr_len (l.take i)).2
  have hwp := (wr_len (l.take i)).1
  have hwB : wlB c = true ↔ (97 ≤ c.toNat ∧ c.toNat ≤ 122) ∨ (48 ≤ c.toNat ∧ c.toNat ≤ 57) := by unfold wlB; rw [decide_eq_true_eq]
  generalize wrF (l.take i) = w at *
  (repeat(first|refine sb ?_|refine gOn rfl ?_|refine gOff rfl rfl ?_|refine gTup rfl ?_))
  refine ⟨by omega, ?_⟩
  intro m hm o ho
  obtain rfl : m = i := by omega
  (repeat(first|refine sb ?_|refine gOn rfl ?_|refine gOff rfl rfl ?_|refine gTup rfl ?_))
  refine ldI_is rfl k2 (by rw [ho, Nat.mul_one, Nat.zero_add]; exact bytesV_at hc) ?_
  (repeat(first|refine sb ?_|refine gOn rfl ?_|refine gOff rfl rfl ?_|refine gTup rfl ?_))
  intro q hq
  by_cases h9 : w.length < 9
  ·obtain rfl : q = true := by rw [hq]; simp; omega
   (repeat(first|refine sb ?_|refine gOn rfl ?_|refine gOff rfl rfl ?_|refine gTup rfl ?_))
   intro q hq
   by_cases h97 : 97 ≤ c.toNat
   ·obtain rfl : q = true := by rw [hq]; simp; omega
    (repeat(first|refine sb ?_|refine gOn rfl ?_|refine gOff rfl rfl ?_|refine gTup rfl ?_))
    intro q hq
    by_cases h122 : c.toNat ≤ 122
    ·obtain rfl : q = true := by rw [hq]; simp; omega
     rw [if_pos ⟨h9, hwB.2 (by omega)⟩] at hnx
     (repeat(first|refine sb ?_|refine gOn rfl ?_|refine gOff rfl rfl ?_|refine gTup rfl ?_))
     have cm : Chg s2 { s2 with heap := (s2.next, some (.cells [.int .u8 (c.toNat : Int)] tB false false)) :: s2.heap, next := s2.next + 1 } [] := .new []
     refine appR (oW.chg cm (fun _ _ q => by cases q)) (by rw [bytesV_len, Nat.mul_one]) ⟨by omega, by omega⟩ rfl rfl lkH rfl rfl fun s8 o8 c8 n8 => ?_
     have n8 : s8.next = s2.next + 1 + 1 := n8
     (repeat(first|refine sb ?_|refine gOn rfl ?_|refine gOff rfl rfl ?_|refine gTup rfl ?_))
     intro z hz
     rw [i64_id (by omega)] at hz
     (repeat(first|refine sb ?_|refine gOn rfl ?_|refine gOff rfl rfl ?_|refine gTup rfl ?_))
     refine ⟨⟨m + 1, some ⟨s2.next + 1, 0, none⟩, 0, s8⟩, ⟨by show m + 1 ≤ l.length; omega, ?_, c8.blk _ _ (show s.next + 1 < s2.next + 1 by omega) (fun q => (lW _ q).2 rfl) (cm.blk _ _ n2 (by simp) k2), fun id q => by simp [blkOf] at q; omega, (c2.nil cm).fresh c8 (fun id q => (lW id q).1), by show s.next + 1 < s8.next; omega⟩, by show l.length - (m + 1) < l.length - m; omega, Wk.same ⟨by rw [hnx, List.length_append]; rfl, rfl, rfl, by rw [show z = ((m + 1 : Nat) : Int) by omega]; rfl, trivial⟩⟩
     show OwnR tB s8 _ 0 (wrF (l.take (m + 1))).length (bytesV (wrF (l.take (m + 1))))
     rw [hnx, List.length_append, bytesV_app]
     exact o8
    ·obtain rfl : q = false := by rw [hq]; simp; omega
     (repeat(first|refine sb ?_|refine gOn rfl ?_|refine gOff rfl rfl ?_|refine gTup rfl ?_))
     intro q hq
     obtain rfl : q = true := by rw [hq]; simp; omega
     (repeat(first|refine sb ?_|refine gOn rfl ?_|refine gOff rfl rfl ?_|refine gTup rfl ?_))
     intro q hq
     obtain rfl : q = false := by rw [hq]; simp; omega
     rw [if_neg (fun q => by have := hwB.1 q.2; omega)] at hnx
     (repeat(first|refine sb ?_|refine gOn rfl ?_|refine gOff rfl rfl ?_|refine gTup rfl ?_))
     intro z hz
     rw [i64_id (by omega)] at hz
     (repeat(first|refine sb ?_|refine gOn rfl ?_|refine gOff rfl rfl ?_|refine gTup rfl ?_))
     exact ⟨⟨m + 1, W, cw, s2⟩, ⟨by show m + 1 ≤ l.length; omega, by rw [hnx]; exact oW, k2, lW, c2, n2⟩, by show l.length - (m + 1) < l.length - m; omega, Wk.same ⟨by rw [hnx]; rfl, rfl, rfl, by rw [show z = ((m + 1 : Nat) : Int) by omega]; rfl, trivial⟩⟩
   ·obtain rfl : q = false := by rw [hq]; simp; omega
    (repeat(first|refine sb ?_|refine gOn rfl ?_|refine gOff rfl rfl ?_|refine gTup rfl ?_))
    intro q hq
    by_cases h48 : 48 ≤ c.toNat
    ·obtain rfl : q = true := by rw [hq]; simp; omega
     (repeat(first|refine sb ?_|refine gOn rfl ?_|refine gOff rfl rfl ?_|refine gTup rfl ?_))
     intro q hq
     by_cases h57 : c.toNat ≤ 57
     ·obtain rfl : q = true := by rw [hq]; simp; omega
      rw [if_pos ⟨h9, hwB.2 (by omega)⟩] at hnx
      (repeat(first|refine sb ?_|refine gOn rfl ?_|refine gOff rfl rfl ?_|refine gTup rfl ?_))
      have cm : Chg s2 { s2 with heap := (s2.next, some (.cells [.int .u8 (c.toNat : Int)] tB false false)) :: s2.heap, next := s2.next + 1 } [] := .new []
      refine appR (oW.chg cm (fun _ _ q => by cases q)) (by rw [bytesV_len, Nat.mul_one]) ⟨by omega, by omega⟩ rfl rfl lkH rfl rfl fun s8 o8 c8 n8 => ?_
      have n8 : s8.next = s2.next + 1 + 1 := n8
      (repeat(first|refine sb ?_|refine gOn rfl ?_|refine gOff rfl rfl ?_|refine gTup rfl ?_))
      intro z hz
      rw [i64_id (by omega)] at hz
      (repeat(first|refine sb ?_|refine gOn rfl ?_|refine gOff rfl rfl ?_|refine gTup rfl ?_))
      refine ⟨⟨m + 1, some ⟨s2.next + 1, 0, none⟩, 0, s8⟩, ⟨by show m + 1 ≤ l.length; omega, ?_, c8.blk _ _ (show s.next + 1 < s2.next + 1 by omega) (fun q => (lW _ q).2 rfl) (cm.blk _ _ n2 (by simp) k2), fun id q => by simp [blkOf] at q; omega, (c2.nil cm).fresh c8 (fun id q => (lW id q).1), by show s.next + 1 < s8.next; omega⟩, by show l.length - (m + 1) < l.length - m; omega, Wk.same ⟨by rw [hnx, List.length_append]; rfl, rfl, rfl, by rw [show z = ((m + 1 : Nat) : Int) by omega]; rfl, trivial⟩⟩
      show OwnR tB s8 _ 0 (wrF (l.take (m + 1))).length (bytesV (wrF (l.take (m + 1))))
      rw [hnx, List.length_append, bytesV_app]
      exact o8
     ·obtain rfl : q = false := by rw [hq]; simp; omega
      rw [if_neg (fun q => by have := hwB.1 q.2; omega)] at hnx
      (repeat(first|refine sb ?_|refine gOn rfl ?_|refine gOff rfl rfl ?_|refine gTup rfl ?_))
      intro z hz
      rw [i64_id (by omega)] at hz
      (repeat(first|refine sb ?_|refine gOn rfl ?_|refine gOff rfl rfl ?_|refine gTup rfl ?_))
      exact ⟨⟨m + 1, W, cw, s2⟩, ⟨by show m + 1 ≤ l.length; omega, by rw [hnx]; exact oW, k2, lW, c2, n2⟩, by show l.length - (m + 1) < l.length - m; omega, Wk.same ⟨by rw [hnx]; rfl, rfl, rfl, by rw [show z = ((m + 1 : Nat) : Int) by omega]; rfl, trivial⟩⟩
    ·obtain rfl : q = false := by rw [hq]; simp; omega
     rw [if_neg (fun q => by have := hwB.1 q.2; omega)] at hnx
     (repeat(first|refine sb ?_|refine gOn rfl ?_|refine gOff rfl rfl ?_|refine gTup rfl ?_))
     intro z hz
     rw [i64_id (by omega)] at hz
     (repeat(first|refine sb ?_|refine gOn rfl ?_|refine gOff rfl rfl ?_|refine gTup rfl ?_))
     exact ⟨⟨m + 1, W, cw, s2⟩, ⟨by show m + 1 ≤ l.length; omega, by rw [hnx]; exact oW, k2, lW, c2, n2⟩, by show l.length - (m + 1) < l.length - m; omega, Wk.same ⟨by rw [hnx]; rfl, rfl, rfl, by rw [show z = ((m + 1 : Nat) : Int) by omega]; rfl, trivial⟩⟩
  ·obtain rfl : q = false := by rw [hq]; simp; omega
   rw [if_neg (fun q => h9 q.1)] at hnx
   (repeat(first|refine sb ?_|refine gOn rfl ?_|refine gOff rfl rfl ?_|refine gTup rfl ?_))
   intro z hz
   rw [i64_id (by omega)] at hz
   (repeat(first|refine sb ?_|refine gOn rfl ?_|refine gOff rfl rfl ?_|refine gTup rfl ?_))
   exact ⟨⟨m + 1, W, cw, s2⟩, ⟨by show m + 1 ≤ l.length; omega, by rw [hnx]; exact oW, k2, lW, c2, n2⟩, by show l.length - (m + 1) < l.length - m; omega, Wk.same ⟨by rw [hnx]; rfl, rfl, rfl, by rw [show z = ((m + 1 : Nat) : Int) by omega]; rfl, trivial⟩⟩
 ·obtain rfl : q = false := by rw [hq]; simp; omega
  obtain rfl : i = l.length := by omega
  rw [List.take_length] at oW ⊢
  obtain ⟨b, g, rfl, kb⟩ := oW.pos (wr_len l).1
  (repeat(first|refine sb ?_|refine gOn rfl ?_|refine gOff rfl rfl ?_|refine gTup rfl ?_))
  refine toStr_is10 rfl kb rfl ?_
  (repeat(first|refine sb ?_|refine gOn rfl ?_|refine gOff rfl rfl ?_|refine gTup rfl ?_))
  exact ⟨rfl, c2⟩
end Go.Vf.S
end
