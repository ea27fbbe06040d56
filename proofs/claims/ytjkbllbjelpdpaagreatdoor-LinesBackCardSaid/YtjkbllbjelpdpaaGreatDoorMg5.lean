import Derived.Test.YtjkbllbjelpdpaaGreatDoorMg4
import Derived.Test.YtjkbllbjelpdpaaGreatDoorEngMb
import Derived.Test.YtjkbllbjelpdpaaGreatDoorFn
import Derived.Test.YtjkbllbjelpdpaaGreatDoorEngBd
import Derived.LaidMore
import Derived.Lay
import Derived.OpenShut
import Derived.Handed
import Derived.Test.YtjkbllbjelpdpaaGreatDoorMg1
import Derived.Shelf.Vars
import Derived.Test.YtjkbllbjelpdpaaGreatDoorEngAt
import Derived.Test.YtjkbllbjelpdpaaGreatDoorEngBg
section
/- The law LinesBack: keys that are there; entries as they come. -/
namespace Go.Vf.S
open Go Go.Vf Go.MapKept Go.Proofs Go.RowKit
attribute [local irreducible] wSeq wRow wp wG
set_option linter.unusedVariables false
set_option linter.unusedSimpArgs false
set_option maxRecDepth 10000

theorem str_of {a b : List UInt8} (h : str a = str b) : a = b := by cases h; rfl
abbrev tM13 : TypeId := 24
theorem um_M13 : pr.underlying tM13 = some (.map tS 3) := by kernel_rfl
/-- A map that tells 1 of some texts. -/
def MapS (s : SS) (m : Nat) (ks : List (List UInt8)) : Prop :=
  m < s.next ∧ ∃ es clock, lookH s.heap m = some (.map es clock) ∧ (∀ e ∈ es, ∃ z, e.key = str z ∧ e.val = .int .i64 1) ∧ ∀ z, z ∈ ks ↔ ∃ e ∈ es, e.key = str z
theorem MapS.chg {s s' : SS} {m : Nat} {ks : List (List UInt8)} {Z : List Nat} (h : MapS s m ks) (c : Chg s s' Z) (hz : m ∉ Z) : MapS s' m ks := by
  obtain ⟨h0, es, clock, h1, h2, h3⟩ := h
  exact ⟨Nat.lt_of_lt_of_le h0 c.next, es, clock, c.blk _ _ h0 hz h1, h2, h3⟩
theorem lookS_w {T : TL} {s : SS} {m : Nat} {ks : List (List UInt8)} {x y : Operand} {z : List UInt8} {K : Value → SS → Prop} (h : MapS s m ks) (hc : (okC x && okC y) = true) (hx : opd T s.gl x = some (.map (some m))) (hy : opd T s.gl y = some (str z))
    (hK : K (.int .i64 (if z ∈ ks then 1 else 0)) s) : OpW pr (.lookup tM13 x y false) T s K := by
  obtain ⟨h0, es, clock, h1, h2, h3⟩ := h
  have hks : ∀ e ∈ es, IsKey .string e.key := fun e he => by obtain ⟨k, q, _⟩ := h2 e he; rw [q]; trivial
  by_cases hz : z ∈ ks
  · rw [if_pos hz] at hK
    exact lookup_in (d := .string) hc um_M13 un_S hx hy trivial rfl h1 hks ((h3 z).1 hz) (fun e he _ => by obtain ⟨k, _, q⟩ := h2 e he; exact q) hK
  · rw [if_neg hz] at hK
    exact lookup_out (d := .string) hc um_M13 un_S hx hy trivial rfl h1 hks (fun e he q => hz ((h3 z).2 ⟨e, he, q⟩)) (fun w => (run_zeroB (ρ := fun _ => none) (P := pr) (t := 3) (z := .int .i64 0) (by kernel_rfl) w).1) hK
theorem updS_w {T : TL} {s : SS} {m : Nat} {ks : List (List UInt8)} {x y w : Operand} {z : List UInt8} {K : Value → SS → Prop} (h : MapS s m ks) (hc : (okC x && okC y && okC w) = true) (hx : opd T s.gl x = some (.map (some m))) (hy : opd T s.gl y = some (str z)) (hw : opd T s.gl w = some (.int .i64 1)) (hz : z ∉ ks)
    (hK : ∀ s' : SS, MapS s' m (ks ++ [z]) → Chg s s' [m] → s'.next = s.next → K (.tuple #[]) s') : OpW pr (.mapUpdate tM13 x y w) T s K := by
  obtain ⟨h0, es, clock, h1, h2, h3⟩ := h
  have hks : ∀ e ∈ es, IsKey .string e.key := fun e he => by obtain ⟨k, q, _⟩ := h2 e he; rw [q]; trivial
  refine update_new (d := .string) hc um_M13 un_S hx hy hw trivial h1 hks (fun e he q => hz ((h3 z).2 ⟨e, he, q⟩)) (hK _ ⟨h0, _, _, lkH, fun e he => ?_, fun k => ?_⟩ ?_ rfl)
  · rcases List.mem_append.1 he with q | q
    · exact h2 e q
    · rw [List.mem_singleton.1 q]; exact ⟨z, rfl, rfl⟩
  · rw [List.mem_append, h3 k, List.mem_singleton]
    constructor
    · rintro (⟨e, he, q⟩ | rfl)
      · exact ⟨e, List.mem_append_left _ he, q⟩
      · exact ⟨_, List.mem_append_right _ (List.mem_singleton.2 rfl), rfl⟩
    · rintro ⟨e, he, q⟩
      rcases List.mem_append.1 he with r | r
      · exact .inl ⟨e, r, q⟩
      · rw [List.mem_singleton.1 r] at q
        exact .inr (str_of q).symm
  · exact Chg.turn h0
/-- Entries handed in. -/
def EiA (s : SS) (W : Option Addr) (xs : List EnI) : Prop := (W = none ∧ xs = []) ∨ ∃ b r cs, W = some ⟨b, 0, none⟩ ∧ b < s.next ∧ lookH s.heap b = some (.cells cs tEn13 true r) ∧ ∀ (i : Nat) x, xs[i]? = some x → takeN 3 (cs.drop (i * 3)) = some (eiC x)
theorem EiA.q {s : SS} {W : Option Addr} {xs : List EnI} (h : EiA s W xs) (k : Nat) : EiQ s W (xs.take k) := by
  rcases h with ⟨_, rfl⟩ | ⟨b, r, cs, h1, h2, h3, h4⟩
  · exact .inl (by simp)
  · refine .inr ⟨b, _, _, _, cs, h1, h2, h3, fun i x hx => h4 i x ?_⟩
    rw [List.getElem?_take] at hx
    split at hx
    · exact hx
    · cases hx
theorem EiA.nil {s s' : SS} {W : Option Addr} {xs : List EnI} (h : EiA s W xs) (c : Chg s s' []) : EiA s' W xs := by
  rcases h with h | ⟨b, r, cs, rfl, h1, h2, h3⟩
  · exact .inl h
  · exact .inr ⟨b, r, cs, rfl, Nat.lt_of_lt_of_le h1 c.next, c.blk _ _ h1 (by simp) h2, h3⟩
theorem ei_slL {s : SS} {W : Option Addr} {xs : List EnI} (h : EiA s W xs) : (W = none → xs.length = 0) ∧ ∀ a, W = some a → a.spot = none ∧ ∃ c t r, lookH s.heap a.block = some (.cells c t true r) ∧ sizeB pr t = some 3 := by
  rcases h with ⟨h1, h2⟩ | ⟨b, r, cs, h1, h2, h3, _⟩
  · exact ⟨fun _ => by rw [h2]; rfl, fun a q => by rw [h1] at q; cases q⟩
  · exact ⟨fun q => (by rw [h1] at q; cases q), fun a q => by rw [h1] at q; cases q; exact ⟨rfl, _, _, _, h3, by kernel_rfl⟩⟩
/-- Bytes that a slice reads. -/
def BtR (s : SS) (W : Option Addr) (bt : List UInt8) : Prop := bt = [] ∨ ∃ b t g r, W = some ⟨b, 0, none⟩ ∧ b < s.next ∧ lookH s.heap b = some (.cells (bytesV bt) t g r)
theorem BtR.nil {s s' : SS} {W : Option Addr} {bt : List UInt8} (h : BtR s W bt) (c : Chg s s' []) : BtR s' W bt := by
  rcases h with h | ⟨b, t, g, r, rfl, h1, h2⟩
  · exact .inl h
  · exact .inr ⟨b, t, g, r, rfl, Nat.lt_of_lt_of_le h1 c.next, c.blk _ _ h1 (by simp) h2⟩
theorem gen_map {T : TL} {s : SS} {K : RR → Prop} {t : TypeId} (hK : K (.new (.map [] 0) fun id => .map (some id))) : wN pr (.gen (.makeMap t none)) T s K := by
  exact ⟨_, rfl, hK⟩
theorem vsW_next {vs : List (List UInt8)} {i : Nat} {v : List UInt8} (h : vs[i]? = some v) : (vs.map prW).take (i + 1) ++ vs.drop (i + 1) = ((vs.map prW).take i ++ vs.drop i).set i (prW v) := by
  obtain ⟨hi, e⟩ := List.getElem?_eq_some_iff.1 h
  have h1 : (vs.map prW)[i]? = some (prW v) := by rw [List.getElem?_map, h]; rfl
  rw [take_next h1, List.drop_eq_getElem_cons hi, e, List.set_append_right _ _ (by rw [List.length_take, List.length_map]; omega), List.length_take, List.length_map, show i - min i vs.length = 0 by omega, List.append_assoc]
  rfl
theorem slL_mid {T : TL} {s : SS} {K : RR → Prop} {x lo hi : Operand} {b n z k j : Nat} {cs : List Value} {t : TypeId} {r : Bool} {u v : Int} (hx : opd T s.gl x = some (.slice (some ⟨b, 0, none⟩) n 0)) (hb : lookH s.heap b = some (.cells cs t true r)) (hz : sizeB pr t = some z) (hlo : opd T s.gl lo = some (.int .i64 u)) (hhi : opd T s.gl hi = some (.int .i64 v)) (hu : u = (k : Int)) (hv : v = (j : Int)) (hkj : k ≤ j) (hj : j ≤ n)
    (hK : K (.val (.slice (some ⟨b, k * z, none⟩) (j - k) 0))) : wN pr (.slL z x (some lo) (some hi)) T s K := by
  subst hu hv
  simp only [wN, hx, opdO, hlo, hhi, hb, wBnd]
  refine ⟨hz, ⟨by omega, by omega⟩, fun h hh => ?_⟩
  obtain rfl : h = j := by omega
  refine ⟨⟨by omega, by omega⟩, fun a ha => ?_⟩
  obtain rfl : a = k := by omega
  intro o n' ho hn
  subst ho hn
  rw [Nat.zero_add]
  exact hK
def pcL : List (List UInt8) := [[], [35, 32, 97, 58, 32, 98, 10], [10], [32, 32, 9, 10], [32, 35, 32, 120, 10], [110, 111, 116, 104, 105, 110, 103, 32, 97, 116, 32, 97, 108, 108, 10]]
theorem pcL_at {j : Nat} (h : j < 6) : pcL[j]? = some (pcT j) := by
  have : ∀ j < 6, pcL[j]? = some (pcT j) := by decide
  exact this j h
structure BkIx where
  i : Nat
  xs : List EnV
  W : Option Addr
  s : SS
structure BkI (s s1 : SS) (Y : Option Addr) (ys : List EnI) (x : BkIx) : Prop where
  i : x.i ≤ ys.length
  own : EsO x.s x.W x.xs
  map : MapS x.s s.next (x.xs.map fun o => lwF o.e.k)
  vals : ∀ o ∈ x.xs, TsO x.s o.W o.e.vs
  rest : ∀ (j : Nat) y, x.i ≤ j → ys[j]? = some y → TsO x.s y.W y.vs
  away : ∀ o ∈ x.xs, ∀ id ∈ blkOf o.W, ∀ (j : Nat) y, x.i ≤ j → ys[j]? = some y → id ∉ blkOf y.W
  all : OwnR tEn13 x.s Y 0 ys.length (eiCs ys)
  newW : ∀ id ∈ blkOf x.W, s1.next ≤ id
  good : OwnG (x.xs.map (·.e))
  row : rowed (x.xs.map (·.e))
  newV : ∀ o ∈ x.xs, ∀ id ∈ blkOf o.W, s.next + 1 ≤ id
  chg : Chg s x.s []
  nx : s1.next ≤ x.s.next
  few : x.xs.length ≤ x.i
structure BvIx where
  j : Nat
  s : SS
structure RwIx where
  k : Nat
  os : List EnV
  s : SS
structure RwI (sd : SS) (V : Option Addr) (bt : List UInt8) (es : List Ent) (x : RwIx) : Prop where
  k : x.k ≤ es.length
  own : EsO x.s V x.os
  es : x.os.map (·.e) = entI 1 (itP bt es x.k) ++ es.drop x.k
  vals : ∀ o ∈ x.os, TsO x.s o.W o.e.vs
  chg : Chg sd x.s (blkOf V)
set_option maxHeartbeats 8000000 in
theorem back_w {s : SS} {M W : Option Addr} {cw : Nat} {xs : List EnI} {bt : List UInt8} (f : Fine s) (hM : EiA s M xs) (hv : ∀ x ∈ xs, TsH s x.W x.vs) (hb : BtR s W bt) : CallW pr n_law13_LinesBack [.slice M xs.length 0, .slice W bt.length cw] s fun v s' => v = .bool true ∧ Chg s s' [] := by
  refine CallW.run good ok_law13_LinesBack (by simp) rfl ?_
  (try refine pSeq ?_); (repeat(first|refine sb ?_|refine kNo ?_|refine gOn rfl ?_|refine gOff rfl rfl ?_|refine gTup rfl ?_))
  refine gen_map ?_
  (repeat(first|refine sb ?_|refine kNo ?_|refine gOn rfl ?_|refine gOff rfl rfl ?_|refine gTup rfl ?_))
  obtain ⟨m0, m1, m2⟩ := new1_at f (.map [] 0)
  generalize hs0 : ({ s with heap := (s.next, some (.map [] 0)) :: s.heap, next := s.next + 1 } : SS) = s0 at *
  have hn0 : s0.next = s.next + 1 := by rw [← hs0]
  replace m0 : lookH s0.heap s.next = some (.map [] 0) := by rw [← hs0]; exact m0
  have hmap : MapS s0 s.next [] := ⟨by omega, [], 0, m0, by simp, by simp⟩
  intro z hz
  obtain rfl : z = ((min 8 xs.length : Nat) : Int) := by omega
  obtain ⟨hs1, hs2⟩ := ei_slL (hM.nil m1)
  (repeat(first|refine sb ?_|refine kNo ?_|refine gOn rfl ?_|refine gOff rfl rfl ?_|refine gTup rfl ?_))
  refine slL_front rfl rfl rfl (by omega) hs1 hs2 ?_
  have h8 : (xs.take 8).length = min 8 xs.length := List.length_take
  rw [← h8]
  (repeat(first|refine sb ?_|refine kNo ?_|refine gOn rfl ?_|refine gOff rfl rfl ?_|refine gTup rfl ?_))
  refine (few_w m2 ((hM.nil m1).q 8) (fun x hx => (hv x (List.mem_of_mem_take hx)).nil m1) (by omega)).mono fun v s1 q => ?_
  obtain ⟨Y, ys, rfl, oY, hkv, hT, hTn, hA, hY, c1⟩ := q
  have hkl : ys.length ≤ 8 := by
    have := congrArg List.length hkv
    rw [List.length_map, List.length_map] at this
    omega
  have hys : ∀ y ∈ ys, y.k.length ≤ 60 ∧ y.vs.length ≤ 5 ∧ ∀ w ∈ y.vs, w.length ≤ 60 := by
    intro y hy
    have h1 : kvI y ∈ (xs.take 8).map fwE := by rw [← hkv]; exact List.mem_map_of_mem hy
    obtain ⟨x, _, hx⟩ := List.mem_map.1 h1
    obtain ⟨h2, h3⟩ := Prod.mk.inj hx
    rw [← h2, ← h3]
    refine ⟨by rw [List.length_take]; omega, by rw [fwV_len]; omega, fun w hw => ?_⟩
    obtain ⟨v, _, rfl⟩ := List.mem_map.1 hw
    rw [List.length_take]
    omega
  have n1 := c1.next
  have hdis : ∀ (i j : Nat) (x y : EnI), ys[i]? = some x → ys[j]? = some y → i < j → ∀ id ∈ blkOf x.W, id ∉ blkOf y.W := by
    intro i j x y hx hy hij
    obtain ⟨h1, rfl⟩ := List.getElem?_eq_some_iff.1 hx
    obtain ⟨h2, rfl⟩ := List.getElem?_eq_some_iff.1 hy
    exact List.pairwise_iff_getElem.1 hA i j h1 h2 hij
  (repeat(first|refine sb ?_|refine kNo ?_|refine gOn rfl ?_|refine gOff rfl rfl ?_|refine gTup rfl ?_))
  refine pLoop (MW.head good (fun x : BkIx => ys.length - x.i) (BkI s s1 Y ys)
    (fun x => [(1, .slice W bt.length cw), (5, .slice x.W x.xs.length 0), (6, .map (some s.next)), (27, .slice Y ys.length 0), (28, .int .i64 (ys.length : Int)), (29, .int .i64 (x.i : Int))]) (fun x => x.s) ⟨0, [], none, s1⟩ ⟨Nat.zero_le _, ⟨rfl, rfl, rfl⟩, hmap.chg c1 (by simp), by simp, fun j y _ hy => hT y (List.mem_of_getElem? hy), by simp, oY, by simp [blkOf], ⟨by simp [unlike], by simp, by simp⟩, (by intro i e h; cases h), by simp, m1.nil c1, Nat.le_refl _, Nat.le_refl _⟩ (Wk.same ⟨rfl, rfl, rfl, rfl, rfl, rfl, trivial⟩) ?_)
  rintro ⟨i, os, V, sa⟩ I
  have hi := I.i
  dsimp only at hi ⊢
  (repeat(first|refine sb ?_|refine kNo ?_|refine gOn rfl ?_|refine gOff rfl rfl ?_|refine gTup rfl ?_))
  intro q hq
  by_cases hlt : i < ys.length
  · obtain rfl : q = true := by rw [hq]; simp; omega
    obtain ⟨y, hyi⟩ : ∃ y, ys[i]? = some y := ⟨_, List.getElem?_eq_getElem hlt⟩
    obtain ⟨hy1, hy2, hy3⟩ := hys y (List.mem_of_getElem? hyi)
    obtain ⟨b, g, rfl, kb⟩ := I.all.pos (by omega)
    have kb : lookH sa.heap b = some (.cells (eiCs ys) tEn13 g false) := kb
    (repeat(first|refine sb ?_|refine kNo ?_|refine gOn rfl ?_|refine gOff rfl rfl ?_|refine gTup rfl ?_))
    refine ⟨by omega, ?_⟩
    intro m hm o ho
    obtain rfl : m = i := by omega
    (repeat(first|refine sb ?_|refine kNo ?_|refine gOn rfl ?_|refine gOff rfl rfl ?_|refine gTup rfl ?_))
    refine ldN_is rfl kb (by rw [ho, Nat.zero_add]; exact eiCs_take hyi) ?_
    (repeat(first|refine sb ?_|refine kNo ?_|refine gOn rfl ?_|refine gOff rfl rfl ?_|refine gTup rfl ?_))
    refine st_abs (cs' := eiC y) rfl rfl lkH (Nat.lt_succ_self _) rfl rfl fun s2 e2 c2 n2 => ?_
    have n2 : s2.next = sa.next + 1 := n2
    have c2 : Chg sa s2 [] := (Chg.new []).fresh c2 (by simp)
    (repeat(first|refine sb ?_|refine kNo ?_|refine gOn rfl ?_|refine gOff rfl rfl ?_|refine gTup rfl ?_))
    refine ldS_is (l := y.k) rfl e2 rfl ?_
    (repeat(first|refine sb ?_|refine kNo ?_|refine gOn rfl ?_|refine gOff rfl rfl ?_|refine gTup rfl ?_))
    refine (printed13_w (by omega)).mono fun v s3 q => ?_
    obtain ⟨rfl, c3⟩ := q
    have e3 := c3.blk _ _ (show sa.next < s2.next by omega) (by simp) e2
    have n3 := c3.next
    (repeat(first|refine sb ?_|refine kNo ?_|refine gOn rfl ?_|refine gOff rfl rfl ?_|refine gTup rfl ?_))
    refine st_abs (cs' := eiC ⟨y.n, prW y.k, y.W, y.vs⟩) rfl rfl e3 (show sa.next < s3.next by omega) rfl rfl fun s4 e4 c4 n4 => ?_
    have n4 : s4.next = s3.next := n4
    have c4 : Chg sa s4 [] := (c2.nil c3).fresh c4 (by simp)
    (repeat(first|refine sb ?_|refine kNo ?_|refine gOn rfl ?_|refine gOff rfl rfl ?_|refine gTup rfl ?_))
    refine ld1_is rfl e4 rfl ?_
    have hT4 := (I.rest m y (Nat.le_refl _) hyi).chg c4 (fun _ _ q => by cases q)
    (repeat(first|refine sb ?_|refine kNo ?_|refine gOn rfl ?_|refine gOff rfl rfl ?_|refine gTup rfl ?_))
    refine pLoop (MW.head good (fun x : BvIx => y.vs.length - x.j) (fun x => x.j ≤ y.vs.length ∧ OwnR tS x.s y.W 0 y.vs.length (strV ((y.vs.map prW).take x.j ++ y.vs.drop x.j)) ∧ lookH x.s.heap sa.next = some (.cells (eiC ⟨y.n, prW y.k, y.W, y.vs⟩) tEn13 false false) ∧ Chg s4 x.s (blkOf y.W))
      (fun x => [(1, .slice W bt.length cw), (5, .slice V os.length 0), (6, .map (some s.next)), (8, ptrV sa.next), (27, .slice (some ⟨b, 0, none⟩) ys.length 0), (28, .int .i64 (ys.length : Int)), (29, .int .i64 (m : Int)), (39, .int .i64 (y.vs.length : Int)), (40, .int .i64 (x.j : Int))]) (fun x => x.s) ⟨0, s4⟩ ⟨Nat.zero_le _, hT4, e4, .refl _ _⟩ (Wk.same ⟨rfl, rfl, rfl, rfl, rfl, rfl, rfl, rfl, rfl, trivial⟩) ?_)
    rintro ⟨j, s5⟩ ⟨hj, oT5, e5, c5⟩
    dsimp only at hj oT5 e5 c5 ⊢
    have f5 := c5.fine (c4.fine (I.chg.fine f))
    (repeat(first|refine sb ?_|refine kNo ?_|refine gOn rfl ?_|refine gOff rfl rfl ?_|refine gTup rfl ?_))
    intro q hq
    by_cases hjlt : j < y.vs.length
    · obtain rfl : q = true := by rw [hq]; simp; omega
      obtain ⟨v, hvj⟩ : ∃ v, y.vs[j]? = some v := ⟨_, List.getElem?_eq_getElem hjlt⟩
      obtain ⟨bv, gv, hWv, kv⟩ := oT5.pos (by omega)
      rw [hWv] at c5 oT5 e5 ⊢
      (repeat(first|refine sb ?_|refine kNo ?_|refine gOn rfl ?_|refine gOff rfl rfl ?_|refine gTup rfl ?_))
      refine ld1_is rfl e5 rfl ?_
      (repeat(first|refine sb ?_|refine kNo ?_|refine gOn rfl ?_|refine gOff rfl rfl ?_|refine gTup rfl ?_))
      refine ld1_is rfl e5 rfl ?_
      (repeat(first|refine sb ?_|refine kNo ?_|refine gOn rfl ?_|refine gOff rfl rfl ?_|refine gTup rfl ?_))
      refine ⟨⟨by omega, by dsimp only; omega⟩, ?_⟩
      intro m2 hm2 o2 ho2
      obtain rfl : m2 = j := by omega
      have hmid : ((y.vs.map prW).take m2 ++ y.vs.drop m2)[m2]? = some v := by
        rw [List.getElem?_append_right (by rw [List.length_take, List.length_map]; omega), List.length_take, List.length_map, show m2 - min m2 y.vs.length = 0 by omega, List.getElem?_drop]
        exact hvj
      (repeat(first|refine sb ?_|refine kNo ?_|refine gOn rfl ?_|refine gOff rfl rfl ?_|refine gTup rfl ?_))
      refine ldS_is (l := v) rfl kv (by rw [ho2, Nat.zero_add, Nat.mul_one]; exact strV_get hmid) ?_
      have hvl := hy3 v (List.mem_of_getElem? hvj)
      (repeat(first|refine sb ?_|refine kNo ?_|refine gOn rfl ?_|refine gOff rfl rfl ?_|refine gTup rfl ?_))
      refine (printed13_w (by omega)).mono fun u s6 q => ?_
      obtain ⟨rfl, c6⟩ := q
      have e6 := c6.blk _ _ (show sa.next < s5.next by have := c5.next; omega) (by simp) e5
      (repeat(first|refine sb ?_|refine kNo ?_|refine gOn rfl ?_|refine gOff rfl rfl ?_|refine gTup rfl ?_))
      refine kAll (c6.keep f5) ?_
      (repeat(first|refine sb ?_|refine kNo ?_|refine gOn rfl ?_|refine gOff rfl rfl ?_|refine gTup rfl ?_))
      refine ⟨⟨by omega, by dsimp only; omega⟩, ?_⟩
      intro m3 hm3 o3 ho3
      obtain rfl : m3 = m2 := by omega
      have lv := oT5.lt bv (by simp [blkOf])
      have kv6 := c6.blk _ _ lv (by simp) kv
      have hnx := vsW_next hvj
      (repeat(first|refine sb ?_|refine kNo ?_|refine gOn rfl ?_|refine gOff rfl rfl ?_|refine gTup rfl ?_))
      refine st_abs (cs' := strV ((y.vs.map prW).take (m3 + 1) ++ y.vs.drop (m3 + 1))) rfl rfl kv6 (Nat.lt_of_lt_of_le lv c6.next) rfl ?_ fun s7 e7 c7 n7 => ?_
      · rw [hnx, ho3, Nat.zero_add, Nat.mul_one]
        refine (setRow_one (by unfold strV; rw [List.length_map, List.length_append, List.length_take, List.length_drop, List.length_map]; omega)).trans ?_
        unfold strV
        rw [List.map_set]
      (repeat(first|refine sb ?_|refine kNo ?_|refine gOn rfl ?_|refine gOff rfl rfl ?_|refine gTup rfl ?_))
      intro z hz
      rw [i64_id (by omega)] at hz
      (repeat(first|refine sb ?_|refine kNo ?_|refine gOn rfl ?_|refine gOff rfl rfl ?_|refine gTup rfl ?_))
      have hbl : bv < sa.next := (I.rest m y (Nat.le_refl _) hyi).lt bv (by rw [hWv]; simp [blkOf])
      have hfu : gv = false → 0 = y.vs.length := by
        obtain ⟨-, -, -, g', h4, h5⟩ := oT5
        have kv' := kv
        rw [h4] at kv'
        cases kv'
        exact h5
      refine ⟨⟨m3 + 1, s7⟩, ⟨by show m3 + 1 ≤ y.vs.length; omega, ⟨rfl, rfl, Nat.lt_of_lt_of_le lv (c6.nil c7).next, gv, e7, hfu⟩, c7.blk _ _ (Nat.lt_of_lt_of_le (show sa.next < s4.next by omega) (c5.trans c6).next) (by simp; omega) e6, c5.trans' (c6.nil c7) (fun _ q _ => q) (fun _ q _ => by simpa [blkOf] using q)⟩, by show y.vs.length - (m3 + 1) < y.vs.length - m3; omega, Wk.same ⟨rfl, rfl, rfl, rfl, rfl, rfl, rfl, rfl, by rw [show z = ((m3 + 1 : Nat) : Int) by omega]; rfl, trivial⟩⟩
    · obtain rfl : q = false := by rw [hq]; simp; omega
      obtain rfl : j = y.vs.length := by omega
      rw [List.take_of_length_le (by rw [List.length_map]; omega), List.drop_length, List.append_nil] at oT5
      (repeat(first|refine sb ?_|refine kNo ?_|refine gOn rfl ?_|refine gOff rfl rfl ?_|refine gTup rfl ?_))
      have f5 := f5
      have hWn : ∀ id ∈ blkOf y.W, s.next + 1 ≤ id := fun id q => by have := hTn y (List.mem_of_getElem? hyi) id q; omega
      have hWl : ∀ id ∈ blkOf y.W, id < sa.next := fun id q => (I.rest m y (Nat.le_refl _) hyi).lt id q
      have own5 : EsO s5 V os := (I.own.chg c4 (fun _ _ q => by cases q)).chg c5 (tyNeO (I.own.chg c4 (fun _ _ q => by cases q)) hT4 (by decide))
      have all5 := (I.all.chg c4 (fun _ _ q => by cases q)).chg c5 (tyNeO (I.all.chg c4 (fun _ _ q => by cases q)) hT4 (by decide))
      have map5 : MapS s5 s.next (os.map fun o => lwF o.e.k) := (I.map.chg c4 (by simp)).chg c5 (fun q => by have := hWn _ q; omega)
      have vals5 : ∀ o ∈ os, TsO s5 o.W o.e.vs := fun o ho => ((I.vals o ho).chg c4 (fun _ _ q => by cases q)).chg c5 (fun id q => I.away o ho id q m y (Nat.le_refl _) hyi)
      have rest5 : ∀ (j : Nat) y', m + 1 ≤ j → ys[j]? = some y' → TsO s5 y'.W y'.vs := fun j y' hj hy' => ((I.rest j y' (by show m ≤ j; omega) hy').chg c4 (fun _ _ q => by cases q)).chg c5 (fun id q q2 => hdis m j y y' hyi hy' (by omega) id q2 q)
      have c05 : Chg s s5 [] := (I.chg.nil c4).fresh c5 (fun id q => by have := hWn id q; omega)
      have nx5 : s1.next ≤ s5.next := Nat.le_trans I.nx (Nat.le_trans c4.next c5.next)
      have l5 : sa.next < s5.next := Nat.lt_of_lt_of_le (show sa.next < s4.next by omega) c5.next
      refine ldS_is (l := prW y.k) rfl e5 rfl ?_
      (repeat(first|refine sb ?_|refine kNo ?_|refine gOn rfl ?_|refine gOff rfl rfl ?_|refine gTup rfl ?_))
      refine (toLower_w (l := prW y.k) (by rw [pr_len]; omega) (pr_asc _)).mono fun u s6 q => ?_
      obtain ⟨rfl, rfl⟩ := q
      rw [lower_map, show (prW y.k).map lowB = lwF (prW y.k) from rfl]
      (repeat(first|refine sb ?_|refine kNo ?_|refine gOn rfl ?_|refine gOff rfl rfl ?_|refine gTup rfl ?_))
      have J : BkI s s1 (some ⟨b, 0, none⟩) ys ⟨m + 1, os, V, s6⟩ := ⟨by show m + 1 ≤ _; omega, own5, map5, vals5, rest5, fun o ho id q j y' hj hy' => I.away o ho id q j y' (by have : m + 1 ≤ j := hj; show m ≤ j; omega) hy', all5, I.newW, I.good, I.row, I.newV, c05, nx5, Nat.le_trans I.few (Nat.le_succ m)⟩
      have hosl : os.length ≤ m := I.few
      intro q hq
      by_cases h0 : lwF (prW y.k) = []
      · obtain rfl : q = false := by rw [hq]; simp [h0]
        (repeat(first|refine sb ?_|refine kNo ?_|refine gOn rfl ?_|refine gOff rfl rfl ?_|refine gTup rfl ?_))
        intro z hz
        rw [i64_id (by omega)] at hz
        (repeat(first|refine sb ?_|refine kNo ?_|refine gOn rfl ?_|refine gOff rfl rfl ?_|refine gTup rfl ?_))
        exact ⟨⟨m + 1, os, V, s6⟩, J, by show ys.length - (m + 1) < ys.length - m; omega, Wk.same ⟨rfl, rfl, rfl, rfl, rfl, by rw [show z = ((m + 1 : Nat) : Int) by omega]; rfl, trivial⟩⟩
      obtain rfl : q = true := by rw [hq]; simp [h0]
      (repeat(first|refine sb ?_|refine kNo ?_|refine gOn rfl ?_|refine gOff rfl rfl ?_|refine gTup rfl ?_))
      refine lookS_w map5 rfl rfl rfl ?_
      by_cases h1 : lwF (prW y.k) ∈ os.map fun o => lwF o.e.k
      · rw [if_pos h1]
        (repeat(first|refine sb ?_|refine kNo ?_|refine gOn rfl ?_|refine gOff rfl rfl ?_|refine gTup rfl ?_))
        intro q hq
        obtain rfl : q = false := by rw [hq]; rfl
        (repeat(first|refine sb ?_|refine kNo ?_|refine gOn rfl ?_|refine gOff rfl rfl ?_|refine gTup rfl ?_))
        intro z hz
        rw [i64_id (by omega)] at hz
        (repeat(first|refine sb ?_|refine kNo ?_|refine gOn rfl ?_|refine gOff rfl rfl ?_|refine gTup rfl ?_))
        exact ⟨⟨m + 1, os, V, s6⟩, J, by show ys.length - (m + 1) < ys.length - m; omega, Wk.same ⟨rfl, rfl, rfl, rfl, rfl, by rw [show z = ((m + 1 : Nat) : Int) by omega]; rfl, trivial⟩⟩
      rw [if_neg h1]
      (repeat(first|refine sb ?_|refine kNo ?_|refine gOn rfl ?_|refine gOff rfl rfl ?_|refine gTup rfl ?_))
      intro q hq
      obtain rfl : q = true := by rw [hq]; rfl
      (repeat(first|refine sb ?_|refine kNo ?_|refine gOn rfl ?_|refine gOff rfl rfl ?_|refine gTup rfl ?_))
      refine ld1_is rfl e5 rfl ?_
      (repeat(first|refine sb ?_|refine kNo ?_|refine gOn rfl ?_|refine gOff rfl rfl ?_|refine gTup rfl ?_))
      intro q hq
      by_cases h2 : y.vs = []
      · obtain rfl : q = false := by rw [hq]; simp [h2]
        (repeat(first|refine sb ?_|refine kNo ?_|refine gOn rfl ?_|refine gOff rfl rfl ?_|refine gTup rfl ?_))
        intro z hz
        rw [i64_id (by omega)] at hz
        (repeat(first|refine sb ?_|refine kNo ?_|refine gOn rfl ?_|refine gOff rfl rfl ?_|refine gTup rfl ?_))
        exact ⟨⟨m + 1, os, V, s6⟩, J, by show ys.length - (m + 1) < ys.length - m; omega, Wk.same ⟨rfl, rfl, rfl, rfl, rfl, by rw [show z = ((m + 1 : Nat) : Int) by omega]; rfl, trivial⟩⟩
      obtain rfl : q = true := by rw [hq]; have := List.length_pos_iff.2 h2; simp; omega
      (repeat(first|refine sb ?_|refine kNo ?_|refine gOn rfl ?_|refine gOff rfl rfl ?_|refine gTup rfl ?_))
      have nsa : s1.next ≤ sa.next := I.nx
      have hVn : ∀ id ∈ blkOf V, s1.next ≤ id := I.newW
      have hVl : ∀ id ∈ blkOf V, id < sa.next := fun id q => I.own.lt id q
      have hYl : ∀ id ∈ blkOf (some (⟨b, 0, none⟩ : Addr)), id < s1.next := fun id q => oY.lt id q
      have hoV : ∀ o ∈ os, ∀ id ∈ blkOf o.W, s.next + 1 ≤ id := I.newV
      have hoL : ∀ o ∈ os, ∀ id ∈ blkOf o.W, id < sa.next := fun o ho id q => (I.vals o ho).lt id q
      have hrV : ∀ (j : Nat) y', ys[j]? = some y' → ∀ id ∈ blkOf y'.W, s.next + 1 ≤ id := fun j y' hy' id q => by have := hTn y' (List.mem_of_getElem? hy') id q; omega
      have hrL : ∀ (j : Nat) y', m ≤ j → ys[j]? = some y' → ∀ id ∈ blkOf y'.W, id < sa.next := fun j y' hj hy' id q => (I.rest j y' hj hy').lt id q
      refine updS_w map5 rfl rfl rfl rfl h1 (fun s7 map7 c7 n7 => ?_)
      have e7 := c7.blk _ _ l5 (by simp; omega) e5
      (repeat(first|refine sb ?_|refine kNo ?_|refine gOn rfl ?_|refine gOff rfl rfl ?_|refine gTup rfl ?_))
      intro z hz
      rw [i64_id (by omega)] at hz
      obtain rfl : z = ((os.length + 1 : Nat) : Int) := by omega
      (repeat(first|refine sb ?_|refine kNo ?_|refine gOn rfl ?_|refine gOff rfl rfl ?_|refine gTup rfl ?_))
      refine st_abs (cs' := eiC ⟨((os.length + 1 : Nat) : Int), prW y.k, y.W, y.vs⟩) rfl rfl e7 (show sa.next < s7.next by omega) rfl rfl fun s8 e8 c8 n8 => ?_
      have n8 : s8.next = s7.next := n8
      have f8 := c8.fine (c7.fine f5)
      obtain ⟨p0, p1, p2⟩ := new1_at f8 (.cells (eiC ⟨((os.length + 1 : Nat) : Int), prW y.k, y.W, y.vs⟩) tEn13 false false)
      have own8 := ((own5.chg c7 (fun id q => by have := hVn id q; simp; omega)).chg c8 (fun id q => by have := hVl id q; simp; omega)).chg p1 (fun _ _ q => by cases q)
      have all8 := ((all5.chg c7 (fun id q => by have := hY id q; simp; omega)).chg c8 (fun id q => by have := hYl id q; simp; omega)).chg p1 (fun _ _ q => by cases q)
      have map8 := (map7.chg c8 (by simp; omega)).chg p1 (by simp)
      have vals8 := fun o (ho : o ∈ os) => (((vals5 o ho).chg c7 (fun id q => by have := hoV o ho id q; simp; omega)).chg c8 (fun id q => by have := hoL o ho id q; simp; omega)).chg p1 (fun _ _ q => by cases q)
      have rest8 := fun (j : Nat) y' (hj : m + 1 ≤ j) (hy' : ys[j]? = some y') => (((rest5 j y' hj hy').chg c7 (fun id q => by have := hrV j y' hy' id q; simp; omega)).chg c8 (fun id q => by have := hrL j y' (by omega) hy' id q; simp; omega)).chg p1 (fun _ _ q => by cases q)
      have me8 := ((oT5.chg c7 (fun id q => by have := hWn id q; simp; omega)).chg c8 (fun id q => by have := hWl id q; simp; omega)).chg p1 (fun _ _ q => by cases q)
      (repeat(first|refine sb ?_|refine kNo ?_|refine gOn rfl ?_|refine gOff rfl rfl ?_|refine gTup rfl ?_))
      refine ldN_is rfl e8 rfl ?_
      (repeat(first|refine sb ?_|refine kNo ?_|refine gOn rfl ?_|refine gOff rfl rfl ?_|refine gTup rfl ?_))
      refine appR own8 (enCs_len os) ⟨by omega, by omega⟩ rfl rfl p0 rfl rfl fun s9 o9 c9 n9 => ?_
      have n9 : s9.next = s8.next + 1 + 1 := n9
      have heq : eiC ⟨((os.length + 1 : Nat) : Int), prW y.k, y.W, y.vs⟩ = enC ⟨⟨os.length + 1, prW y.k, y.vs.map prW⟩, y.W⟩ := by unfold eiC enC; simp
      rw [heq] at o9
      have hme : os.map (·.e) ++ [⟨os.length + 1, prW y.k, y.vs.map prW⟩] = (os ++ [(⟨⟨os.length + 1, prW y.k, y.vs.map prW⟩, y.W⟩ : EnV)]).map (·.e) := by rw [List.map_append]; rfl
      have J2 : BkI s s1 (some ⟨b, 0, none⟩) ys ⟨m + 1, os ++ [⟨⟨os.length + 1, prW y.k, y.vs.map prW⟩, y.W⟩], some ⟨s8.next + 1, 0, none⟩, s9⟩ := by
        refine ⟨by show m + 1 ≤ _; omega, ?_, ?_, ?_, ?_, ?_, ?_, ?_, ?_, ?_, ?_, ?_, ?_, ?_⟩
        · show OwnR tEn13 s9 _ 0 (os ++ [_]).length (enCs (os ++ [_]))
          rw [List.length_append, enCs_app]
          exact o9
        · show MapS s9 s.next ((os ++ [_]).map _)
          rw [List.map_append]
          exact map8.chg c9 (fun q => by have := hVn _ q; omega)
        · intro o ho
          rcases List.mem_append.1 ho with ho | ho
          · exact (vals8 o ho).chg c9 (tyNeO (vals8 o ho) own8 (by decide))
          · rw [List.mem_singleton] at ho
            subst ho
            show OwnR tS s9 y.W 0 (y.vs.map prW).length (strV (y.vs.map prW))
            rw [List.length_map]
            exact me8.chg c9 (tyNeO me8 own8 (by decide))
        · exact fun j y' hj hy' => (rest8 j y' hj hy').chg c9 (tyNeO (rest8 j y' hj hy') own8 (by decide))
        · intro o ho id q j y' hj hy'
          have hj : m + 1 ≤ j := hj
          rcases List.mem_append.1 ho with ho | ho
          · exact I.away o ho id q j y' (by show m ≤ j; omega) hy'
          · rw [List.mem_singleton] at ho
            subst ho
            exact hdis m j y y' hyi hy' (by omega) id q
        · exact all8.chg c9 (fun id q q2 => by have := hYl id q; have := hVn id q2; omega)
        · intro id q
          simp [blkOf] at q
          show s1.next ≤ id
          omega
        · show OwnG ((os ++ [_]).map _)
          rw [← hme]
          have good : OwnG (os.map (·.e)) := I.good
          refine good.more (by rw [List.length_map]; omega) hy1 hy2 hy3 (fun e => h0 (by rw [e]; rfl)) h2 fun e he hl => h1 ?_
          obtain ⟨o, ho, rfl⟩ := List.mem_map.1 he
          rw [← hl]
          exact List.mem_map_of_mem (f := fun o : EnV => lwF o.e.k) ho
        · show rowed ((os ++ [_]).map _)
          rw [← hme]
          have roww : rowed (os.map (·.e)) := I.row
          have := roww.more (k := prW y.k) (vs := y.vs.map prW)
          rw [List.length_map] at this
          exact this
        · intro o ho
          rcases List.mem_append.1 ho with ho | ho
          · exact hoV o ho
          · rw [List.mem_singleton] at ho
            subst ho
            exact hWn
        · exact (((c05.fresh c7 (by simp)).fresh c8 (by simp; omega)).nil p1).fresh c9 (fun id q => by have := hVn id q; omega)
        · show s1.next ≤ s9.next
          omega
        · show (os ++ [_]).length ≤ m + 1
          rw [List.length_append, List.length_singleton]
          omega
      (repeat(first|refine sb ?_|refine kNo ?_|refine gOn rfl ?_|refine gOff rfl rfl ?_|refine gTup rfl ?_))
      intro z hz
      rw [i64_id (by omega)] at hz
      (repeat(first|refine sb ?_|refine kNo ?_|refine gOn rfl ?_|refine gOff rfl rfl ?_|refine gTup rfl ?_))
      exact ⟨⟨m + 1, _, _, s9⟩, J2, by show ys.length - (m + 1) < ys.length - m; omega, Wk.same ⟨rfl, by rw [List.length_append]; rfl, rfl, rfl, rfl, by rw [show z = ((m + 1 : Nat) : Int) by omega]; rfl, trivial⟩⟩
  · obtain rfl : q = false := by rw [hq]; simp; omega
    obtain rfl : i = ys.length := by omega
    (repeat(first|refine sb ?_|refine kNo ?_|refine gOn rfl ?_|refine gOff rfl rfl ?_|refine gTup rfl ?_))
    have ownA : EsO sa V os := I.own
    have goodA : OwnG (os.map (·.e)) := I.good
    have rowA : rowed (os.map (·.e)) := I.row
    have valsA : ∀ o ∈ os, TsO sa o.W o.e.vs := I.vals
    have cA : Chg s sa [] := I.chg
    have hVn : ∀ id ∈ blkOf V, s1.next ≤ id := I.newW
    have os8 : os.length ≤ 8 := by have := goodA.n8; rwa [List.length_map] at this
    have htx := txE0_len goodA
    have hok : ∀ o ∈ os, asc o.e.k ∧ o.e.k.length ≤ 60 ∧ o.e.vs.length ≤ 5 ∧ ∀ w ∈ o.e.vs, asc w ∧ w.length ≤ 60 := fun o ho => by
      obtain ⟨_, h1, h2, h3, h4, h5⟩ := goodA.ok o.e (List.mem_map_of_mem ho)
      exact ⟨h4, h1, h2, fun w hw => ⟨h5 w hw, h3 w hw⟩⟩
    clear I
    refine (text13_w (cA.fine f) (EsR.q (EsO.rd ownA)) (by omega) (fun o ho => by
      obtain ⟨h1, h2, h3, h4⟩ := hok o ho
      exact ⟨TsO.rd (valsA o ho), h1, by omega, by omega, fun w hw => ⟨(h4 w hw).1, by have := (h4 w hw).2; omega⟩⟩) (by omega)).mono fun v sB q => ?_
    obtain ⟨rfl, cb⟩ := q
    (repeat(first|refine sb ?_|refine kNo ?_|refine gOn rfl ?_|refine gOff rfl rfl ?_|refine gTup rfl ?_))
    refine (parse13_w (l := txE (os.map (·.e))) (vals := true) (cb.fine (cA.fine f)) (by omega)).mono fun v sc q => ?_
    obtain ⟨G, H, cv, gs, fs, rfl, hTb, hG, hF, hH, cc⟩ := q
    rw [tab0 goodA rowA] at hTb
    obtain ⟨hgs, rfl⟩ := Prod.mk.inj hTb
    have gl : gs.length = os.length := by have := congrArg List.length hgs; rwa [List.length_map, List.length_map] at this
    have cbc := cb.nil cc
    have ownC := ownA.chg cbc (fun _ _ q => by cases q)
    have valsC := fun o (ho : o ∈ os) => (valsA o ho).chg cbc (fun _ _ q => by cases q)
    have fC := cc.fine (cb.fine (cA.fine f))
    have hkv2 : gs.map kvV = os.map kvV := by
      have := congrArg (List.map fun e : Ent => (e.k, e.vs)) hgs
      rwa [List.map_map, List.map_map] at this
    (repeat(first|refine sb ?_|refine kNo ?_|refine gOn rfl ?_|refine gOff rfl rfl ?_|refine gTup rfl ?_))
    intro q hq
    obtain rfl : q = false := by rw [hq]; rfl
    (repeat(first|refine sb ?_|refine kNo ?_|refine gOn rfl ?_|refine gOff rfl rfl ?_|refine gTup rfl ?_))
    refine (eqLk_w fC (EsO.rd hG.own) (EsO.rd ownC) hkv2 (by omega) (fun x hx => ⟨TsO.rd (hG.vals x hx), ?_⟩) (fun x hx => TsO.rd (valsC x hx))).mono fun v sd q => ?_
    · have h1 : kvV x ∈ os.map kvV := by rw [← hkv2]; exact List.mem_map_of_mem hx
      obtain ⟨o, ho, he⟩ := List.mem_map.1 h1
      have := (hok o ho).2.2.1
      rw [← (Prod.mk.inj he).2]
      omega
    obtain ⟨rfl, cd⟩ := q
    (repeat(first|refine sb ?_|refine kNo ?_|refine gOn rfl ?_|refine gOff rfl rfl ?_|refine gTup rfl ?_))
    intro q hq
    obtain rfl : q = false := by rw [hq]; rfl
    (repeat(first|refine sb ?_|refine kNo ?_|refine gOn rfl ?_|refine gOff rfl rfl ?_|refine gTup rfl ?_))
    have cD : Chg s sd [] := cA.nil (cbc.nil cd)
    have ownD := ownC.chg cd (fun _ _ q => by cases q)
    have valsD := fun o (ho : o ∈ os) => (valsC o ho).chg cd (fun _ _ q => by cases q)
    have gsD : EsO sd G gs := hG.own.chg cd (fun _ _ q => by cases q)
    have hGV : ∀ id ∈ blkOf G, id ∉ blkOf V := fun id q q2 => by
      have h1 := hG.newW id q
      have h2 := ownA.lt id q2
      have h3 := cb.next
      omega
    have fD := cD.fine f
    have btD := hb.nil cD
    have hVs : ∀ id ∈ blkOf V, s.next ≤ id := fun id q => by have := hVn id q; have := m1.next; omega
    clear hTb valsC hT hTn hA hkv hys hdis oY ownA valsA ownC htx
    generalize hes : os.map (·.e) = es at *
    have esl : es.length = os.length := by rw [← hes, List.length_map]
    refine pLoop (MW.head good (fun x : RwIx => es.length - x.k) (RwI sd V bt es)
      (fun x => [(1, .slice W bt.length cw), (5, .slice V es.length 0), (11, .slice G gs.length 0), (13, fnV n_law13_LinesBack_1), (14, str (txI (itP bt es x.k))), (15, .int .i64 ((fltI 1 (itP bt es x.k)).length : Int)), (16, .int .i64 ((itP bt es x.k).length : Int)), (98, .slice V es.length 0), (99, .int .i64 (es.length : Int)), (100, .int .i64 (x.k : Int))]) (fun x => x.s) ⟨0, os, sd⟩ ⟨Nat.zero_le _, ownD, hes, valsD, .refl _ _⟩ (Wk.same ⟨rfl, by rw [esl]; rfl, rfl, rfl, rfl, rfl, rfl, by rw [esl]; rfl, by rw [esl]; rfl, rfl, trivial⟩) ?_)
    rintro ⟨k, xs2, s1'⟩ J
    have hk := J.k
    have own1 : EsO s1' V xs2 := J.own
    have hes1 : xs2.map (·.e) = entI 1 (itP bt es k) ++ es.drop k := J.es
    have vals1 : ∀ o ∈ xs2, TsO s1' o.W o.e.vs := J.vals
    have c1' : Chg sd s1' (blkOf V) := J.chg
    clear J
    dsimp only at hk ⊢
    have hil := entP_len (bt := bt) (es := es) hk
    have xl : xs2.length = es.length := by
      have := congrArg List.length hes1
      rw [List.length_map, List.length_append, List.length_drop] at this
      omega
    obtain ⟨hi1, hi2⟩ := itP_len (bt := bt) (es := es) k hk
    obtain ⟨hi3, hi4⟩ := pcB_len bt k
    have hi5 := txP_len goodA (bt := bt) k hk
    have hi6 := pcB_tx bt k
    have es8 := goodA.n8
    have gsE : EsO s1' G gs := gsD.chg c1' hGV
    (repeat(first|refine sb ?_|refine kNo ?_|refine gOn rfl ?_|refine gOff rfl rfl ?_|refine gTup rfl ?_))
    intro q hq
    by_cases hlt : k < es.length
    · obtain rfl : q = true := by rw [hq]; simp; omega
      obtain ⟨e, hek⟩ : ∃ e, es[k]? = some e := ⟨_, List.getElem?_eq_getElem hlt⟩
      obtain ⟨o, hok1⟩ : ∃ e, xs2[k]? = some e := ⟨_, List.getElem?_eq_getElem (by omega)⟩
      obtain ⟨g, hgk⟩ : ∃ e, gs[k]? = some e := ⟨_, List.getElem?_eq_getElem (by omega)⟩
      have hoe : o.e = e := by
        have h1 : (xs2.map (·.e))[k]? = some o.e := by rw [List.getElem?_map, hok1]; rfl
        rw [hes1, List.getElem?_append_right (by omega), hil, List.getElem?_drop, Nat.sub_self, Nat.add_zero, hek] at h1
        exact (Option.some.inj h1).symm
      have hge : g.e = e := by
        have h1 : (gs.map (·.e))[k]? = some g.e := by rw [List.getElem?_map, hgk]; rfl
        rw [hgs, hek] at h1
        exact (Option.some.inj h1).symm
      obtain ⟨b, gb, rfl, kb⟩ := own1.pos (by omega)
      obtain ⟨b2, gb2, rfl, kb2⟩ := gsE.pos (by omega)
      (repeat(first|refine sb ?_|refine kNo ?_|refine gOn rfl ?_|refine gOff rfl rfl ?_|refine gTup rfl ?_))
      refine ⟨by omega, ?_⟩
      intro m hm o1 ho1
      obtain rfl : m = k := by omega
      (repeat(first|refine sb ?_|refine kNo ?_|refine gOn rfl ?_|refine gOff rfl rfl ?_|refine gTup rfl ?_))
      refine ldN_is rfl kb (by rw [ho1, Nat.zero_add]; exact enCs_take hok1) ?_
      (repeat(first|refine sb ?_|refine kNo ?_|refine gOn rfl ?_|refine gOff rfl rfl ?_|refine gTup rfl ?_))
      refine st_abs (cs' := enC o) rfl rfl lkH (Nat.lt_succ_self _) rfl rfl fun s2 e2 c2 n2 => ?_
      have n2 : s2.next = s1'.next + 1 := n2
      have c2 : Chg s1' s2 [] := (Chg.new []).fresh c2 (by simp)
      have kb22 := c2.blk _ _ (gsE.lt b2 (by simp [blkOf])) (by simp) kb2
      (repeat(first|refine sb ?_|refine kNo ?_|refine gOn rfl ?_|refine gOff rfl rfl ?_|refine gTup rfl ?_))
      intro q hq
      obtain rfl : q = false := by rw [hq]; simp; omega
      (repeat(first|refine sb ?_|refine kNo ?_|refine gOn rfl ?_|refine gOff rfl rfl ?_|refine gTup rfl ?_))
      refine ⟨by omega, ?_⟩
      intro m2 hm2 o2 ho2
      obtain rfl : m2 = m := by omega
      (repeat(first|refine sb ?_|refine kNo ?_|refine gOn rfl ?_|refine gOff rfl rfl ?_|refine gTup rfl ?_))
      refine ldI_is (z := e.n) rfl kb22 (by rw [ho2, Nat.zero_add, ← hge]; exact (enCs_at hgk (j := 0) (by decide))) ?_
      (repeat(first|refine sb ?_|refine kNo ?_|refine gOn rfl ?_|refine gOff rfl rfl ?_|refine gTup rfl ?_))
      refine ldI_is (z := e.n) rfl e2 (by rw [← hoe]; rfl) ?_
      (repeat(first|refine sb ?_|refine kNo ?_|refine gOn rfl ?_|refine gOff rfl rfl ?_|refine gTup rfl ?_))
      intro q hq
      obtain rfl : q = false := by rw [hq]; simp
      (repeat(first|refine sb ?_|refine kNo ?_|refine gOn rfl ?_|refine gOff rfl rfl ?_|refine gTup rfl ?_))
      have gbt : gb = true := by
        cases gb with
        | true => rfl
        | false =>
          obtain ⟨-, -, -, g', h4, h5⟩ := own1
          rw [kb] at h4
          cases h4
          have := h5 rfl
          omega
      subst gbt
      have kbs := c2.blk _ _ (own1.lt b (by simp [blkOf])) (by simp) kb
      have lbs : b < s2.next := by have := own1.lt b (by simp [blkOf]); omega
      have btE := hb.nil ((cD.fresh c1' hVs).nil c2)
      intro q hq
      by_cases hbt : m2 < bt.length
      · obtain rfl : q = true := by rw [hq]; simp; omega
        obtain ⟨c, hc⟩ : ∃ c, bt[m2]? = some c := ⟨_, List.getElem?_eq_getElem hbt⟩
        have hP : pcB bt m2 = pcI (c.toNat % 6) := by unfold pcB; rw [hc]
        have h6 : c.toNat % 6 < 6 := Nat.mod_lt _ (by decide)
        obtain ⟨b3, t3, g3, r3, rfl, lb3, kb3⟩ := btE.resolve_left (fun e => by rw [e] at hbt; simp at hbt)
        (repeat(first|refine sb ?_|refine kNo ?_|refine gOn rfl ?_|refine gOff rfl rfl ?_|refine gTup rfl ?_))
        refine st_abs (cs' := strV pcL) rfl rfl lkH (Nat.lt_succ_self _) rfl rfl fun s3 e3 c3 n3 => ?_
        (repeat(first|refine sb ?_|refine kNo ?_|refine gOn rfl ?_|refine gOff rfl rfl ?_|refine gTup rfl ?_))
        have n3 : s3.next = s2.next + 1 := n3
        have c3 : Chg s2 s3 [] := (Chg.new []).fresh c3 (by simp)
        have kb3' := c3.blk _ _ lb3 (by simp) kb3
        have c256 := c.toNat_lt
        refine ⟨by omega, ?_⟩
        intro m3 hm3 o3 ho3
        obtain rfl : m3 = m2 := by omega
        (repeat(first|refine sb ?_|refine kNo ?_|refine gOn rfl ?_|refine gOff rfl rfl ?_|refine gTup rfl ?_))
        refine ldI_is (z := (c.toNat : Int)) rfl kb3' (by rw [ho3, Nat.zero_add, Nat.mul_one]; exact bytesV_at hc) ?_
        (repeat(first|refine sb ?_|refine kNo ?_|refine gOn rfl ?_|refine gOff rfl rfl ?_|refine gTup rfl ?_))
        refine ⟨by decide, ?_⟩
        intro z hz
        obtain rfl : z = ((c.toNat % 6 : Nat) : Int) := by rw [hz]; exact (Int.ofNat_tmod c.toNat 6).symm
        (repeat(first|refine sb ?_|refine kNo ?_|refine gOn rfl ?_|refine gOff rfl rfl ?_|refine gTup rfl ?_))
        refine ⟨by omega, ?_⟩
        intro m4 hm4 o4 ho4
        obtain rfl : m4 = c.toNat % 6 := by omega
        (repeat(first|refine sb ?_|refine kNo ?_|refine gOn rfl ?_|refine gOff rfl rfl ?_|refine gTup rfl ?_))
        refine ldS_is (l := pcT (c.toNat % 6)) rfl e3 (by rw [ho4, Nat.zero_add, Nat.mul_one]; exact strV_get (pcL_at h6)) ?_
        (repeat(first|refine sb ?_|refine kNo ?_|refine gOn rfl ?_|refine gOff rfl rfl ?_|refine gTup rfl ?_))
        have pl := pcT_len (c.toNat % 6)
        refine ⟨by omega, ?_⟩
        intro l hl
        subst hl
        (repeat(first|refine sb ?_|refine kNo ?_|refine gOn rfl ?_|refine gOff rfl rfl ?_|refine gTup rfl ?_))
        refine ⟨by omega, ?_⟩
        intro m5 hm5 o5 ho5
        obtain rfl : m5 = m3 := by omega
        (repeat(first|refine sb ?_|refine kNo ?_|refine gOn rfl ?_|refine gOff rfl rfl ?_|refine gTup rfl ?_))
        refine ldI_is (z := (c.toNat : Int)) rfl kb3' (by rw [ho5, Nat.zero_add, Nat.mul_one]; exact bytesV_at hc) ?_
        (repeat(first|refine sb ?_|refine kNo ?_|refine gOn rfl ?_|refine gOff rfl rfl ?_|refine gTup rfl ?_))
        refine ⟨by decide, ?_⟩
        intro z hz
        obtain rfl : z = ((c.toNat % 6 : Nat) : Int) := by rw [hz]; exact (Int.ofNat_tmod c.toNat 6).symm
        (repeat(first|refine sb ?_|refine kNo ?_|refine gOn rfl ?_|refine gOff rfl rfl ?_|refine gTup rfl ?_))
        intro z hz
        rw [i64_id (by omega)] at hz
        subst hz
        (repeat(first|refine sb ?_|refine kNo ?_|refine gOn rfl ?_|refine gOff rfl rfl ?_|refine gTup rfl ?_))
        intro z hz
        obtain rfl : z = ((min (c.toNat % 6) 1 : Nat) : Int) := by omega
        (repeat(first|refine sb ?_|refine kNo ?_|refine gOn rfl ?_|refine gOff rfl rfl ?_|refine gTup rfl ?_))
        intro z hz
        rw [i64_id (by omega)] at hz
        obtain rfl : z = (((itP bt es m5).length + (pcB bt m5).length : Nat) : Int) := by rw [hP, (pc_len _).1]; omega
        (repeat(first|refine sb ?_|refine kNo ?_|refine gOn rfl ?_|refine gOff rfl rfl ?_|refine gTup rfl ?_))
        refine ⟨by omega, ?_⟩
        intro m6 hm6 o6 ho6
        obtain rfl : m6 = m5 := by omega
        (repeat(first|refine sb ?_|refine kNo ?_|refine gOn rfl ?_|refine gOff rfl rfl ?_|refine gTup rfl ?_))
        refine ldI_is (z := (c.toNat : Int)) rfl kb3' (by rw [ho6, Nat.zero_add, Nat.mul_one]; exact bytesV_at hc) ?_
        (repeat(first|refine sb ?_|refine kNo ?_|refine gOn rfl ?_|refine gOff rfl rfl ?_|refine gTup rfl ?_))
        refine ⟨by decide, ?_⟩
        intro z hz
        obtain rfl : z = ((c.toNat % 6 : Nat) : Int) := by rw [hz]; exact (Int.ofNat_tmod c.toNat 6).symm
        (repeat(first|refine sb ?_|refine kNo ?_|refine gOn rfl ?_|refine gOff rfl rfl ?_|refine gTup rfl ?_))
        intro q hq
        by_cases h5 : c.toNat % 6 = 5
        · obtain rfl : q = true := by rw [hq, h5]; rfl
          (repeat(first|refine sb ?_|refine kNo ?_|refine gOn rfl ?_|refine gOff rfl rfl ?_|refine gTup rfl ?_))
          intro z hz
          rw [i64_id (by omega)] at hz
          obtain rfl : z = (((fltI 1 (itP bt es m6)).length + (fltI 1 (pcB bt m6)).length : Nat) : Int) := by rw [hP, (pc_len _).2.1, if_pos (by omega)]; omega
          (repeat(first|refine sb ?_|refine kNo ?_|refine gOn rfl ?_|refine gOff rfl rfl ?_|refine gTup rfl ?_))
          intro z hz
          rw [i64_id (by omega)] at hz
          obtain rfl : z = (((itP bt es m6).length + (pcB bt m6).length + 1 : Nat) : Int) := by omega
          (repeat(first|refine sb ?_|refine kNo ?_|refine gOn rfl ?_|refine gOff rfl rfl ?_|refine gTup rfl ?_))
          refine ⟨by omega, ?_⟩
          intro m9 hm9 o9 ho9
          obtain rfl : m9 = m6 := by omega
          subst hoe
          have hx9 : xs2[m9]? = some o := hok1
          have h9 := txP_len goodA (bt := bt) (m9 + 1) (by omega)
          rw [txP_next hek, List.length_append, List.length_append] at h9
          obtain ⟨hk1, hk2, hk3, hk4, hk5, hk6⟩ := goodA.ok o.e (List.mem_of_getElem? hek)
          have hTx : txE ([(⟨⟨(itP bt es m9).length + (pcB bt m9).length + 1, o.e.k, o.e.vs⟩, o.W⟩ : EnV)].map (·.e)) = etL o.e.k o.e.vs ++ [10] := by
            rw [← enT_et hk1.v0]
            show enT _ _ ++ [] = _
            rw [List.append_nil]
          have hvo := vals1 o (List.mem_of_getElem? hx9)
          have hVb := fun o' (ho' : o' ∈ xs2) => tyNeO (vals1 o' ho') own1 (by decide)
          (repeat(first|refine sb ?_|refine kNo ?_|refine gOn rfl ?_|refine gOff rfl rfl ?_|refine gTup rfl ?_))
          refine st_abs (cs' := enCs (xs2.set m9 ⟨⟨(itP bt es m9).length + (pcB bt m9).length + 1, o.e.k, o.e.vs⟩, o.W⟩)) rfl rfl (c3.blk _ _ lbs (by simp) kbs) (show b < s3.next by omega) rfl ?_ fun s4 e4 c4 n4 => ?_
          · rw [ho9]
            refine (setRow_one (by rw [enCs_len]; omega)).trans ?_
            rw [← enCs_set xs2 m9 o _ hx9, Nat.zero_add, Nat.add_zero]
          have n4 : s4.next = s3.next := n4
          have f4 := c4.fine ((c2.nil c3).fine (c1'.fine fD))
          have hxs : (xs2.set m9 (⟨⟨(itP bt es m9).length + (pcB bt m9).length + 1, o.e.k, o.e.vs⟩, o.W⟩ : EnV))[m9]? = some ⟨⟨(itP bt es m9).length + (pcB bt m9).length + 1, o.e.k, o.e.vs⟩, o.W⟩ := by rw [List.getElem?_set_self (by omega)]
          (repeat(first|refine sb ?_|refine kNo ?_|refine gOn rfl ?_|refine gOff rfl rfl ?_|refine gTup rfl ?_))
          intro z hz
          rw [i64_id (by omega)] at hz
          (repeat(first|refine sb ?_|refine kNo ?_|refine gOn rfl ?_|refine gOff rfl rfl ?_|refine gTup rfl ?_))
          refine slL_mid (k := m9) (j := m9 + 1) rfl e4 (by kernel_rfl) rfl rfl rfl (by omega) (by omega) (by omega) ?_
          rw [show m9 + 1 - m9 = 1 by omega]
          (repeat(first|refine sb ?_|refine kNo ?_|refine gOn rfl ?_|refine gOff rfl rfl ?_|refine gTup rfl ?_))
          refine (text13_w (xs := [⟨⟨(itP bt es m9).length + (pcB bt m9).length + 1, o.e.k, o.e.vs⟩, o.W⟩]) f4 (.inr ⟨b, m9 * 3, _, _, _, _, rfl, by omega, e4, fun i x hx => ?_⟩) (by rw [List.length_singleton]; decide) (fun x hx => ?_) (by rw [hTx]; omega)).mono fun v s5 q => ?_
          · cases i with
            | zero =>
              obtain rfl := Option.some.inj hx
              rw [Nat.zero_mul, Nat.add_zero]
              exact enCs_take hxs
            | succ i => cases hx
          · rw [List.mem_singleton] at hx
            subst hx
            exact ⟨TsO.rd ((hvo.chg (c2.nil c3) (fun _ _ q => by cases q)).chg c4 (by simpa [blkOf] using hVb o (List.mem_of_getElem? hx9))), hk5, by dsimp only; omega, by dsimp only; omega, fun w hw => ⟨hk6 w hw, by have := hk4 w hw; omega⟩⟩
          obtain ⟨rfl, c5⟩ := q
          rw [hTx]
          (repeat(first|refine sb ?_|refine kNo ?_|refine gOn rfl ?_|refine gOff rfl rfl ?_|refine gTup rfl ?_))
          have hq1 : (txI (itP bt es m9) ++ pcT (c.toNat % 6)).length ≤ 10000 := by rw [List.length_append]; omega
          refine ⟨by omega, ?_⟩
          intro l hl
          subst hl
          (repeat(first|refine sb ?_|refine kNo ?_|refine gOn rfl ?_|refine gOff rfl rfl ?_|refine gTup rfl ?_))
          intro z hz
          rw [i64_id (by omega)] at hz
          (repeat(first|refine sb ?_|refine kNo ?_|refine gOn rfl ?_|refine gOff rfl rfl ?_|refine gTup rfl ?_))
          have lb5 : b < s5.next := by have := c5.next; omega
          refine ⟨⟨m9 + 1, xs2.set m9 ⟨⟨(itP bt es m9).length + (pcB bt m9).length + 1, o.e.k, o.e.vs⟩, o.W⟩, s5⟩, ⟨by show m9 + 1 ≤ es.length; omega, ⟨rfl, rfl, lb5, true, c5.blk _ _ (by omega) (by simp) e4, fun q => by cases q⟩, ?_, ?_, ?_⟩, by show es.length - (m9 + 1) < es.length - m9; omega, Wk.same ⟨rfl, rfl, rfl, rfl, by rw [txP_next hek, hP]; rfl, by rw [fltP_next hek]; rfl, by rw [itP_next hek, List.length_append, List.length_append]; rfl, rfl, rfl, by rw [show z = ((m9 + 1 : Nat) : Int) by omega]; rfl, trivial⟩⟩
          · show (xs2.set m9 _).map (·.e) = entI 1 (itP bt es (m9 + 1)) ++ es.drop (m9 + 1)
            obtain ⟨hm10, hm11⟩ := List.getElem?_eq_some_iff.1 hek
            rw [List.map_set, hes1, List.set_append_right _ _ (by omega), hil, Nat.sub_self, List.drop_eq_getElem_cons hm10, List.set_cons_zero, entP_next hek, List.length_append, List.append_assoc]
            rfl
          · intro o' ho'
            have key : ∀ o2 ∈ xs2, TsO s5 o2.W o2.e.vs := fun o2 ho2 => (((vals1 o2 ho2).chg (c2.nil c3) (fun _ _ q => by cases q)).chg c4 (by simpa [blkOf] using hVb o2 ho2)).chg c5 (fun _ _ q => by cases q)
            rcases List.mem_or_eq_of_mem_set ho' with ho' | rfl
            · exact key o' ho'
            · exact key o (List.mem_of_getElem? hx9)
          · exact (c1'.trans' (c2.nil c3) (fun _ q _ => q) (fun _ q _ => by cases q)).trans' (c4.trans' c5 (C := [b]) (fun _ q _ => q) (fun _ q _ => by cases q)) (fun _ q _ => q) (fun _ q _ => by simpa [blkOf] using q)
        · obtain rfl : q = false := by rw [hq]; simp; omega
          (repeat(first|refine sb ?_|refine kNo ?_|refine gOn rfl ?_|refine gOff rfl rfl ?_|refine gTup rfl ?_))
          intro z hz
          rw [i64_id (by omega)] at hz
          obtain rfl : z = (((itP bt es m6).length + (pcB bt m6).length + 1 : Nat) : Int) := by omega
          (repeat(first|refine sb ?_|refine kNo ?_|refine gOn rfl ?_|refine gOff rfl rfl ?_|refine gTup rfl ?_))
          refine ⟨by omega, ?_⟩
          intro m9 hm9 o9 ho9
          obtain rfl : m9 = m6 := by omega
          subst hoe
          have hx9 : xs2[m9]? = some o := hok1
          have h9 := txP_len goodA (bt := bt) (m9 + 1) (by omega)
          rw [txP_next hek, List.length_append, List.length_append] at h9
          obtain ⟨hk1, hk2, hk3, hk4, hk5, hk6⟩ := goodA.ok o.e (List.mem_of_getElem? hek)
          have hTx : txE ([(⟨⟨(itP bt es m9).length + (pcB bt m9).length + 1, o.e.k, o.e.vs⟩, o.W⟩ : EnV)].map (·.e)) = etL o.e.k o.e.vs ++ [10] := by
            rw [← enT_et hk1.v0]
            show enT _ _ ++ [] = _
            rw [List.append_nil]
          have hvo := vals1 o (List.mem_of_getElem? hx9)
          have hVb := fun o' (ho' : o' ∈ xs2) => tyNeO (vals1 o' ho') own1 (by decide)
          (repeat(first|refine sb ?_|refine kNo ?_|refine gOn rfl ?_|refine gOff rfl rfl ?_|refine gTup rfl ?_))
          refine st_abs (cs' := enCs (xs2.set m9 ⟨⟨(itP bt es m9).length + (pcB bt m9).length + 1, o.e.k, o.e.vs⟩, o.W⟩)) rfl rfl (c3.blk _ _ lbs (by simp) kbs) (show b < s3.next by omega) rfl ?_ fun s4 e4 c4 n4 => ?_
          · rw [ho9]
            refine (setRow_one (by rw [enCs_len]; omega)).trans ?_
            rw [← enCs_set xs2 m9 o _ hx9, Nat.zero_add, Nat.add_zero]
          have n4 : s4.next = s3.next := n4
          have f4 := c4.fine ((c2.nil c3).fine (c1'.fine fD))
          have hxs : (xs2.set m9 (⟨⟨(itP bt es m9).length + (pcB bt m9).length + 1, o.e.k, o.e.vs⟩, o.W⟩ : EnV))[m9]? = some ⟨⟨(itP bt es m9).length + (pcB bt m9).length + 1, o.e.k, o.e.vs⟩, o.W⟩ := by rw [List.getElem?_set_self (by omega)]
          (repeat(first|refine sb ?_|refine kNo ?_|refine gOn rfl ?_|refine gOff rfl rfl ?_|refine gTup rfl ?_))
          intro z hz
          rw [i64_id (by omega)] at hz
          (repeat(first|refine sb ?_|refine kNo ?_|refine gOn rfl ?_|refine gOff rfl rfl ?_|refine gTup rfl ?_))
          refine slL_mid (k := m9) (j := m9 + 1) rfl e4 (by kernel_rfl) rfl rfl rfl (by omega) (by omega) (by omega) ?_
          rw [show m9 + 1 - m9 = 1 by omega]
          (repeat(first|refine sb ?_|refine kNo ?_|refine gOn rfl ?_|refine gOff rfl rfl ?_|refine gTup rfl ?_))
          refine (text13_w (xs := [⟨⟨(itP bt es m9).length + (pcB bt m9).length + 1, o.e.k, o.e.vs⟩, o.W⟩]) f4 (.inr ⟨b, m9 * 3, _, _, _, _, rfl, by omega, e4, fun i x hx => ?_⟩) (by rw [List.length_singleton]; decide) (fun x hx => ?_) (by rw [hTx]; omega)).mono fun v s5 q => ?_
          · cases i with
            | zero =>
              obtain rfl := Option.some.inj hx
              rw [Nat.zero_mul, Nat.add_zero]
              exact enCs_take hxs
            | succ i => cases hx
          · rw [List.mem_singleton] at hx
            subst hx
            exact ⟨TsO.rd ((hvo.chg (c2.nil c3) (fun _ _ q => by cases q)).chg c4 (by simpa [blkOf] using hVb o (List.mem_of_getElem? hx9))), hk5, by dsimp only; omega, by dsimp only; omega, fun w hw => ⟨hk6 w hw, by have := hk4 w hw; omega⟩⟩
          obtain ⟨rfl, c5⟩ := q
          rw [hTx]
          (repeat(first|refine sb ?_|refine kNo ?_|refine gOn rfl ?_|refine gOff rfl rfl ?_|refine gTup rfl ?_))
          have hq1 : (txI (itP bt es m9) ++ pcT (c.toNat % 6)).length ≤ 10000 := by rw [List.length_append]; omega
          refine ⟨by omega, ?_⟩
          intro l hl
          subst hl
          (repeat(first|refine sb ?_|refine kNo ?_|refine gOn rfl ?_|refine gOff rfl rfl ?_|refine gTup rfl ?_))
          intro z hz
          rw [i64_id (by omega)] at hz
          (repeat(first|refine sb ?_|refine kNo ?_|refine gOn rfl ?_|refine gOff rfl rfl ?_|refine gTup rfl ?_))
          have lb5 : b < s5.next := by have := c5.next; omega
          refine ⟨⟨m9 + 1, xs2.set m9 ⟨⟨(itP bt es m9).length + (pcB bt m9).length + 1, o.e.k, o.e.vs⟩, o.W⟩, s5⟩, ⟨by show m9 + 1 ≤ es.length; omega, ⟨rfl, rfl, lb5, true, c5.blk _ _ (by omega) (by simp) e4, fun q => by cases q⟩, ?_, ?_, ?_⟩, by show es.length - (m9 + 1) < es.length - m9; omega, Wk.same ⟨rfl, rfl, rfl, rfl, by rw [txP_next hek, hP]; rfl, by rw [fltP_next hek]; rw [show (fltI 1 (pcB bt m9)).length = 0 by rw [hP, (pc_len _).2.1, if_neg (by omega)]]; rfl, by rw [itP_next hek, List.length_append, List.length_append]; rfl, rfl, rfl, by rw [show z = ((m9 + 1 : Nat) : Int) by omega]; rfl, trivial⟩⟩
          · show (xs2.set m9 _).map (·.e) = entI 1 (itP bt es (m9 + 1)) ++ es.drop (m9 + 1)
            obtain ⟨hm10, hm11⟩ := List.getElem?_eq_some_iff.1 hek
            rw [List.map_set, hes1, List.set_append_right _ _ (by omega), hil, Nat.sub_self, List.drop_eq_getElem_cons hm10, List.set_cons_zero, entP_next hek, List.length_append, List.append_assoc]
            rfl
          · intro o' ho'
            have key : ∀ o2 ∈ xs2, TsO s5 o2.W o2.e.vs := fun o2 ho2 => (((vals1 o2 ho2).chg (c2.nil c3) (fun _ _ q => by cases q)).chg c4 (by simpa [blkOf] using hVb o2 ho2)).chg c5 (fun _ _ q => by cases q)
            rcases List.mem_or_eq_of_mem_set ho' with ho' | rfl
            · exact key o' ho'
            · exact key o (List.mem_of_getElem? hx9)
          · exact (c1'.trans' (c2.nil c3) (fun _ q _ => q) (fun _ q _ => by cases q)).trans' (c4.trans' c5 (C := [b]) (fun _ q _ => q) (fun _ q _ => by cases q)) (fun _ q _ => q) (fun _ q _ => by simpa [blkOf] using q)
      · obtain rfl : q = false := by rw [hq]; simp; omega
        have hP : pcB bt m2 = [] := by unfold pcB; rw [List.getElem?_eq_none (by omega)]
        (repeat(first|refine sb ?_|refine kNo ?_|refine gOn rfl ?_|refine gOff rfl rfl ?_|refine gTup rfl ?_))
        have hP0 : (pcB bt m2).length = 0 := by rw [hP]; rfl
        intro z hz
        rw [i64_id (by omega)] at hz
        obtain rfl : z = (((itP bt es m2).length + (pcB bt m2).length + 1 : Nat) : Int) := by omega
        (repeat(first|refine sb ?_|refine kNo ?_|refine gOn rfl ?_|refine gOff rfl rfl ?_|refine gTup rfl ?_))
        refine ⟨by omega, ?_⟩
        intro m9 hm9 o9 ho9
        obtain rfl : m9 = m2 := by omega
        subst hoe
        have hx9 : xs2[m9]? = some o := hok1
        have h9 := txP_len goodA (bt := bt) (m9 + 1) (by omega)
        rw [txP_next hek, List.length_append, List.length_append] at h9
        obtain ⟨hk1, hk2, hk3, hk4, hk5, hk6⟩ := goodA.ok o.e (List.mem_of_getElem? hek)
        have hTx : txE ([(⟨⟨(itP bt es m9).length + (pcB bt m9).length + 1, o.e.k, o.e.vs⟩, o.W⟩ : EnV)].map (·.e)) = etL o.e.k o.e.vs ++ [10] := by
          rw [← enT_et hk1.v0]
          show enT _ _ ++ [] = _
          rw [List.append_nil]
        have hvo := vals1 o (List.mem_of_getElem? hx9)
        have hVb := fun o' (ho' : o' ∈ xs2) => tyNeO (vals1 o' ho') own1 (by decide)
        (repeat(first|refine sb ?_|refine kNo ?_|refine gOn rfl ?_|refine gOff rfl rfl ?_|refine gTup rfl ?_))
        refine st_abs (cs' := enCs (xs2.set m9 ⟨⟨(itP bt es m9).length + (pcB bt m9).length + 1, o.e.k, o.e.vs⟩, o.W⟩)) rfl rfl kbs lbs rfl ?_ fun s4 e4 c4 n4 => ?_
        · rw [ho9]
          refine (setRow_one (by rw [enCs_len]; omega)).trans ?_
          rw [← enCs_set xs2 m9 o _ hx9, Nat.zero_add, Nat.add_zero]
        have n4 : s4.next = s2.next := n4
        have f4 := c4.fine (c2.fine (c1'.fine fD))
        have hxs : (xs2.set m9 (⟨⟨(itP bt es m9).length + (pcB bt m9).length + 1, o.e.k, o.e.vs⟩, o.W⟩ : EnV))[m9]? = some ⟨⟨(itP bt es m9).length + (pcB bt m9).length + 1, o.e.k, o.e.vs⟩, o.W⟩ := by rw [List.getElem?_set_self (by omega)]
        (repeat(first|refine sb ?_|refine kNo ?_|refine gOn rfl ?_|refine gOff rfl rfl ?_|refine gTup rfl ?_))
        intro z hz
        rw [i64_id (by omega)] at hz
        (repeat(first|refine sb ?_|refine kNo ?_|refine gOn rfl ?_|refine gOff rfl rfl ?_|refine gTup rfl ?_))
        refine slL_mid (k := m9) (j := m9 + 1) rfl e4 (by kernel_rfl) rfl rfl rfl (by omega) (by omega) (by omega) ?_
        rw [show m9 + 1 - m9 = 1 by omega]
        (repeat(first|refine sb ?_|refine kNo ?_|refine gOn rfl ?_|refine gOff rfl rfl ?_|refine gTup rfl ?_))
        refine (text13_w (xs := [⟨⟨(itP bt es m9).length + (pcB bt m9).length + 1, o.e.k, o.e.vs⟩, o.W⟩]) f4 (.inr ⟨b, m9 * 3, _, _, _, _, rfl, by omega, e4, fun i x hx => ?_⟩) (by rw [List.length_singleton]; decide) (fun x hx => ?_) (by rw [hTx]; omega)).mono fun v s5 q => ?_
        · cases i with
          | zero =>
            obtain rfl := Option.some.inj hx
            rw [Nat.zero_mul, Nat.add_zero]
            exact enCs_take hxs
          | succ i => cases hx
        · rw [List.mem_singleton] at hx
          subst hx
          exact ⟨TsO.rd ((hvo.chg c2 (fun _ _ q => by cases q)).chg c4 (by simpa [blkOf] using hVb o (List.mem_of_getElem? hx9))), hk5, by dsimp only; omega, by dsimp only; omega, fun w hw => ⟨hk6 w hw, by have := hk4 w hw; omega⟩⟩
        obtain ⟨rfl, c5⟩ := q
        rw [hTx]
        (repeat(first|refine sb ?_|refine kNo ?_|refine gOn rfl ?_|refine gOff rfl rfl ?_|refine gTup rfl ?_))
        have hq1 := hi5
        refine ⟨by omega, ?_⟩
        intro l hl
        subst hl
        (repeat(first|refine sb ?_|refine kNo ?_|refine gOn rfl ?_|refine gOff rfl rfl ?_|refine gTup rfl ?_))
        intro z hz
        rw [i64_id (by omega)] at hz
        (repeat(first|refine sb ?_|refine kNo ?_|refine gOn rfl ?_|refine gOff rfl rfl ?_|refine gTup rfl ?_))
        have lb5 : b < s5.next := by have := c5.next; omega
        refine ⟨⟨m9 + 1, xs2.set m9 ⟨⟨(itP bt es m9).length + (pcB bt m9).length + 1, o.e.k, o.e.vs⟩, o.W⟩, s5⟩, ⟨by show m9 + 1 ≤ es.length; omega, ⟨rfl, rfl, lb5, true, c5.blk _ _ (by omega) (by simp) e4, fun q => by cases q⟩, ?_, ?_, ?_⟩, by show es.length - (m9 + 1) < es.length - m9; omega, Wk.same ⟨rfl, rfl, rfl, rfl, by rw [txP_next hek, hP, show txI [] = [] from rfl, List.append_nil]; rfl, by rw [fltP_next hek]; rw [hP]; rfl, by rw [itP_next hek, List.length_append, List.length_append]; rfl, rfl, rfl, by rw [show z = ((m9 + 1 : Nat) : Int) by omega]; rfl, trivial⟩⟩
        · show (xs2.set m9 _).map (·.e) = entI 1 (itP bt es (m9 + 1)) ++ es.drop (m9 + 1)
          obtain ⟨hm10, hm11⟩ := List.getElem?_eq_some_iff.1 hek
          rw [List.map_set, hes1, List.set_append_right _ _ (by omega), hil, Nat.sub_self, List.drop_eq_getElem_cons hm10, List.set_cons_zero, entP_next hek, List.length_append, List.append_assoc]
          rfl
        · intro o' ho'
          have key : ∀ o2 ∈ xs2, TsO s5 o2.W o2.e.vs := fun o2 ho2 => (((vals1 o2 ho2).chg c2 (fun _ _ q => by cases q)).chg c4 (by simpa [blkOf] using hVb o2 ho2)).chg c5 (fun _ _ q => by cases q)
          rcases List.mem_or_eq_of_mem_set ho' with ho' | rfl
          · exact key o' ho'
          · exact key o (List.mem_of_getElem? hx9)
        · exact (c1'.trans' c2 (fun _ q _ => q) (fun _ q _ => by cases q)).trans' (c4.trans' c5 (C := [b]) (fun _ q _ => q) (fun _ q _ => by cases q)) (fun _ q _ => q) (fun _ q _ => by simpa [blkOf] using q)
    · obtain rfl : q = false := by rw [hq]; simp; omega
      obtain rfl : k = es.length := by omega
      (repeat(first|refine sb ?_|refine kNo ?_|refine gOn rfl ?_|refine gOff rfl rfl ?_|refine gTup rfl ?_))
      rw [List.drop_length, List.append_nil] at hes1
      have fE := c1'.fine fD
      refine (parse13_w (l := txI (itP bt es es.length)) (vals := true) fE (by omega)).mono fun v se q => ?_
      obtain ⟨G2, H2, cv2, gs2, fs2, rfl, hTb, hG2, hF2, hH2, ce⟩ := q
      rw [tabP goodA] at hTb
      obtain ⟨hgs2, rfl⟩ := Prod.mk.inj hTb
      rw [← hes1] at hgs2
      have gl2 : gs2.length = xs2.length := by have := congrArg List.length hgs2; rwa [List.length_map, List.length_map] at this
      have ownE := own1.chg ce (fun _ _ q => by cases q)
      have valsE := fun o (ho : o ∈ xs2) => (vals1 o ho).chg ce (fun _ _ q => by cases q)
      have fF := ce.fine fE
      have hkv3 : gs2.map kvV = xs2.map kvV := by
        have := congrArg (List.map fun e : Ent => (e.k, e.vs)) hgs2
        rwa [List.map_map, List.map_map] at this
      have hvl : ∀ x ∈ gs2, x.e.vs.length ≤ 100000 := fun x hx => by
        have h1 : x.e ∈ entI 1 (itP bt es es.length) := by rw [← hes1, ← hgs2]; exact List.mem_map_of_mem hx
        have h2 : (x.e.k, x.e.vs) ∈ (entI 1 (itP bt es es.length)).map fun e => (e.k, e.vs) := List.mem_map_of_mem (f := fun e : Ent => (e.k, e.vs)) h1
        rw [entP_kv es.length (Nat.le_refl _)] at h2
        obtain ⟨e, he, heq⟩ := List.mem_map.1 h2
        have := (goodA.ok e (List.mem_of_mem_take he)).2.2.1
        rw [← (Prod.mk.inj heq).2]
        omega
      (repeat(first|refine sb ?_|refine kNo ?_|refine gOn rfl ?_|refine gOff rfl rfl ?_|refine gTup rfl ?_))
      intro q hq
      obtain rfl : q = false := by rw [hq]; simp
      (repeat(first|refine sb ?_|refine kNo ?_|refine gOn rfl ?_|refine gOff rfl rfl ?_|refine gTup rfl ?_))
      rw [← xl]
      refine (eqLk_w fF (EsO.rd hG2.own) (EsO.rd ownE) hkv3 (by omega) (fun x hx => ⟨TsO.rd (hG2.vals x hx), hvl x hx⟩) (fun x hx => TsO.rd (valsE x hx))).mono fun v sg q => ?_
      obtain ⟨rfl, cg⟩ := q
      (repeat(first|refine sb ?_|refine kNo ?_|refine gOn rfl ?_|refine gOff rfl rfl ?_|refine gTup rfl ?_))
      intro q hq
      obtain rfl : q = false := by rw [hq]; rfl
      have ownG := ownE.chg cg (fun _ _ q => by cases q)
      have gsG := hG2.own.chg cg (fun _ _ q => by cases q)
      have cG : Chg s sg [] := (cD.fresh c1' hVs).nil (ce.nil cg)
      (repeat(first|refine sb ?_|refine kNo ?_|refine gOn rfl ?_|refine gOff rfl rfl ?_|refine gTup rfl ?_))
      refine pLoop (MW.head good (fun x : Nat => gs2.length - x) (fun x => x ≤ gs2.length)
        (fun x => [(5, .slice V xs2.length 0), (11, .slice G2 gs2.length 0), (183, .int .i64 (gs2.length : Int)), (184, .int .i64 (x : Int))]) (fun x => sg) 0 (Nat.zero_le _) (Wk.same ⟨rfl, rfl, rfl, rfl, trivial⟩) ?_)
      intro k hk3
      (repeat(first|refine sb ?_|refine kNo ?_|refine gOn rfl ?_|refine gOff rfl rfl ?_|refine gTup rfl ?_))
      intro q hq
      by_cases hlt : k < gs2.length
      · obtain rfl : q = true := by rw [hq]; simp; omega
        obtain ⟨g, hgk⟩ : ∃ e, gs2[k]? = some e := ⟨_, List.getElem?_eq_getElem hlt⟩
        obtain ⟨o, hok1⟩ : ∃ e, xs2[k]? = some e := ⟨_, List.getElem?_eq_getElem (by omega)⟩
        have hge : g.e = o.e := by
          have h1 : (gs2.map (·.e))[k]? = some g.e := by rw [List.getElem?_map, hgk]; rfl
          rw [hgs2, List.getElem?_map, hok1] at h1
          exact (Option.some.inj h1).symm
        obtain ⟨b, gb, rfl, kb⟩ := ownG.pos (by omega)
        obtain ⟨b2, gb2, rfl, kb2⟩ := gsG.pos (by omega)
        (repeat(first|refine sb ?_|refine kNo ?_|refine gOn rfl ?_|refine gOff rfl rfl ?_|refine gTup rfl ?_))
        refine ⟨by omega, ?_⟩
        intro m hm o1 ho1
        obtain rfl : m = k := by omega
        (repeat(first|refine sb ?_|refine kNo ?_|refine gOn rfl ?_|refine gOff rfl rfl ?_|refine gTup rfl ?_))
        refine ldI_is (z := g.e.n) rfl kb2 (by rw [ho1, Nat.zero_add]; exact (enCs_at hgk (j := 0) (by decide))) ?_
        (repeat(first|refine sb ?_|refine kNo ?_|refine gOn rfl ?_|refine gOff rfl rfl ?_|refine gTup rfl ?_))
        refine ⟨by omega, ?_⟩
        intro m2 hm2 o2 ho2
        obtain rfl : m2 = m := by omega
        (repeat(first|refine sb ?_|refine kNo ?_|refine gOn rfl ?_|refine gOff rfl rfl ?_|refine gTup rfl ?_))
        refine ldI_is (z := g.e.n) rfl kb (by rw [ho2, Nat.zero_add, hge]; exact (enCs_at hok1 (j := 0) (by decide))) ?_
        (repeat(first|refine sb ?_|refine kNo ?_|refine gOn rfl ?_|refine gOff rfl rfl ?_|refine gTup rfl ?_))
        intro q hq
        obtain rfl : q = false := by rw [hq]; simp
        (repeat(first|refine sb ?_|refine kNo ?_|refine gOn rfl ?_|refine gOff rfl rfl ?_|refine gTup rfl ?_))
        intro z hz
        rw [i64_id (by omega)] at hz
        (repeat(first|refine sb ?_|refine kNo ?_|refine gOn rfl ?_|refine gOff rfl rfl ?_|refine gTup rfl ?_))
        exact ⟨m2 + 1, by show m2 + 1 ≤ gs2.length; omega, by show gs2.length - (m2 + 1) < gs2.length - m2; omega, Wk.same ⟨rfl, rfl, rfl, by rw [show z = ((m2 + 1 : Nat) : Int) by omega]; rfl, trivial⟩⟩
      · obtain rfl : q = false := by rw [hq]; simp; omega
        (repeat(first|refine sb ?_|refine kNo ?_|refine gOn rfl ?_|refine gOff rfl rfl ?_|refine gTup rfl ?_))
        refine (wakes13_w (cG.fine f)).mono fun v sh q => ?_
        obtain ⟨rfl, ch⟩ := q
        (repeat(first|refine sb ?_|refine kNo ?_|refine gOn rfl ?_|refine gOff rfl rfl ?_|refine gTup rfl ?_))
        exact ⟨rfl, cG.nil ch⟩
end Go.Vf.S
end
section
/- What the rows of the seat have in common: no law of them reads a listed variable here. -/
namespace Go.Vf.S
open Go Go.Vf Go.Proofs Go.Proofs.YtjkbllbjelpdpaaGreatDoor Go.RowKit Go.ChangeShapes
theorem own : ownKnob pr.godebug = none := by kernel_rfl
theorem laidOut : laidOutB pr = true := by kernel_rfl
end Go.Vf.S
end
section
/- Starts that know some of their blocks. -/
namespace Go.Vf.S
open Go Go.Vf Go.Proofs Go.Proofs.YtjkbllbjelpdpaaGreatDoor Go.RowKit Go.ChangeShapes
set_option linter.unusedVariables false
set_option linter.unusedSimpArgs false

def renO (bs : List (RE × Option ABlk)) : Ren := fun id => bs[id]?.map Prod.fst
def heapO : Nat → List (RE × Option ABlk) → List (Nat × Option ABlk)
  | _, [] => []
  | n, (_, b) :: r => (n, b) :: heapO (n + 1) r
theorem heapO_look : ∀ (l : List (RE × Option ABlk)) (n id : Nat), lookH (heapO n l) id = if n ≤ id then (l[id - n]?.map Prod.snd).join else none
  | [], n, id => by simp [heapO, lookH]
  | (e, b) :: r, n, id => by
    simp only [heapO, lookH]
    rcases beq_cases n id with ⟨h, hb⟩ | ⟨h, hb⟩
    · subst h; simp
    · rw [hb, cond_false, heapO_look r (n + 1) id]
      by_cases h1 : n + 1 ≤ id
      · rw [if_pos h1, if_pos (by omega), show id - n = (id - (n + 1)) + 1 from by omega, List.getElem?_cons_succ]
      · rw [if_neg h1, if_neg (by omega)]
def startO (bs : List (RE × Option ABlk)) (gl : Nat) : SS := ⟨heapO 0 bs, bs.length, gl⟩
theorem startO_rel {P : Program} {W : World} {bs : List (RE × Option ABlk)} {gl : Nat} (h : ∀ (i : Nat) e b, bs[i]? = some (e, some b) → BRel P (renO bs) W e b ∧ b.ro = true) (hl : ∀ (i : Nat) e b, bs[i]? = some (e, b) → e.blk < W.heap.size)
    (hg : ∀ g, g < gl → ∃ e b, bs[g]? = some (e, b) ∧ e.blk = g ∧ e.off = 0) : HRel P W.heap.size W (renO bs) (startO bs gl).st W ∧ FreeFrom (renO bs) (startO bs gl).next := by
  have get : ∀ id b e, (startO bs gl).st.heap.get id = some b → renO bs id = some e → bs[id]? = some (e, some b) := by
    intro id b e hb he
    rw [SS.get] at hb
    simp only [startO, heapO_look, Nat.zero_le, if_true, Nat.sub_zero] at hb
    simp only [renO] at he
    cases hx : bs[id]? with
    | none => rw [hx] at hb; cases hb
    | some x =>
      rw [hx] at hb he
      obtain ⟨e', b'⟩ := x
      cases he
      simp only [Option.map_some, Option.join_some] at hb
      subst hb
      rfl
  refine ⟨⟨.refl _ _, Nat.le_refl _, .refl _, ?_, ?_, ?_, ?_, ?_⟩, ?_⟩
  · intro id b e hb he; exact (h _ _ _ (get _ _ _ hb he)).1
  · intro id b e hb he hr; rw [(h _ _ _ (get _ _ _ hb he)).2] at hr; cases hr
  · intro i j b b' e e' _ hb _ he hr; rw [(h _ _ _ (get _ _ _ hb he)).2] at hr; cases hr
  · intro id e he
    simp only [renO] at he
    cases hx : bs[id]? with
    | none => rw [hx] at he; cases he
    | some x =>
      rw [hx] at he
      obtain ⟨e', b'⟩ := x
      cases he
      exact hl _ _ _ hx
  · intro g hlt
    obtain ⟨e, b, h1, h2, h3⟩ := hg g hlt
    exact ⟨e, by simp [renO, h1], h2, h3⟩
  · intro id hid
    simp only [renO]
    rw [List.getElem?_eq_none (by exact hid)]; rfl
theorem startO_fine (bs : List (RE × Option ABlk)) (gl : Nat) : Fine (startO bs gl) := fun id hid => by
  show lookH (heapO 0 bs) id = none
  rw [heapO_look, List.getElem?_eq_none (by simpa [startO] using hid)]
  rfl

end Go.Vf.S
end
section
/- A wrap that keeps the world's shape beside what is laid. -/
namespace Go.Vf.S
open Go Go.Vf Go.Proofs Go.Proofs.YtjkbllbjelpdpaaGreatDoor Go.RowKit Go.ChangeShapes
set_option linter.unusedVariables false
set_option linter.unusedSimpArgs false

theorem hand_shaped {H : Type} {enc : TypeId × Value → H} {a : Assume} {C : Checked} {os : Os} {f : FuncId} {fn : Func} {s : ChangeSpec} {conds : List PathCond} {apart fresh handsOn again : Bool} {X : World → Array Value → Prop}
    (hX : ∀ (w w' : World) (args : Array Value), w.heap = w'.heap → X w args → X w' args) (own : ownKnob C.prog.godebug = none) (started : os.Started) (noInit : C.prog.inits.idxOf? f = none) (hfn : C.prog.funcs[f]? = some fn)
    (witness : ∃ (w : World) (tape : Tape) (i : Input), w.os = os ∧ (w.forCall tape i).Shaped C.prog ∧ i.vars = [] ∧ Input.okWide C.prog (w.forCall tape i) .any w.heap.size f i ∧
      ((s.pre enc C.prog fn conds apart (w.forCall tape i).memory i.args ∧ X (w.forCall tape i).memory i.args) ∧ sizedMet enc C.prog fn (OpenSpec.ofChange s) apart (w.forCall tape i).memory i.args) ∧ a.holds C.prog (lone (Frame.enter C.prog f i.args .normal) [] (w.forCall tape i)))
    (contract : ∀ (W : World) (base : Nat) (args : Array Value) (ds gs : List (DataW H)) (before : List MemPlace), (∀ (j : Nat) t v, fn.params[j]? = some t → args[j]? = some v → Value.okWide C.prog W .any base t v) →
      DataW.Whole enc C.prog fn.params.toList s.vars apart W args.toList ds gs before → X W args → W.ShapedOpen C.prog → Calls C.prog f args W fun e W' => ∃ v, e = .returned v ∧ s.post enc C.prog fn apart fresh handsOn again W args v W') :
    ReturnsInHanded a C os f .any (fun w args => (s.pre enc C.prog fn conds apart w args ∧ X w args) ∧ sizedMet enc C.prog fn (OpenSpec.ofChange s) apart w args) (s.post enc C.prog fn apart fresh handsOn again) := by
  refine returnsInHanded_of_calls own started noInit witness ?_
  intro w tape i _ hsh _ hok hpre _
  obtain ⟨_, _, _, fn', hfn', _, _, _, _, hval⟩ := hok
  obtain rfl : fn' = fn := Option.some.inj (hfn'.symm.trans hfn)
  obtain ⟨⟨⟨ds, gs, before, hw, _⟩, hx⟩, _⟩ := hpre
  refine (contract (w.forCall tape i) w.heap.size i.args ds gs before hval (DataW.Whole.of_heap (w' := w.forCall tape i) (by rfl) hw) (hX _ _ _ (by rfl) hx) hsh).mono fun e W' ⟨v, he, hp⟩ => ?_
  subst he
  exact ChangeSpec.post_blind hp
end Go.Vf.S
end
section
/- A start that knows the library's own number, and blocks more. -/
namespace Go.Vf.S
open Go Go.Vf Go.Proofs Go.Proofs.YtjkbllbjelpdpaaGreatDoor Go.RowKit Go.ChangeShapes
set_option linter.unusedVariables false
set_option linter.unusedSimpArgs false

abbrev gMax : Nat := 1
theorem max_good {W : World} (h : W.ShapedOpen pr) : ∃ m, GoodB pr W ⟨gMax, 0, 1, 1, false⟩ (.cells [.int .i64 m] 3 false true) := by
  have h0 : ((begin pr (fun _ _ => 0) default).world.heap[gMax]?).bind Obj.row? = some (#[.int .i64 0], 3) := by kernel_rfl
  have hg : gMax < pr.globals.size := by decide +kernel
  obtain ⟨m, hm⟩ := cell_of_shapedOpen_int h hg h0 rfl (by kernel_rfl) (by kernel_rfl) Tryz.underlying3
  obtain ⟨cs, hh, hs, _⟩ := h.1 gMax _ 3 hg h0
  have hcs : cs = #[.int .i64 m] := by
    have h1 : cs.size = 1 := hs
    have h2 : cs[0]? = some (.int .i64 m) := by simpa [World.cell?, hh] using hm
    apply Array.ext'
    have h3 : cs.toList.length = 1 := by simpa using h1
    match hl : cs.toList, h3 with
    | [v], _ =>
      have : cs.toList[0]? = some (.int .i64 m) := by simpa using h2
      rw [hl] at this
      simpa using this
  subst hcs
  refine ⟨m, fun ρ => ⟨rfl, [.int .i64 m], 0, 0, 3, hh, (fun z => by cases z), (fun i _ hh => by omega), Nat.le_refl _, Nat.le_refl _, (by kernel_rfl), fun i v hi => ⟨v, by simpa using hi, plain1_rel ?_⟩⟩, rfl, (Array.getElem?_eq_some_iff.1 hh).1⟩
  match i, hi with
  | 0, hi => cases hi; rfl
  | i + 1, hi => simp at hi


/-- The number, and blocks more. -/
def bsM (m : Int) (xs : List (RE × ABlk)) : List (RE × Option ABlk) := ((List.range gMax).map fun i => (⟨i, 0, 0, 1, false⟩, none)) ++ (⟨gMax, 0, 1, 1, false⟩, some (.cells [.int .i64 m] 3 false true)) :: xs.map fun x => (x.1, some x.2)
def startM (m : Int) (xs : List (RE × ABlk)) : SS := startO (bsM m xs) (gMax + 1)
theorem bsM_len (m : Int) (xs : List (RE × ABlk)) : (bsM m xs).length = gMax + 1 + xs.length := by
  simp only [bsM, List.length_append, List.length_map, List.length_range, List.length_cons]
  omega
theorem bsM_low {m : Int} {xs : List (RE × ABlk)} {i : Nat} (h : i < gMax) : (bsM m xs)[i]? = some (⟨i, 0, 0, 1, false⟩, none) := by
  unfold bsM
  rw [List.getElem?_append_left (by rw [List.length_map, List.length_range]; exact h), List.getElem?_map, List.getElem?_range h]
  rfl
theorem bsM_at {m : Int} {xs : List (RE × ABlk)} : (bsM m xs)[gMax]? = some (⟨gMax, 0, 1, 1, false⟩, some (.cells [.int .i64 m] 3 false true)) := by
  unfold bsM
  rw [List.getElem?_append_right (by simp)]
  simp
theorem bsM_more {m : Int} {xs : List (RE × ABlk)} {i : Nat} : (bsM m xs)[gMax + 1 + i]? = xs[i]?.map fun x => (x.1, some x.2) := by
  unfold bsM
  rw [List.getElem?_append_right (by simp <;> omega)]
  simp only [List.length_map, List.length_range]
  rw [show gMax + 1 + i - gMax = i + 1 by omega, List.getElem?_cons_succ, List.getElem?_map]
end Go.Vf.S
end
section
/- What the rows of the seat lay; texts and numbers that are handed in. -/
namespace Go.Vf.S
open Go Go.Vf Go.Proofs Go.Proofs.YtjkbllbjelpdpaaGreatDoor Go.RowKit Go.ChangeShapes Go.WideShapes
set_option linter.unusedVariables false
set_option linter.unusedSimpArgs false
set_option maxRecDepth 100000
def laidN : List (String × DataW Unit) := [("unicode/utf8.acceptRanges", Rows.laid_unicode_utf8_acceptRanges), ("unicode.asciiFold", Rows.laid_unicode_asciiFold), ("unicode.caseOrbit", Rows.laid_unicode_caseOrbit), ("unicode.CaseRanges", Rows.laid_unicode_CaseRanges), ("unicode/utf8.first", Rows.laid_unicode_utf8_first)]
section
variable {H : Type} {enc : TypeId × Value → H} {W : World} {b0 : Nat} {v : Value} {d : DataW H} {p : List MemPlace}
theorem trod_St13 {n : Nat} {cs : List Value} {x : DataW H × List MemPlace} (h : DataW.trod enc pr W 0 (fun _ => true) true n tS cs = some x) : ∃ l : List UInt8, cs = [str l] := by
  obtain ⟨⟨⟨a⟩⟩, e0, _⟩ := DataW.trod_string Tryz.underlying9 h
  exact ⟨a, e0⟩
end
end Go.Vf.S
end
section
/- Entries that are handed in; a start that knows the library's own number, and rows more. -/
namespace Go.Vf.S
open Go Go.Vf Go.RowKit Go.ChangeShapes Go.Proofs Go.Proofs.YtjkbllbjelpdpaaGreatDoor
set_option linter.unusedVariables false
set_option linter.unusedSimpArgs false
set_option maxRecDepth 10000

abbrev tEs13 : TypeId := 22
section
variable {H : Type} {enc : TypeId × Value → H} {W : World}
/-- An entry that three cells read. -/
theorem ent_cells {fuel : Nat} {cs : List Value} {x : DataW H × List MemPlace} (hl : cs.length = 3) (h : DataW.trod enc pr W 0 (fun _ => true) true fuel tEn13 cs = some x) (hnf : ∀ b off, MemPlace.cell b off ∈ x.2 → W.frozen? ⟨b, off, none⟩ = false)
    {ed : RE} (hd : GoodB pr W ed (.cells [] tS true true)) (id : Nat) :
    ∃ (a : EnI) (x1 : RE × ABlk), GoodB pr W x1.1 x1.2 ∧ (∀ ρ : Ren, ρ id = some x1.1 → LRel ρ (eiC a) cs) ∧ ∀ s : SS, lookH s.heap id = some x1.2 → id < s.next → TsH s a.W a.vs := by
  obtain ⟨xs, n, -, rfl, -, hlen, hf⟩ := DataW.trod_struct Tryz.underlying28 h
  match cs, hl with
  | [c0, c1, c2], _ =>
  have k3 : pr.cellsOf 3 = 1 := by kernel_rfl
  have k31 : pr.cellsOf 9 = 1 := by kernel_rfl
  have k33 : pr.cellsOf 26 = 1 := by kernel_rfl
  match xs, hlen with
  | [y0, y1, y2], _ =>
  have f0 := hf 0 _ rfl
  have f1 := hf 1 _ rfl
  have f2 := hf 2 _ rfl
  simp only [k3, k31, k33, List.drop_zero, List.drop_succ_cons, List.take_succ_cons, List.take_zero, List.getElem?_cons_zero, List.getElem?_cons_succ] at f0 f1 f2
  obtain ⟨z0, g0, -, w0⟩ := DataW.trod_int Tryz.underlying3 f0
  obtain ⟨l1, g1⟩ := trod_St13 f1
  cases g0; cases g1
  obtain ⟨bb, ss, r1, p1, p2, p3, p4⟩ := inner_strs Tryz.underlying26 Tryz.underlying9 (by kernel_rfl) f2 (fun b off q => hnf b off (by simp [q])) hd id
  have es : (ss.map fun z => Value.string z) = strV (ss.map fun z => z.data.toList) := by
    unfold strV
    rw [List.map_map]
    refine List.map_congr_left fun z _ => ?_
    obtain ⟨⟨z⟩⟩ := z
    rfl
  rw [es] at p1
  refine ⟨⟨z0, l1, bb, ss.map fun z => z.data.toList⟩, (r1, _), p1, fun ρ hρ1 => ?_, fun s hs1 hn => ?_⟩
  · refine .cons (.int _ _) (.cons (.string _) (.cons ?_ (.nil _)))
    rw [List.length_map]
    exact p2 ρ hρ1
  · rcases p4 with ⟨rfl, rfl⟩ | rfl
    · exact .inl ⟨rfl, rfl⟩
    · exact .inr ⟨id, true, rfl, hn, hs1⟩
theorem eiCs_get (l : List EnI) {i : Nat} (h : i < l.length) {j : Nat} (hj : j < 3) : (eiCs l)[i * 3 + j]? = (eiC l[i])[j]? := by
  rw [← List.getElem?_drop, eiCs_drop, List.drop_eq_getElem_cons h]
  unfold eiCs
  rw [List.flatMap_cons, List.getElem?_append_left (by show j < 3; exact hj)]
/-- Entries that are handed in. -/
theorem arg_ents {v : Value} {d : DataW H} {ps : List MemPlace} {base : Nat} (hok : Value.okWide pr W .any base tEs13 v) (h : DataW.Trod enc pr W 0 (fun _ => true) true tEs13 v d ps) (hnf : ∀ b off, MemPlace.cell b off ∈ ps → W.frozen? ⟨b, off, none⟩ = false) (id : Nat) :
    ∃ (lb : Option Addr) (l : List EnI) (xs : List (RE × ABlk)), GoodL pr W xs id ∧ (∀ ρ : Ren, Laid xs id ρ → VRel ρ (.slice lb l.length 0) v) ∧ ∀ s : SS, LaidS xs id s → EiA s lb l ∧ ∀ x ∈ l, TsH s x.W x.vs := by
  obtain ⟨fuel, h⟩ := h
  have ht := Tryz.underlying22
  have hcell : Cell.ok pr W .any base tEs13 v := by
    unfold Value.okWide at hok
    rw [ht] at hok
    simp only [Cell.okWide, ht] at hok
    exact hok
  unfold Cell.ok at hcell
  rw [ht] at hcell
  split at hcell <;> first
    | (rename_i q; simp at q; done)
    | exact hcell.elim
    | skip
  · exact ⟨none, [], [], .nil _, fun ρ _ => .nilSlice 0 0, fun s _ => ⟨.inl ⟨rfl, rfl⟩, by simp⟩⟩
  rename_i e' a len cap q
  cases q
  obtain ⟨h1, h2, h3, h4, row, cells, h5, h6⟩ := hcell
  rcases DataW.trod_slice ht h with ⟨e1, -⟩ | ⟨a', len', cap', elems, rest, m, rfl, e1, e2, e3, e4, e5, e6, e7, e8, -⟩
  · simp [Value.cells] at e1
  simp [Value.cells] at e1
  obtain ⟨rfl, rfl, rfl⟩ := e1
  obtain ⟨b, off, sp⟩ := a
  simp only at h4
  subst h4
  have c5 : pr.cellsOf tEn13 = 3 := by kernel_rfl
  cases hb : W.heap[b]? with
  | none => simp [World.shape?, hb] at h5
  | some o =>
    cases o with
    | cells rc T0 fr =>
      obtain ⟨rc⟩ := rc
      obtain ⟨lo, hi⟩ := fr
      have hbs : b < W.heap.size := (Array.getElem?_eq_some_iff.1 hb).1
      have hcells : rc.length = cells ∧ T0 = row := by
        simp only [World.shape?, hb, Option.some.injEq, Prod.mk.injEq] at h5
        exact ⟨by have := h5.2; simpa using this, h5.1⟩
      have hoff : off ≤ rc.length := by
        have h6' : off ≤ cells / pr.cellsOf row * pr.cellsOf row := liesAt_off h6
        have hle := Nat.div_mul_le_self cells (pr.cellsOf row)
        omega
      have hrest := e8 rfl
      have cell : ∀ i, i < cap → ∃ cs y, cs.length = 3 ∧ (∀ j, j < 3 → rc[off + i * 3 + j]? = cs[j]?) ∧ DataW.trod enc pr W 0 (fun _ => true) true m tEn13 cs = some y ∧ ∀ z ∈ y.2, z ∈ ps := by
        intro i hi
        have hx : ∃ y, (W.cells? 0 ((⟨b, off, none⟩ : Addr).add (i * pr.cellsOf tEn13)) (pr.cellsOf tEn13)).bind (DataW.trod enc pr W 0 (fun _ => true) true m tEn13) = some y ∧ y ∈ elems ++ rest := by
          by_cases hl : i < len
          · have := e7 i hl
            rw [List.getElem?_eq_getElem (by omega)] at this
            exact ⟨_, this, List.mem_append_left _ (List.getElem_mem _)⟩
          · have := hrest.2 (i - len) (by omega)
            rw [show len + (i - len) = i from by omega, List.getElem?_eq_getElem (by rw [hrest.1]; omega)] at this
            exact ⟨_, this, List.mem_append_right _ (List.getElem_mem _)⟩
        obtain ⟨y, hy, hm⟩ := hx
        rw [c5, Option.bind_eq_some_iff] at hy
        obtain ⟨cs, hcs, hy⟩ := hy
        have hsz := (World.cells?_some hcs)
        refine ⟨cs, y, hsz.2.1, fun j hj => ?_, hy, fun z hz => ?_⟩
        · have := hsz.2.2 j hj
          rw [add_eq, add_eq] at this
          rw [← this]
          show rc[off + i * 3 + j]? = W.cell? ⟨b, off + i * 3 + j, none⟩
          rw [cell_at hb]
        · have := congrArg Prod.snd e2
          simp only at this
          rw [this]
          exact List.mem_append_right _ (List.mem_flatMap.2 ⟨y, hm, hz⟩)
      have hroom : off + cap * 3 ≤ rc.length := by
        rcases Nat.eq_zero_or_pos cap with q | q
        · omega
        · obtain ⟨cs, y, hl, hv', -⟩ := cell (cap - 1) (by omega)
          have h4 := hv' 2 (by omega)
          rw [List.getElem?_eq_getElem (by omega : 2 < cs.length)] at h4
          have := (List.getElem?_eq_some_iff.1 h4).1
          omega
      have hd : ∀ u, (pr.info? u).map (·.size) = some 1 → GoodB pr W ⟨b, off, 0, 1, true⟩ (.cells [] u true true) := fun u hcu =>
        ⟨fun ρ => ⟨rfl, rc, lo, hi, T0, hb, (fun z => by cases z), (fun i hi' => absurd hi' (Nat.not_lt_zero i)), by show off + 0 ≤ rc.length; omega, Nat.le_refl _, hcu, fun i v hv => by simp at hv⟩, rfl, hbs⟩
      have key : ∀ i : Nat, ∃ q : EnI × (RE × ABlk), i < cap → GoodB pr W q.2.1 q.2.2 ∧
          (∃ cs : List Value, cs.length = 3 ∧ (∀ j, j < 3 → rc[off + i * 3 + j]? = cs[j]?) ∧ ∀ ρ : Ren, ρ (id + 1 + i) = some q.2.1 → LRel ρ (eiC q.1) cs) ∧
          ∀ s : SS, lookH s.heap (id + 1 + i) = some q.2.2 → id + 1 + i < s.next → TsH s q.1.W q.1.vs := by
        intro i
        by_cases hi : i < cap
        · obtain ⟨cs, y, g1, g2, g3, g4⟩ := cell i hi
          obtain ⟨a, x1, k1, k3, k4⟩ := ent_cells g1 g3 (fun b off hbo => hnf b off (g4 _ hbo)) (hd tS (by kernel_rfl)) (id + 1 + i)
          exact ⟨(a, x1), fun _ => ⟨k1, ⟨cs, g1, g2, k3⟩, k4⟩⟩
        · exact ⟨(⟨0, [], none, []⟩, (⟨b, off, 0, 1, true⟩, .cells [] tS true true)), fun q => absurd q hi⟩
      obtain ⟨F, hF⟩ := Classical.axiomOfChoice key
      obtain ⟨l, hl⟩ : ∃ l, l = (List.range len).map fun i => (F i).1 := ⟨_, rfl⟩
      have ll : l.length = len := by rw [hl]; simp
      have lg : ∀ i (h : i < l.length), l[i] = (F i).1 := by
        intro i h
        simp only [hl, List.getElem_map, List.getElem_range]
      have inn : ∀ j, j < len → ((List.range len).map fun i => (F i).2)[j]? = some (F j).2 := fun j hj => by rw [List.getElem?_map, List.getElem?_range hj]; rfl
      refine ⟨some ⟨id, 0, none⟩, l, (⟨b, off, cap * 3, 3, true⟩, .cells (eiCs l) tEn13 true true) :: ((List.range len).map fun i => (F i).2), fun ρ hρ i x hx => ?_, fun ρ hρ => ?_, fun s hs => ⟨.inr ⟨id, true, eiCs l, rfl, ?_, hs.1 0 _ rfl, fun i x hx => eiCs_take hx⟩, fun a ha => ?_⟩⟩
      · have get : ∀ j, j < len → ρ (id + 1 + j) = some (F j).2.1 := by
          intro j hj
          have a1 := hρ (j + 1) _ (by rw [List.getElem?_cons_succ]; exact inn j hj)
          rw [show id + 1 + j = id + (j + 1) from by omega]
          exact a1
        match i, hx with
        | 0, hx =>
          cases hx
          refine ⟨⟨rfl, rc, lo, hi, T0, hb, (fun z => by cases z), fun i hi' hc2 => ?_, hroom, by rw [eiCs_len, ll]; exact Nat.mul_le_mul_right 3 h1, (by kernel_rfl), fun i v hv => ?_⟩, rfl, hbs⟩
          · have hi2 : i < cap * 3 := hi'
            have hc3 : lo ≤ off + i ∧ off + i < hi := hc2
            have hin : MemPlace.cell b (off + i) ∈ ps := by
              have := congrArg Prod.snd e2
              simp only at this
              rw [this]
              refine List.mem_append_left _ (List.mem_map.2 ⟨i, List.mem_range.2 ?_, rfl⟩)
              rw [c5, e6, hrest.1]
              have : len + (cap - len) = cap := by omega
              rw [this]
              exact hi2
            have := hnf b (off + i) hin
            simp only [World.frozen?, hb] at this
            simp at this
            omega
          · have hil := (List.getElem?_eq_some_iff.1 hv).1
            rw [eiCs_len, ll] at hil
            have hq : i / 3 < len := by omega
            have ei : i = i / 3 * 3 + i % 3 := by omega
            have hm5 : i % 3 < 3 := Nat.mod_lt _ (by decide)
            rw [ei, eiCs_get l (by omega) hm5, lg] at hv
            obtain ⟨-, ⟨cs, g1, g2, g3⟩, -⟩ := hF (i / 3) (by omega)
            have hrel := g3 ρ (get (i / 3) hq)
            have hlt : i % 3 < cs.length := by omega
            refine ⟨cs[i % 3], ?_, hrel.2 (i % 3) v _ hv (List.getElem?_eq_getElem hlt)⟩
            have := g2 (i % 3) hm5
            rw [List.getElem?_eq_getElem hlt] at this
            show rc[off + i]? = _
            rw [← this]
            congr 1
            omega
        | i + 1, hx =>
          rw [List.getElem?_cons_succ] at hx
          have hi2 := (List.getElem?_eq_some_iff.1 hx).1
          rw [List.length_map, List.length_range] at hi2
          rw [inn i hi2] at hx
          obtain rfl := Option.some.inj hx
          have := (hF i (by omega)).1
          exact ⟨this.1 ρ, this.2⟩
      · have := hρ 0 _ rfl
        rw [ll]
        exact .slice (.inl ⟨rfl, rfl, _, this, rfl, .inr ⟨rfl, ⟨h1, .inl rfl⟩, Nat.le_refl _, Nat.le_refl _, .inr rfl⟩⟩)
      · have := hs.2
        simp at this
        omega
      · rw [hl] at ha
        obtain ⟨j, hj, rfl⟩ := List.mem_map.1 ha
        have hj := List.mem_range.1 hj
        have a1 := hs.1 (j + 1) _ (by rw [List.getElem?_cons_succ]; exact inn j hj)
        have a3 := hs.2
        rw [List.length_cons, List.length_map, List.length_range] at a3
        refine (hF j (by omega)).2.2 s ?_ (by omega)
        rw [show id + 1 + j = id + (j + 1) from by omega]
        exact a1
    | _ => simp [World.shape?, hb] at h5
theorem arg_bt {v : Value} {d : DataW H} {ps : List MemPlace} {base : Nat} (hok : Value.okWide pr W .any base 23 v) (h : DataW.Trod enc pr W 0 (fun _ => true) true 23 v d ps) (hnf : ∀ b off, MemPlace.cell b off ∈ ps → W.frozen? ⟨b, off, none⟩ = false) (id : Nat) :
    ∃ (ba : Option Addr) (l : List UInt8) (xs : List (RE × ABlk)), GoodL pr W xs id ∧ (∀ ρ : Ren, Laid xs id ρ → VRel ρ (.slice ba l.length 0) v) ∧ ∀ s : SS, LaidS xs id s → BtR s ba l := by
  obtain ⟨ba, zs, xs, h1, h2, h3, h4, h5⟩ := arg_ints (k := .u8) (show pr.underlying 23 = some (.slice tB) by kernel_rfl) (show pr.underlying tB = some (.int .u8) by kernel_rfl) (by kernel_rfl) hok h hnf id
  refine ⟨ba, zs.map fun z => UInt8.ofNat z.toNat, xs, h1, fun ρ hρ => by rw [List.length_map]; exact h2 ρ hρ, fun s hs => ?_⟩
  rcases h5 with ⟨rfl, rfl⟩ | ⟨rfl, e1, rfl⟩
  · exact .inl rfl
  · have hb := hs.1 0 _ rfl
    have hlt : id + 0 < s.next := by have := hs.2; simp at this; omega
    rw [ints_bytes h3] at hb
    exact .inr ⟨id, _, _, _, rfl, hlt, hb⟩
theorem startM_relL {m : Int} {xs : List (RE × ABlk)} (g1 : GoodB pr W ⟨gMax, 0, 1, 1, false⟩ (.cells [.int .i64 m] 3 false true)) (hx : GoodL pr W xs (gMax + 1)) :
    HRel pr W.heap.size W (renO (bsM m xs)) (startM m xs).st W ∧ FreeFrom (renO (bsM m xs)) (startM m xs).next ∧ Gx (startM m xs) ∧ Fine (startM m xs) ∧ Laid xs (gMax + 1) (renO (bsM m xs)) ∧ LaidS xs (gMax + 1) (startM m xs) := by
  have k1 : gMax < W.heap.size := g1.2.2
  have hL : Laid xs (gMax + 1) (renO (bsM m xs)) := fun i x h => by
    show ((bsM m xs)[gMax + 1 + i]?).map Prod.fst = _
    rw [bsM_more, h]
    rfl
  have good := hx _ hL
  have all : ∀ i y, (bsM m xs)[i]? = some y → (i < gMax ∧ y = (⟨i, 0, 0, 1, false⟩, none)) ∨ (i = gMax ∧ y = (⟨gMax, 0, 1, 1, false⟩, some (.cells [.int .i64 m] 3 false true))) ∨ (∃ (j : Nat) (x : RE × ABlk), xs[j]? = some x ∧ y = (x.1, some x.2)) := fun i y h => by
    rcases Nat.lt_trichotomy i gMax with q | q | q
    · rw [bsM_low q] at h
      exact .inl ⟨q, (Option.some.inj h).symm⟩
    · subst q
      rw [bsM_at] at h
      exact .inr (.inl ⟨rfl, (Option.some.inj h).symm⟩)
    · obtain ⟨j, rfl⟩ : ∃ j, i = gMax + 1 + j := ⟨i - (gMax + 1), by omega⟩
      rw [bsM_more] at h
      cases hj : xs[j]? with
      | none => rw [hj] at h; cases h
      | some x =>
        rw [hj] at h
        exact .inr (.inr ⟨j, x, hj, (Option.some.inj h).symm⟩)
  obtain ⟨H1, H2⟩ := startO_rel (P := pr) (W := W) (bs := bsM m xs) (gl := gMax + 1) (fun i e b h => by
    rcases all i _ h with ⟨_, q⟩ | ⟨_, q⟩ | ⟨j, x, hm, q⟩
    · cases q
    · cases q; exact ⟨g1.1 _, g1.2.1⟩
    · cases q; exact ⟨(good j x hm).1, (good j x hm).2.1⟩) (fun i e b h => by
    rcases all i _ h with ⟨q1, q⟩ | ⟨_, q⟩ | ⟨j, x, hm, q⟩
    · cases q; exact Nat.lt_trans q1 k1
    · cases q; exact k1
    · cases q; exact (good j x hm).2.2) (fun g hg => by
    rcases Nat.lt_or_ge g gMax with q | q
    · exact ⟨_, _, bsM_low q, rfl, rfl⟩
    · obtain rfl : g = gMax := by omega
      exact ⟨_, _, bsM_at, rfl, rfl⟩)
  have lk : ∀ i, lookH (startM m xs).heap i = ((bsM m xs)[i]?.map Prod.snd).join := fun i => by
    show lookH (heapO 0 (bsM m xs)) i = _
    rw [heapO_look, if_pos (Nat.zero_le _), Nat.sub_zero]
  have nx : (startM m xs).next = gMax + 1 + xs.length := bsM_len m xs
  refine ⟨H1, H2, ⟨Nat.lt_succ_self _, by rw [nx]; show gMax < _; omega, m, by rw [lk, show gMx = gMax from rfl, bsM_at]; rfl⟩, startO_fine _ _, hL, fun i x h => ?_, by rw [nx]; exact Nat.le_refl _⟩
  rw [lk, bsM_more, h]
  rfl
end
end Go.Vf.S
end
