import Derived.Test.YtjkbllbjelpdpaaGreatDoorMg3
import Derived.Test.YtjkbllbjelpdpaaGreatDoorMg2
import Derived.Test.YtjkbllbjelpdpaaGreatDoorFn
import Derived.Test.YtjkbllbjelpdpaaGreatDoorEngBd
import Derived.LaidMore
import Derived.Lay
import Derived.OpenShut
import Derived.Handed
import Derived.Test.YtjkbllbjelpdpaaGreatDoorMg1
import Derived.Shelf.Vars
import Derived.Test.YtjkbllbjelpdpaaGreatDoorEngAt
section
/- Rows held against one another; the document's examples: wakes. -/
namespace Go.Vf.S
open Go Go.Vf Go.Proofs Go.RowKit
attribute [local irreducible] wSeq wRow wp wG
set_option linter.unusedVariables false
set_option linter.unusedSimpArgs false
set_option maxRecDepth 10000

theorem eqT_w {s : SS} {fa fb : List (List UInt8)} {W V : Option Addr} {cw cv : Nat} (ha : TsR s W fa) (hb : TsR s V fb) (hn : fa.length ≤ 100000) (hn2 : fb.length ≤ 100000) :
    CallW pr n_slices_Equal_string_string [.slice W fa.length cw, .slice V fb.length cv] s fun v s' => v = .bool (decide (fa = fb)) ∧ s' = s := by
  refine CallW.run good ok_slices_Equal_string_string (by simp) rfl ?_
  (try refine pSeq ?_); (repeat(first|refine sb ?_|refine kNo ?_))
  intro q hq
  by_cases x1 : fa.length = fb.length
  · obtain rfl : q = false := by rw [hq]; simp; omega
    (repeat(first|refine sb ?_|refine kNo ?_))
    refine pLoop (MW.head good (fun i : Nat => fa.length - i) (fun i => i ≤ fa.length ∧ fa.take i = fb.take i) (fun i => [(0, .slice W fa.length cw), (1, .slice V fb.length cv), (12, .int .i64 fa.length), (13, .int .i64 i)]) (fun i => s) 0 ⟨Nat.zero_le _, rfl⟩ (Wk.same ⟨rfl, rfl, rfl, rfl, trivial⟩) ?_)
    intro i ⟨h1, h2⟩
    (repeat(first|refine sb ?_|refine kNo ?_))
    intro q hq
    by_cases hlt : i < fa.length
    · obtain rfl : q = true := by rw [hq]; simp; omega
      obtain ⟨f, hf⟩ : ∃ f, fa[i]? = some f := ⟨_, List.getElem?_eq_getElem hlt⟩
      obtain ⟨g, hg⟩ : ∃ f, fb[i]? = some f := ⟨_, List.getElem?_eq_getElem (by omega)⟩
      obtain ⟨b1, t1, g1, r1, rfl, l1, cs1, hb1', hcs1⟩ := ha.resolve_left (fun e => by rw [e] at hlt; simp at hlt)
      obtain ⟨b2, t2, g2, r2, rfl, l2, cs2, hb2', hcs2⟩ := hb.resolve_left (fun e => by rw [e] at x1; simp at x1; rw [x1] at hlt; simp at hlt)
      (repeat(first|refine sb ?_|refine kNo ?_))
      refine ⟨by omega, ?_⟩
      intro m hm o ho
      obtain rfl : m = i := by omega
      (repeat(first|refine sb ?_|refine kNo ?_))
      refine ldS_is (l := f) rfl hb1' (by rw [ho, Nat.zero_add, Nat.mul_one]; exact hcs1 m f hf) ?_
      (repeat(first|refine sb ?_|refine kNo ?_))
      refine ⟨by omega, ?_⟩
      intro m2 hm2 o2 ho2
      obtain rfl : m2 = m := by omega
      (repeat(first|refine sb ?_|refine kNo ?_))
      refine ldS_is (l := g) rfl hb2' (by rw [ho2, Nat.zero_add, Nat.mul_one]; exact hcs2 m2 g hg) ?_
      (repeat(first|refine sb ?_|refine kNo ?_))
      intro q hq
      by_cases he : f = g
      · obtain rfl : q = false := by rw [hq]; simp [he]
        (repeat(first|refine sb ?_|refine kNo ?_))
        intro z hz
        rw [i64_id (by omega)] at hz
        (repeat(first|refine sb ?_|refine kNo ?_))
        exact ⟨m2 + 1, ⟨by omega, by rw [take_next hf, take_next hg, h2, he]⟩, by show fa.length - (m2 + 1) < fa.length - m2; omega, Wk.same ⟨rfl, rfl, rfl, by rw [show z = ((m2 + 1 : Nat) : Int) by omega]; rfl, trivial⟩⟩
      · obtain rfl : q = true := by rw [hq]; simp [he]
        (repeat(first|refine sb ?_|refine kNo ?_))
        refine ⟨congrArg Value.bool (decide_eq_false (fun h => he ?_)).symm, rfl⟩
        rw [h, hg] at hf
        exact (Option.some.inj hf).symm
    · obtain rfl : q = false := by rw [hq]; simp; omega
      obtain rfl : i = fa.length := by omega
      (repeat(first|refine sb ?_|refine kNo ?_))
      refine ⟨congrArg Value.bool (decide_eq_true ?_).symm, rfl⟩
      rwa [List.take_length, x1, List.take_length] at h2
  · obtain rfl : q = true := by rw [hq]; simp; omega
    (repeat(first|refine sb ?_|refine kNo ?_))
    exact ⟨congrArg Value.bool (decide_eq_false (fun h => x1 (by rw [h]))).symm, rfl⟩
theorem eqT_same {s : SS} {fa : List (List UInt8)} {W V : Option Addr} {cw cv : Nat} (ha : TsR s W fa) (hb : TsR s V fa) (hn : fa.length ≤ 100000) :
    CallW pr n_slices_Equal_string_string [.slice W fa.length cw, .slice V fa.length cv] s fun v s' => v = .bool true ∧ s' = s :=
  (eqT_w ha hb hn hn).mono fun v s q => ⟨q.1.trans (congrArg Value.bool (decide_eq_true rfl)), q.2⟩
theorem flCs_take {R : List (Nat × Nat)} {k : Nat} {x : Nat × Nat} (h : R[k]? = some x) : takeN 2 ((flCs R).drop (k * 2)) = some (flC x) := by
  have hd : ∀ (R : List (Nat × Nat)) (k : Nat), (flCs R).drop (k * 2) = flCs (R.drop k) := by
    intro R
    unfold flCs
    induction R with
    | nil => intro k; simp
    | cons x R ih =>
      intro k
      cases k with
      | zero => simp
      | succ k =>
        rw [List.drop_succ_cons, ← ih k, List.flatMap_cons, List.drop_append, show (k + 1) * 2 = (flC x).length + k * 2 by simp [flC]; omega, List.drop_of_length_le (by omega), List.nil_append]
        congr 1
        omega
  obtain ⟨hk, e⟩ := List.getElem?_eq_some_iff.1 h
  rw [hd, List.drop_eq_getElem_cons hk, e]
  rfl
theorem eqF13_w {s : SS} {fa fb : List (Nat × Nat)} {W V : Option Addr} {cw cv : Nat} (ha : FlR s W fa) (hb : FlR s V fb) (hn : fa.length ≤ 100000) (hn2 : fb.length ≤ 100000) :
    CallW pr n_slices_Equal_lines_Fault_lines_Fault [.slice W fa.length cw, .slice V fb.length cv] s fun v s' => v = .bool (decide (fa = fb)) ∧ s' = s := by
  refine CallW.run good ok_slices_Equal_lines_Fault_lines_Fault (by simp) rfl ?_
  (try refine pSeq ?_); (repeat(first|refine sb ?_|refine kNo ?_))
  intro q hq
  by_cases x1 : fa.length = fb.length
  · obtain rfl : q = false := by rw [hq]; simp; omega
    (repeat(first|refine sb ?_|refine kNo ?_))
    refine pLoop (MW.head good (fun i : Nat => fa.length - i) (fun i => i ≤ fa.length ∧ fa.take i = fb.take i) (fun i => [(0, .slice W fa.length cw), (1, .slice V fb.length cv), (12, .int .i64 fa.length), (13, .int .i64 i)]) (fun i => s) 0 ⟨Nat.zero_le _, rfl⟩ (Wk.same ⟨rfl, rfl, rfl, rfl, trivial⟩) ?_)
    intro i ⟨h1, h2⟩
    (repeat(first|refine sb ?_|refine kNo ?_))
    intro q hq
    by_cases hlt : i < fa.length
    · obtain rfl : q = true := by rw [hq]; simp; omega
      obtain ⟨f, hf⟩ : ∃ f, fa[i]? = some f := ⟨_, List.getElem?_eq_getElem hlt⟩
      obtain ⟨g, hg⟩ : ∃ f, fb[i]? = some f := ⟨_, List.getElem?_eq_getElem (by omega)⟩
      obtain ⟨b1, t1, g1, r1, rfl, l1, hb1'⟩ := ha.resolve_left (fun e => by rw [e] at hlt; simp at hlt)
      obtain ⟨b2, t2, g2, r2, rfl, l2, hb2'⟩ := hb.resolve_left (fun e => by rw [e] at x1; simp at x1; rw [x1] at hlt; simp at hlt)
      obtain ⟨f1, f2⟩ := f
      obtain ⟨g1', g2'⟩ := g
      (repeat(first|refine sb ?_|refine kNo ?_))
      refine ⟨by omega, ?_⟩
      intro m hm o ho
      obtain rfl : m = i := by omega
      (repeat(first|refine sb ?_|refine kNo ?_))
      refine ldN_is rfl hb1' (by rw [ho, Nat.zero_add]; exact flCs_take hf) ?_
      (repeat(first|refine sb ?_|refine kNo ?_))
      refine ⟨by omega, ?_⟩
      intro m2 hm2 o2 ho2
      obtain rfl : m2 = m := by omega
      (repeat(first|refine sb ?_|refine kNo ?_))
      refine ldN_is rfl hb2' (by rw [ho2, Nat.zero_add]; exact flCs_take hg) ?_
      (repeat(first|refine sb ?_|refine kNo ?_))
      intro q hq
      by_cases he : f1 = g1' ∧ f2 = g2'
      · obtain ⟨rfl, rfl⟩ := he
        obtain rfl : q = false := by rw [hq]; simp
        (repeat(first|refine sb ?_|refine kNo ?_))
        intro z hz
        rw [i64_id (by omega)] at hz
        (repeat(first|refine sb ?_|refine kNo ?_))
        exact ⟨m2 + 1, ⟨by omega, by rw [take_next hf, take_next hg, h2]⟩, by show fa.length - (m2 + 1) < fa.length - m2; omega, Wk.same ⟨rfl, rfl, rfl, by rw [show z = ((m2 + 1 : Nat) : Int) by omega]; rfl, trivial⟩⟩
      · obtain rfl : q = true := by rw [hq]; simp; omega
        (repeat(first|refine sb ?_|refine kNo ?_))
        refine ⟨congrArg Value.bool (decide_eq_false (fun h => he ?_)).symm, rfl⟩
        rw [h, hg] at hf
        have := Option.some.inj hf
        exact ⟨(Prod.mk.inj this).1.symm, (Prod.mk.inj this).2.symm⟩
    · obtain rfl : q = false := by rw [hq]; simp; omega
      obtain rfl : i = fa.length := by omega
      (repeat(first|refine sb ?_|refine kNo ?_))
      refine ⟨congrArg Value.bool (decide_eq_true ?_).symm, rfl⟩
      rwa [List.take_length, x1, List.take_length] at h2
  · obtain rfl : q = true := by rw [hq]; simp; omega
    (repeat(first|refine sb ?_|refine kNo ?_))
    exact ⟨congrArg Value.bool (decide_eq_false (fun h => x1 (by rw [h]))).symm, rfl⟩
theorem eqF_same {s : SS} {fa : List (Nat × Nat)} {W V : Option Addr} {cw cv : Nat} (ha : FlR s W fa) (hb : FlR s V fa) (hn : fa.length ≤ 100000) :
    CallW pr n_slices_Equal_lines_Fault_lines_Fault [.slice W fa.length cw, .slice V fa.length cv] s fun v s' => v = .bool true ∧ s' = s :=
  (eqF13_w ha hb hn hn).mono fun v s q => ⟨q.1.trans (congrArg Value.bool (decide_eq_true rfl)), q.2⟩
theorem one_ent {xs : List EnV} {e : Ent} (h : xs.map (·.e) = [e]) : ∃ W, xs = [⟨e, W⟩] := by
  cases xs with
  | nil => cases h
  | cons x r =>
    obtain ⟨a, W⟩ := x
    rw [List.map_cons] at h
    obtain ⟨rfl, h2⟩ := List.cons.inj h
    rw [List.map_eq_nil_iff] at h2
    exact ⟨W, by rw [h2]⟩
def wk1 : List UInt8 := [97, 58, 32, 98, 44, 32, 34, 99, 44, 32, 100, 34]
def wk2 : List UInt8 := [97, 58, 32, 98, 10, 32, 44, 32, 99]
def wk3 : List UInt8 := [120, 10, 97, 58, 32, 98, 10, 65, 58, 32, 99]
theorem tab_wk1 : tabF wk1 true = ([⟨1, [97], [[98], [99, 44, 32, 100]]⟩], []) := by kernel_rfl
theorem tab_wk2 : tabF wk2 true = ([⟨1, [97], [[98], [99]]⟩], []) := by kernel_rfl
theorem tab_wk3 : tabF wk3 true = ([⟨2, [97], [[98]]⟩], [(1, 5), (3, 9)]) := by kernel_rfl
theorem FlR.none {s : SS} {V : Option Addr} : FlR s V [] := .inl rfl
/-- Entries of which there is one. -/
theorem parse_one {s : SS} {l : List UInt8} {vals : Bool} {e : Ent} {fs : List (Nat × Nat)} (f : Fine s) (hl : l.length ≤ 10000) (h : tabF l vals = ([e], fs)) : CallW pr n_lines_Parse [str l, .bool vals] s fun v s' =>
    ∃ b g V cv We, v = .tuple ⟨[.slice (some ⟨b, 0, none⟩) 1 0, .slice V fs.length cv]⟩ ∧ b < s'.next ∧ lookH s'.heap b = some (.cells (enC ⟨e, We⟩) tEn13 g false) ∧ TsR s' We e.vs ∧ FlR s' V fs ∧ (∀ id ∈ blkOf V, s.next ≤ id) ∧ Chg s s' [] := by
  refine (parse13_w (vals := vals) f hl).mono fun v s1 q => ?_
  obtain ⟨W, V, cv, xs, fs', rfl, hT, hA, hF, hV, c1⟩ := q
  rw [h] at hT
  obtain ⟨hx, rfl⟩ := Prod.mk.inj hT
  obtain ⟨We, rfl⟩ := one_ent hx
  obtain ⟨b, g, rfl, kb⟩ := hA.own.pos (by simp)
  refine ⟨b, g, V, cv, We, rfl, hA.own.2.2.1, ?_, TsO.rd (hA.vals ⟨e, We⟩ (by simp)), hF, hV, c1⟩
  rw [kb]
  rfl
set_option maxHeartbeats 1000000 in
theorem wakes13_w {s : SS} (f : Fine s) : CallW pr n_law13_wakes [] s fun v s' => v = .bool true ∧ Chg s s' [] := by
  refine CallW.run good ok_law13_wakes (by simp) rfl ?_
  (try refine pSeq ?_); (repeat(first|refine sb ?_|refine gOn rfl ?_|refine gOff rfl rfl ?_|refine gTup rfl ?_))
  refine (parse_one (l := wk1) f (by decide) tab_wk1).mono fun v s1 q => ?_
  obtain ⟨b1, g1, V1, cv1, W1, rfl, l1, k1, t1, fl1, hV1, c1⟩ := q
  (repeat(first|refine sb ?_|refine gOn rfl ?_|refine gOff rfl rfl ?_|refine gTup rfl ?_))
  refine (parse_one (l := wk2) (c1.fine f) (by decide) tab_wk2).mono fun v s2 q => ?_
  obtain ⟨b2, g2, V2, cv2, W2, rfl, l2, k2, t2, fl2, hV2, c2⟩ := q
  (repeat(first|refine sb ?_|refine gOn rfl ?_|refine gOff rfl rfl ?_|refine gTup rfl ?_))
  refine (parse_one (l := wk3) (c2.fine (c1.fine f)) (by decide) tab_wk3).mono fun v s3 q => ?_
  obtain ⟨b3, g3, V3, cv3, W3, rfl, l3, k3, t3, fl3, hV3, c3⟩ := q
  have f3 := c3.fine (c2.fine (c1.fine f))
  have k1 := c3.blk _ _ (Nat.lt_of_lt_of_le l1 c2.next) (by simp) (c2.blk _ _ l1 (by simp) k1)
  have k2 := c3.blk _ _ l2 (by simp) k2
  have t1 := (t1.nil c2).nil c3
  have t2 := t2.nil c3
  (repeat(first|refine sb ?_|refine gOn rfl ?_|refine gOff rfl rfl ?_|refine gTup rfl ?_))
  intro q hq
  obtain rfl : q = true := by rw [hq]; decide
  (repeat(first|refine sb ?_|refine gOn rfl ?_|refine gOff rfl rfl ?_|refine gTup rfl ?_))
  intro q hq
  obtain rfl : q = true := by rw [hq]; decide
  (repeat(first|refine sb ?_|refine gOn rfl ?_|refine gOff rfl rfl ?_|refine gTup rfl ?_))
  refine ⟨by decide, ?_⟩
  intro m hm o ho
  obtain rfl : m = 0 := by omega
  obtain rfl : o = 0 := by omega
  (repeat(first|refine sb ?_|refine gOn rfl ?_|refine gOff rfl rfl ?_|refine gTup rfl ?_))
  refine ldS_is (l := [97]) rfl k1 rfl ?_
  (repeat(first|refine sb ?_|refine gOn rfl ?_|refine gOff rfl rfl ?_|refine gTup rfl ?_))
  intro q hq
  obtain rfl : q = true := by rw [hq]; decide
  (repeat(first|refine sb ?_|refine gOn rfl ?_|refine gOff rfl rfl ?_|refine gTup rfl ?_))
  refine ⟨by decide, ?_⟩
  intro m hm o ho
  obtain rfl : m = 0 := by omega
  obtain rfl : o = 0 := by omega
  (repeat(first|refine sb ?_|refine gOn rfl ?_|refine gOff rfl rfl ?_|refine gTup rfl ?_))
  refine ld1_is rfl k1 rfl ?_
  (repeat(first|refine sb ?_|refine gOn rfl ?_|refine gOff rfl rfl ?_|refine gTup rfl ?_))
  have cm := Chg.new (s := s3) (b := .cells (strV [[98], [99, 44, 32, 100]]) tS false false) []
  refine (eqT_same (fa := [[98], [99, 44, 32, 100]]) (t1.nil cm) (.inr ⟨_, _, _, _, rfl, Nat.lt_succ_self _, _, lkH, fun i x hx => strV_get hx⟩) (by decide)).mono fun v s q => ?_
  obtain ⟨rfl, rfl⟩ := q
  (repeat(first|refine sb ?_|refine gOn rfl ?_|refine gOff rfl rfl ?_|refine gTup rfl ?_))
  have k2 := cm.blk _ _ (Nat.lt_of_lt_of_le l2 c3.next) (by simp) k2
  have k3 := cm.blk _ _ l3 (by simp) k3
  have t2 := t2.nil cm
  have fl3 := fl3.chg cm (fun _ _ q => by cases q)
  have c13 := (c1.nil (c2.nil c3)).nil cm
  intro q hq
  obtain rfl : q = true := by rw [hq]; decide
  (repeat(first|refine sb ?_|refine gOn rfl ?_|refine gOff rfl rfl ?_|refine gTup rfl ?_))
  intro q hq
  obtain rfl : q = true := by rw [hq]; decide
  (repeat(first|refine sb ?_|refine gOn rfl ?_|refine gOff rfl rfl ?_|refine gTup rfl ?_))
  refine ⟨by decide, ?_⟩
  intro m hm o ho
  obtain rfl : m = 0 := by omega
  obtain rfl : o = 0 := by omega
  (repeat(first|refine sb ?_|refine gOn rfl ?_|refine gOff rfl rfl ?_|refine gTup rfl ?_))
  refine ld1_is rfl k2 rfl ?_
  (repeat(first|refine sb ?_|refine gOn rfl ?_|refine gOff rfl rfl ?_|refine gTup rfl ?_))
  have cm2 := Chg.new (s := { s3 with heap := (s3.next, some (.cells (strV [[98], [99, 44, 32, 100]]) tS false false)) :: s3.heap, next := s3.next + 1 }) (b := .cells (strV [[98], [99]]) tS false false) []
  refine (eqT_same (fa := [[98], [99]]) (t2.nil cm2) (.inr ⟨_, _, _, _, rfl, Nat.lt_succ_self _, _, lkH, fun i x hx => strV_get hx⟩) (by decide)).mono fun v s q => ?_
  obtain ⟨rfl, rfl⟩ := q
  have k3 := cm2.blk _ _ (Nat.lt_of_lt_of_le l3 cm.next) (by simp) k3
  have fl3 := fl3.chg cm2 (fun _ _ q => by cases q)
  have c13 := c13.nil cm2
  (repeat(first|refine sb ?_|refine gOn rfl ?_|refine gOff rfl rfl ?_|refine gTup rfl ?_))
  intro q hq
  obtain rfl : q = true := by rw [hq]; decide
  (repeat(first|refine sb ?_|refine gOn rfl ?_|refine gOff rfl rfl ?_|refine gTup rfl ?_))
  refine ⟨by decide, ?_⟩
  intro m hm o ho
  obtain rfl : m = 0 := by omega
  obtain rfl : o = 0 := by omega
  (repeat(first|refine sb ?_|refine gOn rfl ?_|refine gOff rfl rfl ?_|refine gTup rfl ?_))
  refine ldI_is (z := 2) rfl k3 rfl ?_
  (repeat(first|refine sb ?_|refine gOn rfl ?_|refine gOff rfl rfl ?_|refine gTup rfl ?_))
  intro q hq
  obtain rfl : q = true := by rw [hq]; decide
  (repeat(first|refine sb ?_|refine gOn rfl ?_|refine gOff rfl rfl ?_|refine gTup rfl ?_))
  have cm3 := Chg.new (s := { s3 with heap := (s3.next + 1, some (.cells (strV [[98], [99]]) tS false false)) :: (s3.next, some (.cells (strV [[98], [99, 44, 32, 100]]) tS false false)) :: s3.heap, next := s3.next + 1 + 1 }) (b := .cells (flCs [(1, 5), (3, 9)]) tFt13 false false) []
  refine (eqF_same (fa := [(1, 5), (3, 9)]) (fl3.chg cm3 (fun _ _ q => by cases q)) (.inr ⟨_, _, _, _, rfl, Nat.lt_succ_self _, lkH⟩) (by decide)).mono fun v s q => ?_
  obtain ⟨rfl, rfl⟩ := q
  (repeat(first|refine sb ?_|refine gOn rfl ?_|refine gOff rfl rfl ?_|refine gTup rfl ?_))
  exact ⟨rfl, c13.nil cm3⟩
end Go.Vf.S
end
section
/- Tables as texts, pure: what the laws bring; the pieces that they put between. -/
namespace Go.Vf.S
open Go Go.Vf
set_option linter.unusedVariables false
set_option linter.unusedSimpArgs false
set_option maxRecDepth 10000

/-! ### Printable words -/
def prC (c : UInt8) : UInt8 := 32 + c % 95
def prW (l : List UInt8) : List UInt8 := l.map prC
theorem pr_tx (l : List UInt8) : (prW l).all txB = true := by
  have key : (List.range 256).all (fun n => txB (prC (UInt8.ofNat n))) = true := by decide +kernel
  refine List.all_eq_true.2 fun c hc => ?_
  obtain ⟨x, hx, rfl⟩ := List.mem_map.1 hc
  have := List.all_eq_true.1 key x.toNat (List.mem_range.2 x.toNat_lt)
  rw [show UInt8.ofNat x.toNat = x by simp] at this
  exact this
theorem pr_nat (c : UInt8) : (prC c).toNat = 32 + c.toNat % 95 := by
  have key : (List.range 256).all (fun n => decide ((prC (UInt8.ofNat n)).toNat = 32 + (UInt8.ofNat n).toNat % 95)) = true := by decide +kernel
  have := List.all_eq_true.1 key c.toNat (List.mem_range.2 c.toNat_lt)
  rw [show UInt8.ofNat c.toNat = c by simp] at this
  exact of_decide_eq_true this
theorem pr_len (l : List UInt8) : (prW l).length = l.length := List.length_map _
/-! ### How long -/
theorem qt_len (s : List UInt8) : (qtF s).length ≤ 2 * s.length + 2 := by
  have hf : ∀ l : List UInt8, (l.flatMap esB).length ≤ 2 * l.length := by
    intro l
    induction l with
    | nil => simp
    | cons c l ih =>
      rw [List.flatMap_cons, List.length_append, List.length_cons]
      have : (esB c).length ≤ 2 := by unfold esB; split <;> simp
      omega
  unfold qtF
  split
  · omega
  · rw [List.length_append, List.length_cons, List.length_singleton]
    have := hf s
    omega
theorem jn_size {p q : List UInt8} {m : Nat} (hm : p.length + q.length ≤ 4) : ∀ ws : List (List UInt8), (∀ w ∈ ws, w.length ≤ m) → (jnV p q ws).length ≤ ws.length * (2 * m + 7)
  | [], _ => by simp [jnV]
  | [w], h => by
    show (p ++ qtF w ++ q).length ≤ _
    have := qt_len w
    have := h w (by simp)
    rw [List.length_append, List.length_append, List.length_singleton]
    omega
  | w :: v :: r, h => by
    have ih := jn_size (p := p) (q := q) hm (v :: r) fun x hx => h x (by simp [List.mem_cons.1 hx])
    have := qt_len w
    have := h w (by simp)
    rw [jnV_two, List.length_append, List.length_append, List.length_append, List.length_cons]
    rw [List.length_cons (a := w), Nat.succ_mul]
    omega
/-! ### Items one behind the other -/
/-! ### What is none -/
theorem none_0 : wdF 44 [] = none := by decide
theorem none_1 : wdF 44 [32, 34, 120] = none := by decide
theorem none_2 : wdF 44 [32, 120, 34, 121] = none := by decide
theorem none_3 : wdF 44 [32, 34, 120, 34, 32, 121] = none := by decide
theorem none_comma (l : List UInt8) : wdF 44 (44 :: l) = none := by
  unfold wdF
  rw [trL_not (by decide)]
  show (if (34 : UInt8) ∈ (44 :: l).takeWhile (· != 44) ∨ trB ((44 :: l).takeWhile (· != 44)) = [] then none else _) = none
  rw [show (44 :: l).takeWhile (· != 44) = [] from rfl, if_pos (.inr rfl)]
theorem none_ws {p : List UInt8} (h : p.all wsB = true) : wdF 44 p = none := by
  unfold wdF
  rw [trL_all h]
  rfl
theorem vlu_comma (l : List UInt8) : vluF (44 :: l) = ([], 5) := by
  unfold vluF
  have : vsF ((44 :: l).length + 1) (44 :: l) = none := by
    show (match wdF 44 (44 :: l) with
      | none => none
      | some (w, none) => some [w]
      | some (w, some r) => (vsF (44 :: l).length r).map (w :: ·)) = none
    rw [none_comma]
  rw [this]
  split <;> rfl
theorem vlu_ws {p : List UInt8} (h : p.all wsB = true) : vluF p = ([], 5) := by
  unfold vluF
  have : vsF (p.length + 1) p = none := by
    show (match wdF 44 p with
      | none => none
      | some (w, none) => some [w]
      | some (w, some r) => (vsF p.length r).map (w :: ·)) = none
    rw [none_ws h]
  rw [this]
  split <;> rfl
theorem vlu_one (s : List UInt8) : vluF (s ++ [1]) = ([], 5) := by
  unfold vluF
  rw [if_neg (by rw [List.all_append]; simp [txB])]
end Go.Vf.S
end
section
/- Texts repeated, joined, brought to printable bytes. -/
namespace Go.Vf.S
open Go Go.Vf Go.Proofs Go.RowKit
attribute [local irreducible] wSeq wRow wp wG
set_option linter.unusedVariables false
set_option linter.unusedSimpArgs false
set_option maxRecDepth 10000

theorem repeat13_w {s : SS} {l : List UInt8} {n : Nat} (hn : n ≤ 1000000) (hl : l.length ≤ 1000) : CallW pr n_strings_Repeat [str l, .int .i64 n] s fun v s' => v = str (Lib.repeatL l n) ∧ s' = s := by
  refine CallW.kit rfl fun B w0 ρ args' w H hr => ?_
  obtain ⟨v1, v2, rfl, q1, q2⟩ := lrel_2 hr
  obtain rfl := str_inv q1
  obtain rfl := int_inv q2
  exact Any.strings_Repeat Tryz.lays105 Tryz.Builder_Extra_105 ⟨⟨l⟩⟩ n w (by omega) (by
    show l.length * n ≤ _
    have : l.length * n ≤ 1000 * 1000000 := Nat.mul_le_mul hl hn
    omega)
theorem repeat_one (c : UInt8) (n : Nat) : Lib.repeatL [c] n = List.replicate n c := by
  induction n with
  | zero => rfl
  | succ n ih => rw [Lib.repeatL, ih]; rfl
theorem joinA13_w {s : SS} {W : Option Addr} {cw : Nat} {ls : List (List UInt8)} {c : List UInt8} (h : OwnR tS s W cw ls.length (strV ls)) (h0 : 0 < ls.length) (hn : ls.length ≤ 1000001) (hlen : (Lib.join ls c).length ≤ 1000000) :
    CallW pr 18 [.slice W ls.length cw, str c] s fun v s' => v = str (Lib.join ls c) ∧ s' = s := by
  obtain ⟨b, g, rfl, h1⟩ := h.pos h0
  have hfull : g = false → cw = ls.length := by
    obtain ⟨-, -, -, g', h4, h5⟩ := h
    rw [h1] at h4
    cases h4
    exact h5
  refine CallW.kit rfl fun B w0 ρ args' w H ha => ?_
  obtain ⟨v1, v2, rfl, q1, q2⟩ := lrel_2 ha
  obtain ⟨a', c', rfl, q3⟩ := slice_inv q1
  obtain rfl := str_inv q2
  have key : ∃ e, ρ b = some e ∧ a' = ⟨e.blk, e.off, none⟩ ∧ ls.length ≤ c' := by
    rcases q3 with ⟨_, z1, e, z2, z3, z4⟩ | ⟨_, z1, _⟩
    · refine ⟨e, z2, ?_, ?_⟩
      · rw [addr_eq z1, z3]
        rcases z4 with ⟨_, z5, _⟩ | ⟨_, _, _, _, z5⟩
        · rw [z5]; rfl
        · rcases z5 with z5 | z5
          · omega
          · rw [z5]; rfl
      · rcases z4 with ⟨y, _, z5⟩ | ⟨_, z5, _⟩
        · have hb' : s.st.heap.get b = some (.cells (strV ls) tS g false) := by rw [SS.get]; exact h1
          have hg := (H.blk _ _ _ hb' z2).1
          have := hfull (by rw [← hg]; exact y)
          omega
        · exact z5.1
    · omega
  obtain ⟨e, he, rfl, hc'⟩ := key
  have hcells : ∀ (j : Nat) x, (ls.map fun l => (⟨⟨l⟩⟩ : ByteArray))[j]? = some x → w.cell? ⟨e.blk, e.off + j, none⟩ = some (.string x) := fun j x hx => by
    rw [List.getElem?_map] at hx
    cases hl : ls[j]? with
    | none => rw [hl] at hx; cases hx
    | some l =>
      rw [hl] at hx
      obtain rfl := Option.some.inj hx
      obtain ⟨v', p1, p2⟩ := H.cellAt h1 he (show (strV ls)[j]? = some (str l) by simp only [strV, List.getElem?_map, hl]; rfl)
      rw [p1, str_inv p2]
  have eq1 : ((ls.map fun l => (⟨⟨l⟩⟩ : ByteArray)).map (·.data.toList)) = ls := by simp [List.map_map, Function.comp_def]
  have := Any.strings_Join Tryz.lays156 Tryz.Builder_Extra_156 e.blk e.off c' (ls.map fun l => (⟨⟨l⟩⟩ : ByteArray)) ⟨⟨c⟩⟩ w hcells (H.lt _ _ he) (by simp; omega) (by simpa using hc') (by rw [eq1]; show (Lib.join ls c).length ≤ _; omega)
  rw [eq1, List.length_map] at this
  exact this

theorem prW_next {l : List UInt8} {i : Nat} {c : UInt8} (h : l[i]? = some c) : (prW l).take (i + 1) ++ l.drop (i + 1) = ((prW l).take i ++ l.drop i).set i (prC c) := by
  obtain ⟨hi, e⟩ := List.getElem?_eq_some_iff.1 h
  have h1 : (prW l)[i]? = some (prC c) := by unfold prW; rw [List.getElem?_map, h]; rfl
  rw [take_next h1, List.drop_eq_getElem_cons hi, e, List.set_append_right _ _ (by rw [List.length_take, pr_len]; omega), List.length_take, pr_len, show i - min i l.length = 0 by omega, List.append_assoc]
  rfl
structure PrIx where
  i : Nat
  s : SS
theorem printed13_w {s : SS} {l : List UInt8} (hl : l.length ≤ 100000) : CallW pr n_law13_printed [str l] s fun v s' => v = str (prW l) ∧ Chg s s' [] := by
  refine CallW.run good ok_law13_printed (by simp) rfl ?_
  (try refine pSeq ?_); (repeat refine sb ?_)
  refine ⟨by omega, ?_⟩
  (repeat refine sb ?_)
  refine pLoop (MW.head good (fun x : PrIx => l.length - x.i) (fun x => x.i ≤ l.length ∧ lookH x.s.heap s.next = some (.cells (bytesV ((prW l).take x.i ++ l.drop x.i)) tB true false) ∧ s.next < x.s.next ∧ Chg s x.s []) (fun x => [(3, .slice (some ⟨s.next, 0, none⟩) l.length 0), (8, .int .i64 (l.length : Int)), (9, .int .i64 (x.i : Int))]) (fun x => x.s) ⟨0, _⟩ ⟨Nat.zero_le _, lkH, Nat.lt_succ_self _, .new _⟩ (Wk.same ⟨rfl, rfl, rfl, trivial⟩) ?_)
  rintro ⟨i, s1⟩ ⟨hi, hb, hlt, c1⟩
  dsimp only at hi hb hlt c1 ⊢
  (repeat refine sb ?_)
  intro q hq
  by_cases hl2 : i < l.length
  · obtain rfl : q = true := by rw [hq]; simp; omega
    obtain ⟨c, hc⟩ : ∃ c, l[i]? = some c := ⟨_, List.getElem?_eq_getElem hl2⟩
    have hmid : ((prW l).take i ++ l.drop i)[i]? = some c := by
      rw [List.getElem?_append_right (by rw [List.length_take, pr_len]; omega), List.length_take, pr_len, show i - min i l.length = 0 by omega, List.getElem?_drop]
      exact hc
    have c256 := c.toNat_lt
    have hnx := prW_next hc
    have hpc := pr_nat c
    (repeat refine sb ?_)
    refine ⟨by omega, ?_⟩
    intro m hm o ho
    obtain rfl : m = i := by omega
    (repeat refine sb ?_)
    refine ldI_is rfl hb (by rw [ho, Nat.mul_one, Nat.zero_add]; exact bytesV_at hmid) ?_
    (repeat refine sb ?_)
    refine ⟨by decide, ?_⟩
    intro z hz
    (repeat refine sb ?_)
    intro z2 hz2
    (repeat refine sb ?_)
    refine ⟨by omega, ?_⟩
    intro m2 hm2 o2 ho2
    obtain rfl : m2 = m := by omega
    have hz3 : z2 = ((prC c).toNat : Int) := by
      have h1 : z = ((c.toNat % 95 : Nat) : Int) := by rw [hz]; exact (Int.ofNat_tmod c.toNat 95).symm
      rw [hpc, hz2, h1, wrap_u8]
      omega
    subst hz3
    (repeat refine sb ?_)
    refine st_abs (cs' := bytesV ((prW l).take (m2 + 1) ++ l.drop (m2 + 1))) rfl rfl hb hlt rfl ?_ fun s2 e2 c2 n2 => ?_
    · rw [hnx, ho2, Nat.zero_add, Nat.mul_one]
      refine (setRow_one (by rw [bytesV_len, List.length_append, List.length_take, List.length_drop, pr_len]; omega)).trans ?_
      unfold bytesV
      rw [List.map_set]
    (repeat refine sb ?_)
    intro z hz
    rw [i64_id (by omega)] at hz
    (repeat refine sb ?_)
    exact ⟨⟨m2 + 1, s2⟩, ⟨by show m2 + 1 ≤ l.length; omega, e2, by show s.next < s2.next; omega, c1.fresh c2 (by simp)⟩, by show l.length - (m2 + 1) < l.length - m2; omega, Wk.same ⟨rfl, rfl, by rw [show z = ((m2 + 1 : Nat) : Int) by omega]; rfl, trivial⟩⟩
  · obtain rfl : q = false := by rw [hq]; simp; omega
    obtain rfl : i = l.length := by omega
    rw [List.drop_length, List.append_nil, List.take_of_length_le (by rw [pr_len]; exact Nat.le_refl _)] at hb
    (repeat refine sb ?_)
    refine toStr_is10 rfl hb (pr_len l) ?_
    (repeat refine sb ?_)
    exact ⟨rfl, c1⟩
end Go.Vf.S
end
section
/- The law LinesValues, from any state. -/
namespace Go.Vf.S
open Go Go.Vf Go.Proofs Go.RowKit
attribute [local irreducible] wSeq wRow wp wG
set_option linter.unusedVariables false
set_option linter.unusedSimpArgs false
set_option maxRecDepth 10000

def wdL (l : List (List UInt8)) : List (List UInt8) := (l.take 20).map fun x => prW (x.take 60)
theorem wdL_len (l : List (List UInt8)) : (wdL l).length = min 20 l.length := by unfold wdL; rw [List.length_map, List.length_take]
theorem wdL_next {l : List (List UInt8)} {i : Nat} {x : List UInt8} (h : l[i]? = some x) (hi : i < 20) : wdL (l.take (i + 1)) = wdL (l.take i) ++ [prW (x.take 60)] := by
  unfold wdL
  rw [List.take_take, List.take_take, show min 20 (i + 1) = i + 1 by omega, show min 20 i = i by omega, take_next h, List.map_append]
  rfl
theorem wdL_more {l : List (List UInt8)} {i : Nat} (hi : 20 ≤ i) : wdL (l.take (i + 1)) = wdL (l.take i) := by
  unfold wdL
  rw [List.take_take, List.take_take, show min 20 (i + 1) = 20 by omega, show min 20 i = 20 by omega]
theorem wdL_word {l : List (List UInt8)} : ∀ w ∈ wdL l, w.length ≤ 60 ∧ w.all txB = true := by
  intro w hw
  unfold wdL at hw
  obtain ⟨x, _, rfl⟩ := List.mem_map.1 hw
  exact ⟨by rw [pr_len, List.length_take]; omega, pr_tx _⟩
theorem join_jn (p : List UInt8) : ∀ ws : List (List UInt8), ws ≠ [] → p ++ Lib.join (ws.map qtF) (p ++ [44] ++ p) ++ p = jnV p p ws
  | [], h => absurd rfl h
  | [w], _ => by simp [Lib.join, jnV]
  | w :: v :: r, _ => by
    have ih := join_jn p (v :: r) (by simp)
    rw [jnV_two, ← ih]
    show p ++ (qtF w ++ ((p ++ [44] ++ p) ++ Lib.join ((v :: r).map qtF) (p ++ [44] ++ p))) ++ p = _
    simp
structure LvIx where
  i : Nat
  W : Option Addr
  V : Option Addr
  s : SS
theorem joinQ_w {s : SS} {V : Option Addr} {ws : List (List UInt8)} {c : List UInt8} (h : TsO s V (ws.map qtF)) (h0 : 0 < ws.length) (hn : ws.length ≤ 1000001) (hlen : (Lib.join (ws.map qtF) c).length ≤ 1000000) :
    CallW pr 18 [.slice V ws.length 0, str c] s fun v s' => v = str (Lib.join (ws.map qtF) c) ∧ s' = s := by
  have := joinA13_w (cw := 0) (c := c) h (by rw [List.length_map]; exact h0) (by rw [List.length_map]; exact hn) hlen
  rwa [List.length_map] at this
set_option maxHeartbeats 4000000 in
theorem lvalues_w {s : SS} {M : Option Addr} {cm : Nat} {l : List (List UInt8)} {n : Nat} (f : Fine s) (hM : TsR s M l) (hn : n < 256) (hl : l.length ≤ 9223372036854775807) : CallW pr n_law13_LinesValues [.slice M l.length cm, .int .u8 (n : Int)] s fun v s' => v = .bool true := by
  refine CallW.run good ok_law13_LinesValues (by simp) rfl ?_
  (try refine pSeq ?_); (repeat(first|refine sb ?_|refine gOn rfl ?_|refine gOff rfl rfl ?_|refine gTup rfl ?_))
  refine pLoop (MW.head good (fun x : LvIx => l.length - x.i) (fun x => x.i ≤ l.length ∧ TsO x.s x.W (wdL (l.take x.i)) ∧ TsO x.s x.V ((wdL (l.take x.i)).map qtF) ∧ Chg s x.s [] ∧ (∀ id ∈ blkOf x.W, s.next ≤ id ∧ id ∉ blkOf x.V) ∧ (∀ id ∈ blkOf x.V, s.next ≤ id))
    (fun x => [(1, .int .u8 (n : Int)), (5, .slice x.W (wdL (l.take x.i)).length 0), (6, .slice x.V (wdL (l.take x.i)).length 0), (20, .slice M l.length cm), (21, .int .i64 (l.length : Int)), (22, .int .i64 (x.i : Int))]) (fun x => x.s) ⟨0, none, none, s⟩ ⟨Nat.zero_le _, ⟨rfl, rfl, rfl⟩, ⟨rfl, rfl, rfl⟩, .refl _ _, by simp [blkOf], by simp [blkOf]⟩ (Wk.same ⟨rfl, rfl, rfl, rfl, rfl, rfl, trivial⟩) ?_)
  rintro ⟨i, W, V, s1⟩ ⟨hi, oW, oV, c1, hW, hV⟩
  dsimp only at hi oW oV c1 hW hV ⊢
  (repeat(first|refine sb ?_|refine gOn rfl ?_|refine gOff rfl rfl ?_|refine gTup rfl ?_))
  intro q hq
  by_cases hlt : i < l.length
  · obtain rfl : q = true := by rw [hq]; simp; omega
    obtain ⟨x, hxi⟩ : ∃ x, l[i]? = some x := ⟨_, List.getElem?_eq_getElem hlt⟩
    obtain ⟨b, t, g, r, rfl, lb, cs, hb, hcs⟩ := hM.resolve_left (fun e => by rw [e] at hlt; simp at hlt)
    have hb1 := c1.blk _ _ lb (by simp) hb
    (repeat(first|refine sb ?_|refine gOn rfl ?_|refine gOff rfl rfl ?_|refine gTup rfl ?_))
    refine ⟨by omega, ?_⟩
    intro m hm o ho
    obtain rfl : m = i := by omega
    (repeat(first|refine sb ?_|refine gOn rfl ?_|refine gOff rfl rfl ?_|refine gTup rfl ?_))
    refine ldS_is (l := x) rfl hb1 (by rw [ho, Nat.mul_one, Nat.zero_add]; exact hcs m x hxi) ?_
    (repeat(first|refine sb ?_|refine gOn rfl ?_|refine gOff rfl rfl ?_|refine gTup rfl ?_))
    intro q hq
    by_cases h20 : m < 20
    · obtain rfl : q = true := by rw [hq]; simp; omega
      have hnx := wdL_next hxi h20
      (repeat(first|refine sb ?_|refine gOn rfl ?_|refine gOff rfl rfl ?_|refine gTup rfl ?_))
      intro n1 hn1
      subst hn1
      (repeat(first|refine sb ?_|refine gOn rfl ?_|refine gOff rfl rfl ?_|refine gTup rfl ?_))
      intro z hz
      obtain rfl : z = ((min x.length 60 : Nat) : Int) := by omega
      (repeat(first|refine sb ?_|refine gOn rfl ?_|refine gOff rfl rfl ?_|refine gTup rfl ?_))
      refine slS_hi (min x.length 60) rfl rfl rfl (by omega) ?_
      rw [show x.take (min x.length 60) = x.take 60 by rw [Nat.min_comm, ← List.take_eq_take_min]]
      have hx60 : (x.take 60).length ≤ 60 := by rw [List.length_take]; omega
      (repeat(first|refine sb ?_|refine gOn rfl ?_|refine gOff rfl rfl ?_|refine gTup rfl ?_))
      refine (printed13_w (by omega)).mono fun v s2 q => ?_
      obtain ⟨rfl, c2⟩ := q
      have hp60 : (prW (x.take 60)).length ≤ 60 := by rw [pr_len]; exact hx60
      have hwl := wdL_len (l.take m)
      have hlen20 : (wdL (l.take m)).length ≤ 20 := by omega
      generalize hPw : prW (x.take 60) = w at *
      have hwa : asc w := by rw [← hPw]; exact tx_asc (pr_tx _)
      generalize wdL (l.take m) = ws at *
      have c0 : Chg s2 { s2 with heap := (s2.next, some (.cells [str w] tS false false)) :: s2.heap, next := s2.next + 1 } [] := .new []
      have lV := oV.lt
      have n2 := c2.next
      (repeat(first|refine sb ?_|refine gOn rfl ?_|refine gOff rfl rfl ?_|refine gTup rfl ?_))
      refine appR ((oW.chg c2 (fun _ _ q => by cases q)).chg c0 (fun _ _ q => by cases q)) (by unfold strV; rw [List.length_map, Nat.mul_one]) ⟨by omega, by omega⟩ rfl rfl lkH rfl rfl fun s3 o3 c3 n3 => ?_
      have oV3 := ((oV.chg c2 (fun _ _ q => by cases q)).chg c0 (fun _ _ q => by cases q)).chg c3 (fun id q1 q2 => (hW id q2).2 q1)
      have n3 : s3.next = s2.next + 1 + 1 := n3
      have c13 : Chg s s3 [] := ((c1.nil c2).nil c0).fresh c3 (fun id q => (hW id q).1)
      (repeat(first|refine sb ?_|refine gOn rfl ?_|refine gOff rfl rfl ?_|refine gTup rfl ?_))
      refine (quote13_w (c13.fine f) (by omega) hwa).mono fun v s4 q => ?_
      obtain ⟨rfl, c4⟩ := q
      have n4 := c4.next
      have c4' : Chg s4 { s4 with heap := (s4.next, some (.cells [str (qtF w)] tS false false)) :: s4.heap, next := s4.next + 1 } [] := .new []
      have o4 := (o3.chg c4 (fun _ _ q => by cases q)).chg c4' (fun _ _ q => by cases q)
      have hmapl : (ws.map qtF).length = ws.length := List.length_map _
      (repeat(first|refine sb ?_|refine gOn rfl ?_|refine gOff rfl rfl ?_|refine gTup rfl ?_))
      refine appR (by have := (oV3.chg c4 (fun _ _ q => by cases q)).chg c4' (fun _ _ q => by cases q); rw [hmapl] at this; exact this) (by unfold strV; rw [List.length_map, List.length_map, Nat.mul_one]) ⟨by omega, by omega⟩ rfl rfl lkH rfl rfl fun s5 o5 c5 n5 => ?_
      have n5 : s5.next = s4.next + 1 + 1 := n5
      (repeat(first|refine sb ?_|refine gOn rfl ?_|refine gOff rfl rfl ?_|refine gTup rfl ?_))
      intro z hz
      rw [i64_id (by omega)] at hz
      (repeat(first|refine sb ?_|refine gOn rfl ?_|refine gOff rfl rfl ?_|refine gTup rfl ?_))
      refine ⟨⟨m + 1, some ⟨s2.next + 1, 0, none⟩, some ⟨s4.next + 1, 0, none⟩, s5⟩, ⟨by show m + 1 ≤ l.length; omega, ?_, ?_, ((c13.nil c4).nil c4').fresh c5 hV, ?_, ?_⟩, by show l.length - (m + 1) < l.length - m; omega, Wk.same ⟨rfl, ?_, ?_, rfl, rfl, by rw [show z = ((m + 1 : Nat) : Int) by omega]; rfl, trivial⟩⟩
      · show OwnR tS s5 _ 0 (wdL (l.take (m + 1))).length (strV (wdL (l.take (m + 1))))
        rw [hnx, List.length_append, show strV (ws ++ [w]) = strV ws ++ [str w] by unfold strV; simp]
        refine o4.chg c5 (fun id q1 q2 => ?_)
        simp [blkOf] at q1
        have := lV id q2
        have := c1.next
        omega
      · show OwnR tS s5 _ 0 ((wdL (l.take (m + 1))).map qtF).length (strV ((wdL (l.take (m + 1))).map qtF))
        rw [hnx, List.map_append, List.length_append, hmapl, show strV (ws.map qtF ++ [w].map qtF) = strV (ws.map qtF) ++ [str (qtF w)] by unfold strV; simp]
        exact o5
      · intro id q
        have := c1.next
        simp only [blkOf, List.mem_singleton] at q ⊢
        exact ⟨by omega, by omega⟩
      · intro id q
        have := c1.next
        simp only [blkOf, List.mem_singleton] at q
        omega
      · show some (Value.slice _ (ws.length + 1) 0) = some (.slice _ (wdL (l.take (m + 1))).length 0)
        rw [hnx, List.length_append]
        rfl
      · show some (Value.slice _ (ws.length + 1) 0) = some (.slice _ (wdL (l.take (m + 1))).length 0)
        rw [hnx, List.length_append]
        rfl
    · obtain rfl : q = false := by rw [hq]; simp; omega
      have hnx := wdL_more (l := l) (i := m) (by omega)
      (repeat(first|refine sb ?_|refine gOn rfl ?_|refine gOff rfl rfl ?_|refine gTup rfl ?_))
      intro z hz
      rw [i64_id (by omega)] at hz
      (repeat(first|refine sb ?_|refine gOn rfl ?_|refine gOff rfl rfl ?_|refine gTup rfl ?_))
      exact ⟨⟨m + 1, W, V, s1⟩, ⟨by show m + 1 ≤ l.length; omega, by show TsO s1 W (wdL (l.take (m + 1))); rw [hnx]; exact oW, by show TsO s1 V ((wdL (l.take (m + 1))).map qtF); rw [hnx]; exact oV, c1, hW, hV⟩, by show l.length - (m + 1) < l.length - m; omega, Wk.same ⟨rfl, by rw [hnx]; rfl, by rw [hnx]; rfl, rfl, rfl, by rw [show z = ((m + 1 : Nat) : Int) by omega]; rfl, trivial⟩⟩
  · obtain rfl : q = false := by rw [hq]; simp; omega
    obtain rfl : i = l.length := by omega
    generalize hws : wdL (List.take l.length l) = ws at *
    rw [List.take_length] at hws
    have hwlen : ws.length ≤ 20 := by rw [← hws, wdL_len]; omega
    have hword : ∀ w ∈ ws, w.length ≤ 60 ∧ w.all txB = true := by rw [← hws]; exact wdL_word
    have f1 := c1.fine f
    (repeat(first|refine sb ?_|refine gOn rfl ?_|refine gOff rfl rfl ?_|refine gTup rfl ?_))
    intro q hq
    by_cases h0 : ws = []
    · obtain rfl : q = true := by rw [hq, h0]; rfl
      (repeat(first|refine sb ?_|refine gOn rfl ?_|refine gOff rfl rfl ?_|refine gTup rfl ?_))
      refine ⟨by decide, ?_⟩
      intro z hz
      have hz2 : z = ((n % 5 : Nat) : Int) := by rw [hz]; exact (Int.ofNat_tmod n 5).symm
      subst hz2
      (repeat(first|refine sb ?_|refine gOn rfl ?_|refine gOff rfl rfl ?_|refine gTup rfl ?_))
      intro z2 hz2
      rw [i64_id (by omega)] at hz2
      subst hz2
      (repeat(first|refine sb ?_|refine gOn rfl ?_|refine gOff rfl rfl ?_|refine gTup rfl ?_))
      refine (repeat13_w (n := n % 5) (by omega) (by decide)).mono fun v s q => ?_
      obtain ⟨rfl, rfl⟩ := q
      rw [repeat_one]
      (repeat(first|refine sb ?_|refine gOn rfl ?_|refine gOff rfl rfl ?_|refine gTup rfl ?_))
      refine (Values13_w f1 (by rw [List.length_replicate]; omega)).mono fun v s2 q => ?_
      obtain ⟨W2, rfl, o2, _, c2⟩ := q
      have hv : vluF (List.replicate (n % 5) 32) = ([], 5) := vlu_ws (List.all_eq_true.2 fun c hc => by rw [List.eq_of_mem_replicate hc]; rfl)
      rw [hv]
      (repeat(first|refine sb ?_|refine gOn rfl ?_|refine gOff rfl rfl ?_|refine gTup rfl ?_))
      intro q hq
      obtain rfl : q = true := by rw [hq]; rfl
      (repeat(first|refine sb ?_|refine gOn rfl ?_|refine gOff rfl rfl ?_|refine gTup rfl ?_))
      refine (wakes13_w (c2.fine f1)).mono fun v s3 q => ?_
      obtain ⟨rfl, c3⟩ := q
      (repeat(first|refine sb ?_|refine gOn rfl ?_|refine gOff rfl rfl ?_|refine gTup rfl ?_))
      rfl
    · obtain rfl : q = false := by rw [hq]; have := List.length_pos_iff.2 h0; simp; omega
      (repeat(first|refine sb ?_|refine gOn rfl ?_|refine gOff rfl rfl ?_|refine gTup rfl ?_))
      refine ⟨by decide, ?_⟩
      intro z hz
      have hz2 : z = ((n % 3 : Nat) : Int) := by rw [hz]; exact (Int.ofNat_tmod n 3).symm
      subst hz2
      (repeat(first|refine sb ?_|refine gOn rfl ?_|refine gOff rfl rfl ?_|refine gTup rfl ?_))
      intro z2 hz2
      rw [i64_id (by omega)] at hz2
      subst hz2
      (repeat(first|refine sb ?_|refine gOn rfl ?_|refine gOff rfl rfl ?_|refine gTup rfl ?_))
      refine (repeat13_w (n := n % 3) (by omega) (by decide)).mono fun v s q => ?_
      obtain ⟨rfl, rfl⟩ := q
      rw [repeat_one]
      have hpl : (List.replicate (n % 3) (32 : UInt8)).length ≤ 2 := by rw [List.length_replicate]; omega
      have hpw : (List.replicate (n % 3) (32 : UInt8)).all wsB = true := List.all_eq_true.2 fun c hc => by rw [List.eq_of_mem_replicate hc]; rfl
      generalize List.replicate (n % 3) (32 : UInt8) = P at *
      have hjn := join_jn P ws h0
      have hjs := jn_size (p := P) (q := P) (m := 60) (by omega) ws (fun w hw => (hword w hw).1)
      have hjl : (jnV P P ws).length ≤ 2540 := Nat.le_trans hjs (by
        have : ws.length * 127 ≤ 20 * 127 := Nat.mul_le_mul_right _ hwlen
        omega)
      have hjL : (Lib.join (ws.map qtF) (P ++ [44] ++ P)).length ≤ 2540 := by
        have := congrArg List.length hjn
        simp only [List.length_append] at this
        omega
      (repeat(first|refine sb ?_|refine gOn rfl ?_|refine gOff rfl rfl ?_|refine gTup rfl ?_))
      refine ⟨by simp only [List.length_singleton]; omega, ?_⟩
      intro w1 hw1
      subst hw1
      (repeat(first|refine sb ?_|refine gOn rfl ?_|refine gOff rfl rfl ?_|refine gTup rfl ?_))
      refine ⟨by simp only [List.length_append, List.length_singleton]; omega, ?_⟩
      intro w1 hw1
      subst hw1
      (repeat(first|refine sb ?_|refine gOn rfl ?_|refine gOff rfl rfl ?_|refine gTup rfl ?_))
      refine (joinQ_w oV (List.length_pos_iff.2 h0) (by omega) (by omega)).mono fun v s q => ?_
      obtain ⟨rfl, rfl⟩ := q
      (repeat(first|refine sb ?_|refine gOn rfl ?_|refine gOff rfl rfl ?_|refine gTup rfl ?_))
      refine ⟨by first | omega | (simp only [List.length_append, List.length_cons, List.length_nil]; omega), ?_⟩
      intro w1 hw1
      subst hw1
      (repeat(first|refine sb ?_|refine gOn rfl ?_|refine gOff rfl rfl ?_|refine gTup rfl ?_))
      refine ⟨by first | omega | (simp only [List.length_append, List.length_cons, List.length_nil]; omega), ?_⟩
      intro w1 hw1
      subst hw1
      rw [hjn]
      have hvl := vlu_jn hpw hpw h0 (fun w hw => (hword w hw).2)
      have hb0 : vluF (jnV P P ws ++ [44]) = ([], 5) := vlu_bad (x := []) hpw hpw none_0 h0
      have hb1 : vluF ([44] ++ jnV P P ws) = ([], 5) := vlu_comma _
      have hb2 : vluF (jnV P P ws ++ [44, 32, 34, 120]) = ([], 5) := vlu_bad (x := [32, 34, 120]) hpw hpw none_1 h0
      have hb3 : vluF (jnV P P ws ++ [44, 32, 120, 34, 121]) = ([], 5) := vlu_bad (x := [32, 120, 34, 121]) hpw hpw none_2 h0
      have hb4 : vluF (jnV P P ws ++ [44, 32, 34, 120, 34, 32, 121]) = ([], 5) := vlu_bad (x := [32, 34, 120, 34, 32, 121]) hpw hpw none_3 h0
      have hb5 : vluF (jnV P P ws ++ [1]) = ([], 5) := vlu_one _
      generalize jnV P P ws = S at *
      (repeat(first|refine sb ?_|refine gOn rfl ?_|refine gOff rfl rfl ?_|refine gTup rfl ?_))
      refine (Values13_w f1 (by omega)).mono fun v s2 q => ?_
      obtain ⟨W2, rfl, o2, _, c2⟩ := q
      have f2 := c2.fine f1
      by_cases h16 : 16 < ws.length
      · rw [hvl, if_pos h16]
        (repeat(first|refine sb ?_|refine gOn rfl ?_|refine gOff rfl rfl ?_|refine gTup rfl ?_))
        intro q hq
        obtain rfl : q = true := by rw [hq]; simp; omega
        (repeat(first|refine sb ?_|refine gOn rfl ?_|refine gOff rfl rfl ?_|refine gTup rfl ?_))
        intro q hq
        obtain rfl : q = true := by rw [hq]; rfl
        (repeat(first|refine sb ?_|refine gOn rfl ?_|refine gOff rfl rfl ?_|refine gTup rfl ?_))
        intro q hq
        obtain rfl : q = true := by rw [hq]; rfl
        (repeat(first|refine sb ?_|refine gOn rfl ?_|refine gOff rfl rfl ?_|refine gTup rfl ?_))
        refine (wakes13_w f2).mono fun v s3 q => ?_
        obtain ⟨rfl, c3⟩ := q
        (repeat(first|refine sb ?_|refine gOn rfl ?_|refine gOff rfl rfl ?_|refine gTup rfl ?_))
        rfl
      · rw [hvl, if_neg h16] at o2 ⊢
        (repeat(first|refine sb ?_|refine gOn rfl ?_|refine gOff rfl rfl ?_|refine gTup rfl ?_))
        intro q hq
        obtain rfl : q = false := by rw [hq]; simp; omega
        (repeat(first|refine sb ?_|refine gOn rfl ?_|refine gOff rfl rfl ?_|refine gTup rfl ?_))
        intro q hq
        obtain rfl : q = false := by rw [hq]; rfl
        (repeat(first|refine sb ?_|refine gOn rfl ?_|refine gOff rfl rfl ?_|refine gTup rfl ?_))
        refine (eqT_same (fa := ws) (TsO.rd o2) (TsO.rd (oW.chg c2 (fun _ _ q => by cases q))) (by omega)).mono fun v s q => ?_
        obtain ⟨rfl, rfl⟩ := q
        (repeat(first|refine sb ?_|refine gOn rfl ?_|refine gOff rfl rfl ?_|refine gTup rfl ?_))
        intro q hq
        obtain rfl : q = false := by rw [hq]; rfl
        (repeat(first|refine sb ?_|refine gOn rfl ?_|refine gOff rfl rfl ?_|refine gTup rfl ?_))
        refine ⟨by first | omega | (simp only [List.length_append, List.length_cons, List.length_nil]; omega), ?_⟩
        intro w1 hw1
        subst hw1
        (repeat(first|refine sb ?_|refine gOn rfl ?_|refine gOff rfl rfl ?_|refine gTup rfl ?_))
        refine ⟨by first | omega | (simp only [List.length_append, List.length_cons, List.length_nil]; omega), ?_⟩
        intro w1 hw1
        subst hw1
        (repeat(first|refine sb ?_|refine gOn rfl ?_|refine gOff rfl rfl ?_|refine gTup rfl ?_))
        refine ⟨by first | omega | (simp only [List.length_append, List.length_cons, List.length_nil]; omega), ?_⟩
        intro w1 hw1
        subst hw1
        (repeat(first|refine sb ?_|refine gOn rfl ?_|refine gOff rfl rfl ?_|refine gTup rfl ?_))
        refine ⟨by first | omega | (simp only [List.length_append, List.length_cons, List.length_nil]; omega), ?_⟩
        intro w1 hw1
        subst hw1
        (repeat(first|refine sb ?_|refine gOn rfl ?_|refine gOff rfl rfl ?_|refine gTup rfl ?_))
        refine ⟨by first | omega | (simp only [List.length_append, List.length_cons, List.length_nil]; omega), ?_⟩
        intro w1 hw1
        subst hw1
        (repeat(first|refine sb ?_|refine gOn rfl ?_|refine gOff rfl rfl ?_|refine gTup rfl ?_))
        refine ⟨by first | omega | (simp only [List.length_append, List.length_cons, List.length_nil]; omega), ?_⟩
        intro w1 hw1
        subst hw1
        (repeat(first|refine sb ?_|refine gOn rfl ?_|refine gOff rfl rfl ?_|refine gTup rfl ?_))
        refine pLoop (MW.head good (fun x : PrIx => 6 - x.i) (fun x => x.i ≤ 6 ∧ Fine x.s)
          (fun x => [(113, .agg ⟨[str (S ++ [44]), str ([44] ++ S), str (S ++ [44, 32, 34, 120]), str (S ++ [44, 32, 120, 34, 121]), str (S ++ [44, 32, 34, 120, 34, 32, 121]), str (S ++ [1])]⟩), (114, .int .i64 (x.i : Int))]) (fun x => x.s) ⟨0, _⟩ ⟨Nat.zero_le _, f2⟩ (Wk.same ⟨rfl, rfl, trivial⟩) ?_)
        rintro ⟨i, s3⟩ ⟨hi, f3⟩
        dsimp only at hi f3 ⊢
        (repeat(first|refine sb ?_|refine gOn rfl ?_|refine gOff rfl rfl ?_|refine gTup rfl ?_))
        intro q hq
        by_cases hlt : i < 6
        · obtain rfl : q = true := by rw [hq]; simp; omega
          obtain ⟨y, hy1, hy2, hy3⟩ : ∃ y : List UInt8, [str (S ++ [44]), str ([44] ++ S), str (S ++ [44, 32, 34, 120]), str (S ++ [44, 32, 120, 34, 121]), str (S ++ [44, 32, 34, 120, 34, 32, 121]), str (S ++ [1])][i]? = some (str y) ∧ vluF y = ([], 5) ∧ y.length ≤ 3000 := by
            rcases (show i = 0 ∨ i = 1 ∨ i = 2 ∨ i = 3 ∨ i = 4 ∨ i = 5 by omega) with rfl | rfl | rfl | rfl | rfl | rfl
            · exact ⟨_, rfl, hb0, by simp; omega⟩
            · exact ⟨_, rfl, hb1, by simp; omega⟩
            · exact ⟨_, rfl, hb2, by simp; omega⟩
            · exact ⟨_, rfl, hb3, by simp; omega⟩
            · exact ⟨_, rfl, hb4, by simp; omega⟩
            · exact ⟨_, rfl, hb5, by simp; omega⟩
          (repeat(first|refine sb ?_|refine gOn rfl ?_|refine gOff rfl rfl ?_|refine gTup rfl ?_))
          refine gen_ix (n := i) Tryz.underlying37 (by kernel_rfl) (by kernel_rfl) rfl rfl hlt hy1 ?_
          (repeat(first|refine sb ?_|refine gOn rfl ?_|refine gOff rfl rfl ?_|refine gTup rfl ?_))
          refine (Values13_w f3 (by omega)).mono fun v s4 q => ?_
          obtain ⟨W4, rfl, o4, _, c4⟩ := q
          rw [hy2]
          (repeat(first|refine sb ?_|refine gOn rfl ?_|refine gOff rfl rfl ?_|refine gTup rfl ?_))
          intro q hq
          obtain rfl : q = false := by rw [hq]; rfl
          (repeat(first|refine sb ?_|refine gOn rfl ?_|refine gOff rfl rfl ?_|refine gTup rfl ?_))
          intro z hz
          rw [i64_id (by omega)] at hz
          (repeat(first|refine sb ?_|refine gOn rfl ?_|refine gOff rfl rfl ?_|refine gTup rfl ?_))
          exact ⟨⟨i + 1, s4⟩, ⟨by show i + 1 ≤ 6; omega, c4.fine f3⟩, by show 6 - (i + 1) < 6 - i; omega, Wk.same ⟨rfl, by rw [show z = ((i + 1 : Nat) : Int) by omega]; rfl, trivial⟩⟩
        · obtain rfl : q = false := by rw [hq]; simp; omega
          (repeat(first|refine sb ?_|refine gOn rfl ?_|refine gOff rfl rfl ?_|refine gTup rfl ?_))
          refine (wakes13_w f3).mono fun v s4 q => ?_
          obtain ⟨rfl, c4⟩ := q
          (repeat(first|refine sb ?_|refine gOn rfl ?_|refine gOff rfl rfl ?_|refine gTup rfl ?_))
          rfl
end Go.Vf.S
end
section
/- What the rows of the seat have in common: no law of them reads a listed variable here. -/
namespace Go.Vf.S
open Go Go.Vf Go.Proofs Go.Proofs.YtjkbllbjelpdpaaGreatDoor Go.RowKit Go.ChangeShapes
theorem u8_of_wf {z : Int} (h : (Lit.int .u8 z).wf = true) : 0 ≤ z ∧ z ≤ 255 := by simpa [Lit.wf, IntKind.min, IntKind.max, IntKind.signed, IntKind.bits] using h
theorem own : ownKnob pr.godebug = none := by kernel_rfl
theorem laidOut : laidOutB pr = true := by kernel_rfl
end Go.Vf.S
end
section
/- Starts that know some of their blocks. -/
namespace Go.Vf.S
open Go Go.Vf Go.Proofs Go.Proofs.YtjkbllbjelpdpaaGreatDoor Go.RowKit Go.ChangeShapes
set_option linter.unusedVariables false
set_option linter.unusedSimpArgs false

def renO (bs : List (RE × Option ABlk)) : Ren := fun id => bs[id]?.map Prod.fst
def heapO : Nat → List (RE × Option ABlk) → List (Nat × Option ABlk)
  | _, [] => []
  | n, (_, b) :: r => (n, b) :: heapO (n + 1) r
theorem heapO_look : ∀ (l : List (RE × Option ABlk)) (n id : Nat), lookH (heapO n l) id = if n ≤ id then (l[id - n]?.map Prod.snd).join else none
  | [], n, id => by simp [heapO, lookH]
  | (e, b) :: r, n, id => by
    simp only [heapO, lookH]
    rcases beq_cases n id with ⟨h, hb⟩ | ⟨h, hb⟩
    · subst h; simp
    · rw [hb, cond_false, heapO_look r (n + 1) id]
      by_cases h1 : n + 1 ≤ id
      · rw [if_pos h1, if_pos (by omega), show id - n = (id - (n + 1)) + 1 from by omega, List.getElem?_cons_succ]
      · rw [if_neg h1, if_neg (by omega)]
def startO (bs : List (RE × Option ABlk)) (gl : Nat) : SS := ⟨heapO 0 bs, bs.length, gl⟩
theorem startO_rel {P : Program} {W : World} {bs : List (RE × Option ABlk)} {gl : Nat} (h : ∀ (i : Nat) e b, bs[i]? = some (e, some b) → BRel P (renO bs) W e b ∧ b.ro = true) (hl : ∀ (i : Nat) e b, bs[i]? = some (e, b) → e.blk < W.heap.size)
    (hg : ∀ g, g < gl → ∃ e b, bs[g]? = some (e, b) ∧ e.blk = g ∧ e.off = 0) : HRel P W.heap.size W (renO bs) (startO bs gl).st W ∧ FreeFrom (renO bs) (startO bs gl).next := by
  have get : ∀ id b e, (startO bs gl).st.heap.get id = some b → renO bs id = some e → bs[id]? = some (e, some b) := by
    intro id b e hb he
    rw [SS.get] at hb
    simp only [startO, heapO_look, Nat.zero_le, if_true, Nat.sub_zero] at hb
    simp only [renO] at he
    cases hx : bs[id]? with
    | none => rw [hx] at hb; cases hb
    | some x =>
      rw [hx] at hb he
      obtain ⟨e', b'⟩ := x
      cases he
      simp only [Option.map_some, Option.join_some] at hb
      subst hb
      rfl
  refine ⟨⟨.refl _ _, Nat.le_refl _, .refl _, ?_, ?_, ?_, ?_, ?_⟩, ?_⟩
  · intro id b e hb he; exact (h _ _ _ (get _ _ _ hb he)).1
  · intro id b e hb he hr; rw [(h _ _ _ (get _ _ _ hb he)).2] at hr; cases hr
  · intro i j b b' e e' _ hb _ he hr; rw [(h _ _ _ (get _ _ _ hb he)).2] at hr; cases hr
  · intro id e he
    simp only [renO] at he
    cases hx : bs[id]? with
    | none => rw [hx] at he; cases he
    | some x =>
      rw [hx] at he
      obtain ⟨e', b'⟩ := x
      cases he
      exact hl _ _ _ hx
  · intro g hlt
    obtain ⟨e, b, h1, h2, h3⟩ := hg g hlt
    exact ⟨e, by simp [renO, h1], h2, h3⟩
  · intro id hid
    simp only [renO]
    rw [List.getElem?_eq_none (by exact hid)]; rfl
theorem startO_fine (bs : List (RE × Option ABlk)) (gl : Nat) : Fine (startO bs gl) := fun id hid => by
  show lookH (heapO 0 bs) id = none
  rw [heapO_look, List.getElem?_eq_none (by simpa [startO] using hid)]
  rfl

end Go.Vf.S
end
section
/- A wrap that keeps the world's shape beside what is laid. -/
namespace Go.Vf.S
open Go Go.Vf Go.Proofs Go.Proofs.YtjkbllbjelpdpaaGreatDoor Go.RowKit Go.ChangeShapes
set_option linter.unusedVariables false
set_option linter.unusedSimpArgs false

theorem hand_shaped {H : Type} {enc : TypeId × Value → H} {a : Assume} {C : Checked} {os : Os} {f : FuncId} {fn : Func} {s : ChangeSpec} {conds : List PathCond} {apart fresh handsOn again : Bool} {X : World → Array Value → Prop}
    (hX : ∀ (w w' : World) (args : Array Value), w.heap = w'.heap → X w args → X w' args) (own : ownKnob C.prog.godebug = none) (started : os.Started) (noInit : C.prog.inits.idxOf? f = none) (hfn : C.prog.funcs[f]? = some fn)
    (witness : ∃ (w : World) (tape : Tape) (i : Input), w.os = os ∧ (w.forCall tape i).Shaped C.prog ∧ i.vars = [] ∧ Input.okWide C.prog (w.forCall tape i) .any w.heap.size f i ∧
      ((s.pre enc C.prog fn conds apart (w.forCall tape i).memory i.args ∧ X (w.forCall tape i).memory i.args) ∧ sizedMet enc C.prog fn (OpenSpec.ofChange s) apart (w.forCall tape i).memory i.args) ∧ a.holds C.prog (lone (Frame.enter C.prog f i.args .normal) [] (w.forCall tape i)))
    (contract : ∀ (W : World) (base : Nat) (args : Array Value) (ds gs : List (DataW H)) (before : List MemPlace), (∀ (j : Nat) t v, fn.params[j]? = some t → args[j]? = some v → Value.okWide C.prog W .any base t v) →
      DataW.Whole enc C.prog fn.params.toList s.vars apart W args.toList ds gs before → X W args → W.ShapedOpen C.prog → Calls C.prog f args W fun e W' => ∃ v, e = .returned v ∧ s.post enc C.prog fn apart fresh handsOn again W args v W') :
    ReturnsInHanded a C os f .any (fun w args => (s.pre enc C.prog fn conds apart w args ∧ X w args) ∧ sizedMet enc C.prog fn (OpenSpec.ofChange s) apart w args) (s.post enc C.prog fn apart fresh handsOn again) := by
  refine returnsInHanded_of_calls own started noInit witness ?_
  intro w tape i _ hsh _ hok hpre _
  obtain ⟨_, _, _, fn', hfn', _, _, _, _, hval⟩ := hok
  obtain rfl : fn' = fn := Option.some.inj (hfn'.symm.trans hfn)
  obtain ⟨⟨⟨ds, gs, before, hw, _⟩, hx⟩, _⟩ := hpre
  refine (contract (w.forCall tape i) w.heap.size i.args ds gs before hval (DataW.Whole.of_heap (w' := w.forCall tape i) (by rfl) hw) (hX _ _ _ (by rfl) hx) hsh).mono fun e W' ⟨v, he, hp⟩ => ?_
  subst he
  exact ChangeSpec.post_blind hp
end Go.Vf.S
end
section
/- A start that knows the library's own number, and blocks more. -/
namespace Go.Vf.S
open Go Go.Vf Go.Proofs Go.Proofs.YtjkbllbjelpdpaaGreatDoor Go.RowKit Go.ChangeShapes
set_option linter.unusedVariables false
set_option linter.unusedSimpArgs false

abbrev gMax : Nat := 1
theorem max_good {W : World} (h : W.ShapedOpen pr) : ∃ m, GoodB pr W ⟨gMax, 0, 1, 1, false⟩ (.cells [.int .i64 m] 3 false true) := by
  have h0 : ((begin pr (fun _ _ => 0) default).world.heap[gMax]?).bind Obj.row? = some (#[.int .i64 0], 3) := by kernel_rfl
  have hg : gMax < pr.globals.size := by decide +kernel
  obtain ⟨m, hm⟩ := cell_of_shapedOpen_int h hg h0 rfl (by kernel_rfl) (by kernel_rfl) Tryz.underlying3
  obtain ⟨cs, hh, hs, _⟩ := h.1 gMax _ 3 hg h0
  have hcs : cs = #[.int .i64 m] := by
    have h1 : cs.size = 1 := hs
    have h2 : cs[0]? = some (.int .i64 m) := by simpa [World.cell?, hh] using hm
    apply Array.ext'
    have h3 : cs.toList.length = 1 := by simpa using h1
    match hl : cs.toList, h3 with
    | [v], _ =>
      have : cs.toList[0]? = some (.int .i64 m) := by simpa using h2
      rw [hl] at this
      simpa using this
  subst hcs
  refine ⟨m, fun ρ => ⟨rfl, [.int .i64 m], 0, 0, 3, hh, (fun z => by cases z), (fun i _ hh => by omega), Nat.le_refl _, Nat.le_refl _, (by kernel_rfl), fun i v hi => ⟨v, by simpa using hi, plain1_rel ?_⟩⟩, rfl, (Array.getElem?_eq_some_iff.1 hh).1⟩
  match i, hi with
  | 0, hi => cases hi; rfl
  | i + 1, hi => simp at hi


/-- The number, and blocks more. -/
def bsM (m : Int) (xs : List (RE × ABlk)) : List (RE × Option ABlk) := ((List.range gMax).map fun i => (⟨i, 0, 0, 1, false⟩, none)) ++ (⟨gMax, 0, 1, 1, false⟩, some (.cells [.int .i64 m] 3 false true)) :: xs.map fun x => (x.1, some x.2)
def startM (m : Int) (xs : List (RE × ABlk)) : SS := startO (bsM m xs) (gMax + 1)
theorem bsM_len (m : Int) (xs : List (RE × ABlk)) : (bsM m xs).length = gMax + 1 + xs.length := by
  simp only [bsM, List.length_append, List.length_map, List.length_range, List.length_cons]
  omega
theorem bsM_low {m : Int} {xs : List (RE × ABlk)} {i : Nat} (h : i < gMax) : (bsM m xs)[i]? = some (⟨i, 0, 0, 1, false⟩, none) := by
  unfold bsM
  rw [List.getElem?_append_left (by rw [List.length_map, List.length_range]; exact h), List.getElem?_map, List.getElem?_range h]
  rfl
theorem bsM_at {m : Int} {xs : List (RE × ABlk)} : (bsM m xs)[gMax]? = some (⟨gMax, 0, 1, 1, false⟩, some (.cells [.int .i64 m] 3 false true)) := by
  unfold bsM
  rw [List.getElem?_append_right (by simp)]
  simp
theorem bsM_more {m : Int} {xs : List (RE × ABlk)} {i : Nat} : (bsM m xs)[gMax + 1 + i]? = xs[i]?.map fun x => (x.1, some x.2) := by
  unfold bsM
  rw [List.getElem?_append_right (by simp <;> omega)]
  simp only [List.length_map, List.length_range]
  rw [show gMax + 1 + i - gMax = i + 1 by omega, List.getElem?_cons_succ, List.getElem?_map]
theorem startM_rel {W : World} {m : Int} {xs : List (RE × ABlk)} (g1 : GoodB pr W ⟨gMax, 0, 1, 1, false⟩ (.cells [.int .i64 m] 3 false true)) (hx : ∀ x ∈ xs, GoodB pr W x.1 x.2) :
    HRel pr W.heap.size W (renO (bsM m xs)) (startM m xs).st W ∧ FreeFrom (renO (bsM m xs)) (startM m xs).next ∧ Gx (startM m xs) ∧ Fine (startM m xs) ∧
      ∀ (i : Nat) x, xs[i]? = some x → renO (bsM m xs) (gMax + 1 + i) = some x.1 ∧ lookH (startM m xs).heap (gMax + 1 + i) = some x.2 ∧ gMax + 1 + i < (startM m xs).next := by
  have k1 : gMax < W.heap.size := g1.2.2
  have all : ∀ i y, (bsM m xs)[i]? = some y → (i < gMax ∧ y = (⟨i, 0, 0, 1, false⟩, none)) ∨ (i = gMax ∧ y = (⟨gMax, 0, 1, 1, false⟩, some (.cells [.int .i64 m] 3 false true))) ∨ (∃ x ∈ xs, y = (x.1, some x.2)) := fun i y h => by
    rcases Nat.lt_trichotomy i gMax with q | q | q
    · rw [bsM_low q] at h
      exact .inl ⟨q, (Option.some.inj h).symm⟩
    · subst q
      rw [bsM_at] at h
      exact .inr (.inl ⟨rfl, (Option.some.inj h).symm⟩)
    · obtain ⟨j, rfl⟩ : ∃ j, i = gMax + 1 + j := ⟨i - (gMax + 1), by omega⟩
      rw [bsM_more] at h
      cases hj : xs[j]? with
      | none => rw [hj] at h; cases h
      | some x =>
        rw [hj] at h
        exact .inr (.inr ⟨x, List.mem_of_getElem? hj, (Option.some.inj h).symm⟩)
  obtain ⟨H1, H2⟩ := startO_rel (P := pr) (W := W) (bs := bsM m xs) (gl := gMax + 1) (fun i e b h => by
    rcases all i _ h with ⟨_, q⟩ | ⟨_, q⟩ | ⟨x, hm, q⟩
    · cases q
    · cases q; exact ⟨g1.1 _, g1.2.1⟩
    · cases q; exact ⟨(hx x hm).1 _, (hx x hm).2.1⟩) (fun i e b h => by
    rcases all i _ h with ⟨q1, q⟩ | ⟨_, q⟩ | ⟨x, hm, q⟩
    · cases q; exact Nat.lt_trans q1 k1
    · cases q; exact k1
    · cases q; exact (hx x hm).2.2) (fun g hg => by
    rcases Nat.lt_or_ge g gMax with q | q
    · exact ⟨_, _, bsM_low q, rfl, rfl⟩
    · obtain rfl : g = gMax := by omega
      exact ⟨_, _, bsM_at, rfl, rfl⟩)
  have lk : ∀ i, lookH (startM m xs).heap i = ((bsM m xs)[i]?.map Prod.snd).join := fun i => by
    show lookH (heapO 0 (bsM m xs)) i = _
    rw [heapO_look, if_pos (Nat.zero_le _), Nat.sub_zero]
  have nx : (startM m xs).next = gMax + 1 + xs.length := bsM_len m xs
  refine ⟨H1, H2, ⟨Nat.lt_succ_self _, by rw [nx]; show gMax < _; omega, m, by rw [lk, show gMx = gMax from rfl, bsM_at]; rfl⟩, startO_fine _ _, fun i x h => ⟨?_, ?_, ?_⟩⟩
  · show ((bsM m xs)[gMax + 1 + i]?).map Prod.fst = _
    rw [bsM_more, h]
    rfl
  · rw [lk, bsM_more, h]
    rfl
  · have := (List.getElem?_eq_some_iff.1 h).1
    rw [nx]; omega
end Go.Vf.S
end
section
/- What the rows of the seat lay; texts and numbers that are handed in. -/
namespace Go.Vf.S
open Go Go.Vf Go.Proofs Go.Proofs.YtjkbllbjelpdpaaGreatDoor Go.RowKit Go.ChangeShapes Go.WideShapes
set_option linter.unusedVariables false
set_option linter.unusedSimpArgs false
set_option maxRecDepth 100000
def laidN : List (String × DataW Unit) := [("unicode/utf8.acceptRanges", Rows.laid_unicode_utf8_acceptRanges), ("unicode.asciiFold", Rows.laid_unicode_asciiFold), ("unicode.caseOrbit", Rows.laid_unicode_caseOrbit), ("unicode.CaseRanges", Rows.laid_unicode_CaseRanges), ("unicode/utf8.first", Rows.laid_unicode_utf8_first)]
theorem u8_nat13 {z : Int} (h : (Lit.int .u8 z).wf = true) : ∃ m : Nat, z = (m : Int) ∧ m < 256 := by
  have := u8_of_wf h
  exact ⟨z.toNat, by omega, by omega⟩
theorem no_row13 {W : World} {m : Int} {t : TypeId} {k : Nat} (g1 : GoodB pr W ⟨gMax, 0, 1, 1, false⟩ (.cells [.int .i64 m] 3 false true)) (hz : (pr.info? t).map (·.size) = some k) : GoodB pr W ⟨gMax, 0, 0, k, true⟩ (.cells [] t true true) := by
  refine ⟨fun ρ => ?_, rfl, g1.2.2⟩
  obtain ⟨h1, rc, lo, hi, t0, h2, -⟩ := g1.1 ρ
  exact ⟨rfl, rc, lo, hi, t0, h2, (fun z => by cases z), fun i hi => absurd hi (Nat.not_lt_zero i), Nat.zero_le _, Nat.le_refl _, hz, fun i v hv => by simp at hv⟩
section
variable {H : Type} {enc : TypeId × Value → H} {W : World} {b0 : Nat} {v : Value} {d : DataW H} {p : List MemPlace}
theorem trod_St13 {n : Nat} {cs : List Value} {x : DataW H × List MemPlace} (h : DataW.trod enc pr W 0 (fun _ => true) true n tS cs = some x) : ∃ l : List UInt8, cs = [str l] := by
  obtain ⟨⟨⟨a⟩⟩, e0, _⟩ := DataW.trod_string Tryz.underlying9 h
  exact ⟨a, e0⟩
theorem flat_strV13 (ls : List (List UInt8)) : ls.flatMap (fun l => [str l]) = strV ls := by
  unfold strV
  induction ls with
  | nil => rfl
  | cons a ls ih => rw [List.flatMap_cons, ih]; rfl
theorem open_Ws13 {m : Int} (hv : Value.okWide pr W .any b0 26 v) (h : DataW.Trod enc pr W 0 (fun _ => true) true 26 v d p) (hnf : ∀ b off, MemPlace.cell b off ∈ p → W.frozen? ⟨b, off, none⟩ = false)
    (g1 : GoodB pr W ⟨gMax, 0, 1, 1, false⟩ (.cells [.int .i64 m] 3 false true)) (id : Nat) :
    ∃ (ba : Option Addr) (ls : List (List UInt8)) (e1 : RE), GoodB pr W e1 (.cells (strV ls) tS true true) ∧ (∀ ρ : Ren, ρ id = some e1 → VRel ρ (.slice ba ls.length 0) v) ∧ ls.length ≤ 9223372036854775807 ∧
      ∀ s : SS, id < s.next → lookH s.heap id = some (.cells (strV ls) tS true true) → TsR s ba ls := by
  obtain ⟨a, len, cap, rfl⟩ := okWide_slice Tryz.underlying26 hv
  obtain ⟨fuel, hf⟩ := h
  have h0 : DataW.trod enc pr W 0 (fun _ => true) true fuel 26 [.slice a len cap] = some (d, p) := hf
  obtain ⟨ba, fs, re, q1, q2, q3, q4⟩ := inner_recs (α := List UInt8) (C := fun l => [str l]) (k := 1) Tryz.underlying26 (by kernel_rfl) (by omega) (by kernel_rfl) (fun _ => rfl) (fun _ => rfl) (fun fuel cs x h => trod_St13 h) h0 hnf (no_row13 (t := tS) (k := 1) g1 (by kernel_rfl)) rfl id
  rw [flat_strV13] at q1
  refine ⟨ba, fs, re, q1, q2, ?_, fun s hlt hs => ?_⟩
  · have : maxLen = 9223372036854775807 := by kernel_rfl
    omega
  · rcases q4 with ⟨rfl, rfl⟩ | rfl
    · exact .inl rfl
    · exact .inr ⟨id, _, _, _, rfl, hlt, _, hs, fun i x hx => strV_get hx⟩
end
end Go.Vf.S
end
