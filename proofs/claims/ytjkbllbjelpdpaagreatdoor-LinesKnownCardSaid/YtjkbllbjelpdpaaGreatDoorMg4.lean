import Derived.Test.YtjkbllbjelpdpaaGreatDoorMg3
import Derived.Test.YtjkbllbjelpdpaaGreatDoorMg2
import Derived.Test.YtjkbllbjelpdpaaGreatDoorFn
import Derived.Test.YtjkbllbjelpdpaaGreatDoorEngBd
import Derived.LaidMore
import Derived.Lay
import Derived.OpenShut
import Derived.Handed
import Derived.Test.YtjkbllbjelpdpaaGreatDoorMg1
import Derived.Shelf.Vars
import Derived.Test.YtjkbllbjelpdpaaGreatDoorEngAt
section
/- Rows held against one another; the document's examples: wakes. -/
namespace Go.Vf.S
open Go Go.Vf Go.Proofs Go.RowKit
attribute [local irreducible] wSeq wRow wp wG
set_option linter.unusedVariables false
set_option linter.unusedSimpArgs false
set_option maxRecDepth 10000

theorem eqT_w {s : SS} {fa fb : List (List UInt8)} {W V : Option Addr} {cw cv : Nat} (ha : TsR s W fa) (hb : TsR s V fb) (hn : fa.length ≤ 100000) (hn2 : fb.length ≤ 100000) :
    CallW pr n_slices_Equal_string_string [.slice W fa.length cw, .slice V fb.length cv] s fun v s' => v = .bool (decide (fa = fb)) ∧ s' = s := by
  refine CallW.run good ok_slices_Equal_string_string (by simp) rfl ?_
  (try refine pSeq ?_); (repeat(first|refine sb ?_|refine kNo ?_))
  intro q hq
  by_cases x1 : fa.length = fb.length
  · obtain rfl : q = false := by rw [hq]; simp; omega
    (repeat(first|refine sb ?_|refine kNo ?_))
    refine pLoop (MW.head good (fun i : Nat => fa.length - i) (fun i => i ≤ fa.length ∧ fa.take i = fb.take i) (fun i => [(0, .slice W fa.length cw), (1, .slice V fb.length cv), (12, .int .i64 fa.length), (13, .int .i64 i)]) (fun i => s) 0 ⟨Nat.zero_le _, rfl⟩ (Wk.same ⟨rfl, rfl, rfl, rfl, trivial⟩) ?_)
    intro i ⟨h1, h2⟩
    (repeat(first|refine sb ?_|refine kNo ?_))
    intro q hq
    by_cases hlt : i < fa.length
    · obtain rfl : q = true := by rw [hq]; simp; omega
      obtain ⟨f, hf⟩ : ∃ f, fa[i]? = some f := ⟨_, List.getElem?_eq_getElem hlt⟩
      obtain ⟨g, hg⟩ : ∃ f, fb[i]? = some f := ⟨_, List.getElem?_eq_getElem (by omega)⟩
      obtain ⟨b1, t1, g1, r1, rfl, l1, cs1, hb1', hcs1⟩ := ha.resolve_left (fun e => by rw [e] at hlt; simp at hlt)
      obtain ⟨b2, t2, g2, r2, rfl, l2, cs2, hb2', hcs2⟩ := hb.resolve_left (fun e => by rw [e] at x1; simp at x1; rw [x1] at hlt; simp at hlt)
      (repeat(first|refine sb ?_|refine kNo ?_))
      refine ⟨by omega, ?_⟩
      intro m hm o ho
      obtain rfl : m = i := by omega
      (repeat(first|refine sb ?_|refine kNo ?_))
      refine ldS_is (l := f) rfl hb1' (by rw [ho, Nat.zero_add, Nat.mul_one]; exact hcs1 m f hf) ?_
      (repeat(first|refine sb ?_|refine kNo ?_))
      refine ⟨by omega, ?_⟩
      intro m2 hm2 o2 ho2
      obtain rfl : m2 = m := by omega
      (repeat(first|refine sb ?_|refine kNo ?_))
      refine ldS_is (l := g) rfl hb2' (by rw [ho2, Nat.zero_add, Nat.mul_one]; exact hcs2 m2 g hg) ?_
      (repeat(first|refine sb ?_|refine kNo ?_))
      intro q hq
      by_cases he : f = g
      · obtain rfl : q = false := by rw [hq]; simp [he]
        (repeat(first|refine sb ?_|refine kNo ?_))
        intro z hz
        rw [i64_id (by omega)] at hz
        (repeat(first|refine sb ?_|refine kNo ?_))
        exact ⟨m2 + 1, ⟨by omega, by rw [take_next hf, take_next hg, h2, he]⟩, by show fa.length - (m2 + 1) < fa.length - m2; omega, Wk.same ⟨rfl, rfl, rfl, by rw [show z = ((m2 + 1 : Nat) : Int) by omega]; rfl, trivial⟩⟩
      · obtain rfl : q = true := by rw [hq]; simp [he]
        (repeat(first|refine sb ?_|refine kNo ?_))
        refine ⟨congrArg Value.bool (decide_eq_false (fun h => he ?_)).symm, rfl⟩
        rw [h, hg] at hf
        exact (Option.some.inj hf).symm
    · obtain rfl : q = false := by rw [hq]; simp; omega
      obtain rfl : i = fa.length := by omega
      (repeat(first|refine sb ?_|refine kNo ?_))
      refine ⟨congrArg Value.bool (decide_eq_true ?_).symm, rfl⟩
      rwa [List.take_length, x1, List.take_length] at h2
  · obtain rfl : q = true := by rw [hq]; simp; omega
    (repeat(first|refine sb ?_|refine kNo ?_))
    exact ⟨congrArg Value.bool (decide_eq_false (fun h => x1 (by rw [h]))).symm, rfl⟩
theorem eqT_same {s : SS} {fa : List (List UInt8)} {W V : Option Addr} {cw cv : Nat} (ha : TsR s W fa) (hb : TsR s V fa) (hn : fa.length ≤ 100000) :
    CallW pr n_slices_Equal_string_string [.slice W fa.length cw, .slice V fa.length cv] s fun v s' => v = .bool true ∧ s' = s :=
  (eqT_w ha hb hn hn).mono fun v s q => ⟨q.1.trans (congrArg Value.bool (decide_eq_true rfl)), q.2⟩
theorem flCs_take {R : List (Nat × Nat)} {k : Nat} {x : Nat × Nat} (h : R[k]? = some x) : takeN 2 ((flCs R).drop (k * 2)) = some (flC x) := by
  have hd : ∀ (R : List (Nat × Nat)) (k : Nat), (flCs R).drop (k * 2) = flCs (R.drop k) := by
    intro R
    unfold flCs
    induction R with
    | nil => intro k; simp
    | cons x R ih =>
      intro k
      cases k with
      | zero => simp
      | succ k =>
        rw [List.drop_succ_cons, ← ih k, List.flatMap_cons, List.drop_append, show (k + 1) * 2 = (flC x).length + k * 2 by simp [flC]; omega, List.drop_of_length_le (by omega), List.nil_append]
        congr 1
        omega
  obtain ⟨hk, e⟩ := List.getElem?_eq_some_iff.1 h
  rw [hd, List.drop_eq_getElem_cons hk, e]
  rfl
theorem eqF13_w {s : SS} {fa fb : List (Nat × Nat)} {W V : Option Addr} {cw cv : Nat} (ha : FlR s W fa) (hb : FlR s V fb) (hn : fa.length ≤ 100000) (hn2 : fb.length ≤ 100000) :
    CallW pr n_slices_Equal_lines_Fault_lines_Fault [.slice W fa.length cw, .slice V fb.length cv] s fun v s' => v = .bool (decide (fa = fb)) ∧ s' = s := by
  refine CallW.run good ok_slices_Equal_lines_Fault_lines_Fault (by simp) rfl ?_
  (try refine pSeq ?_); (repeat(first|refine sb ?_|refine kNo ?_))
  intro q hq
  by_cases x1 : fa.length = fb.length
  · obtain rfl : q = false := by rw [hq]; simp; omega
    (repeat(first|refine sb ?_|refine kNo ?_))
    refine pLoop (MW.head good (fun i : Nat => fa.length - i) (fun i => i ≤ fa.length ∧ fa.take i = fb.take i) (fun i => [(0, .slice W fa.length cw), (1, .slice V fb.length cv), (12, .int .i64 fa.length), (13, .int .i64 i)]) (fun i => s) 0 ⟨Nat.zero_le _, rfl⟩ (Wk.same ⟨rfl, rfl, rfl, rfl, trivial⟩) ?_)
    intro i ⟨h1, h2⟩
    (repeat(first|refine sb ?_|refine kNo ?_))
    intro q hq
    by_cases hlt : i < fa.length
    · obtain rfl : q = true := by rw [hq]; simp; omega
      obtain ⟨f, hf⟩ : ∃ f, fa[i]? = some f := ⟨_, List.getElem?_eq_getElem hlt⟩
      obtain ⟨g, hg⟩ : ∃ f, fb[i]? = some f := ⟨_, List.getElem?_eq_getElem (by omega)⟩
      obtain ⟨b1, t1, g1, r1, rfl, l1, hb1'⟩ := ha.resolve_left (fun e => by rw [e] at hlt; simp at hlt)
      obtain ⟨b2, t2, g2, r2, rfl, l2, hb2'⟩ := hb.resolve_left (fun e => by rw [e] at x1; simp at x1; rw [x1] at hlt; simp at hlt)
      obtain ⟨f1, f2⟩ := f
      obtain ⟨g1', g2'⟩ := g
      (repeat(first|refine sb ?_|refine kNo ?_))
      refine ⟨by omega, ?_⟩
      intro m hm o ho
      obtain rfl : m = i := by omega
      (repeat(first|refine sb ?_|refine kNo ?_))
      refine ldN_is rfl hb1' (by rw [ho, Nat.zero_add]; exact flCs_take hf) ?_
      (repeat(first|refine sb ?_|refine kNo ?_))
      refine ⟨by omega, ?_⟩
      intro m2 hm2 o2 ho2
      obtain rfl : m2 = m := by omega
      (repeat(first|refine sb ?_|refine kNo ?_))
      refine ldN_is rfl hb2' (by rw [ho2, Nat.zero_add]; exact flCs_take hg) ?_
      (repeat(first|refine sb ?_|refine kNo ?_))
      intro q hq
      by_cases he : f1 = g1' ∧ f2 = g2'
      · obtain ⟨rfl, rfl⟩ := he
        obtain rfl : q = false := by rw [hq]; simp
        (repeat(first|refine sb ?_|refine kNo ?_))
        intro z hz
        rw [i64_id (by omega)] at hz
        (repeat(first|refine sb ?_|refine kNo ?_))
        exact ⟨m2 + 1, ⟨by omega, by rw [take_next hf, take_next hg, h2]⟩, by show fa.length - (m2 + 1) < fa.length - m2; omega, Wk.same ⟨rfl, rfl, rfl, by rw [show z = ((m2 + 1 : Nat) : Int) by omega]; rfl, trivial⟩⟩
      · obtain rfl : q = true := by rw [hq]; simp; omega
        (repeat(first|refine sb ?_|refine kNo ?_))
        refine ⟨congrArg Value.bool (decide_eq_false (fun h => he ?_)).symm, rfl⟩
        rw [h, hg] at hf
        have := Option.some.inj hf
        exact ⟨(Prod.mk.inj this).1.symm, (Prod.mk.inj this).2.symm⟩
    · obtain rfl : q = false := by rw [hq]; simp; omega
      obtain rfl : i = fa.length := by omega
      (repeat(first|refine sb ?_|refine kNo ?_))
      refine ⟨congrArg Value.bool (decide_eq_true ?_).symm, rfl⟩
      rwa [List.take_length, x1, List.take_length] at h2
  · obtain rfl : q = true := by rw [hq]; simp; omega
    (repeat(first|refine sb ?_|refine kNo ?_))
    exact ⟨congrArg Value.bool (decide_eq_false (fun h => x1 (by rw [h]))).symm, rfl⟩
theorem eqF_same {s : SS} {fa : List (Nat × Nat)} {W V : Option Addr} {cw cv : Nat} (ha : FlR s W fa) (hb : FlR s V fa) (hn : fa.length ≤ 100000) :
    CallW pr n_slices_Equal_lines_Fault_lines_Fault [.slice W fa.length cw, .slice V fa.length cv] s fun v s' => v = .bool true ∧ s' = s :=
  (eqF13_w ha hb hn hn).mono fun v s q => ⟨q.1.trans (congrArg Value.bool (decide_eq_true rfl)), q.2⟩
theorem one_ent {xs : List EnV} {e : Ent} (h : xs.map (·.e) = [e]) : ∃ W, xs = [⟨e, W⟩] := by
  cases xs with
  | nil => cases h
  | cons x r =>
    obtain ⟨a, W⟩ := x
    rw [List.map_cons] at h
    obtain ⟨rfl, h2⟩ := List.cons.inj h
    rw [List.map_eq_nil_iff] at h2
    exact ⟨W, by rw [h2]⟩
def wk1 : List UInt8 := [97, 58, 32, 98, 44, 32, 34, 99, 44, 32, 100, 34]
def wk2 : List UInt8 := [97, 58, 32, 98, 10, 32, 44, 32, 99]
def wk3 : List UInt8 := [120, 10, 97, 58, 32, 98, 10, 65, 58, 32, 99]
theorem tab_wk1 : tabF wk1 true = ([⟨1, [97], [[98], [99, 44, 32, 100]]⟩], []) := by kernel_rfl
theorem tab_wk2 : tabF wk2 true = ([⟨1, [97], [[98], [99]]⟩], []) := by kernel_rfl
theorem tab_wk3 : tabF wk3 true = ([⟨2, [97], [[98]]⟩], [(1, 5), (3, 9)]) := by kernel_rfl
theorem FlR.none {s : SS} {V : Option Addr} : FlR s V [] := .inl rfl
/-- Entries of which there is one. -/
theorem parse_one {s : SS} {l : List UInt8} {vals : Bool} {e : Ent} {fs : List (Nat × Nat)} (f : Fine s) (hl : l.length ≤ 10000) (h : tabF l vals = ([e], fs)) : CallW pr n_lines_Parse [str l, .bool vals] s fun v s' =>
    ∃ b g V cv We, v = .tuple ⟨[.slice (some ⟨b, 0, none⟩) 1 0, .slice V fs.length cv]⟩ ∧ b < s'.next ∧ lookH s'.heap b = some (.cells (enC ⟨e, We⟩) tEn13 g false) ∧ TsR s' We e.vs ∧ FlR s' V fs ∧ (∀ id ∈ blkOf V, s.next ≤ id) ∧ Chg s s' [] := by
  refine (parse13_w (vals := vals) f hl).mono fun v s1 q => ?_
  obtain ⟨W, V, cv, xs, fs', rfl, hT, hA, hF, hV, c1⟩ := q
  rw [h] at hT
  obtain ⟨hx, rfl⟩ := Prod.mk.inj hT
  obtain ⟨We, rfl⟩ := one_ent hx
  obtain ⟨b, g, rfl, kb⟩ := hA.own.pos (by simp)
  refine ⟨b, g, V, cv, We, rfl, hA.own.2.2.1, ?_, TsO.rd (hA.vals ⟨e, We⟩ (by simp)), hF, hV, c1⟩
  rw [kb]
  rfl
set_option maxHeartbeats 1000000 in
theorem wakes13_w {s : SS} (f : Fine s) : CallW pr n_law13_wakes [] s fun v s' => v = .bool true ∧ Chg s s' [] := by
  refine CallW.run good ok_law13_wakes (by simp) rfl ?_
  (try refine pSeq ?_); (repeat(first|refine sb ?_|refine gOn rfl ?_|refine gOff rfl rfl ?_|refine gTup rfl ?_))
  refine (parse_one (l := wk1) f (by decide) tab_wk1).mono fun v s1 q => ?_
  obtain ⟨b1, g1, V1, cv1, W1, rfl, l1, k1, t1, fl1, hV1, c1⟩ := q
  (repeat(first|refine sb ?_|refine gOn rfl ?_|refine gOff rfl rfl ?_|refine gTup rfl ?_))
  refine (parse_one (l := wk2) (c1.fine f) (by decide) tab_wk2).mono fun v s2 q => ?_
  obtain ⟨b2, g2, V2, cv2, W2, rfl, l2, k2, t2, fl2, hV2, c2⟩ := q
  (repeat(first|refine sb ?_|refine gOn rfl ?_|refine gOff rfl rfl ?_|refine gTup rfl ?_))
  refine (parse_one (l := wk3) (c2.fine (c1.fine f)) (by decide) tab_wk3).mono fun v s3 q => ?_
  obtain ⟨b3, g3, V3, cv3, W3, rfl, l3, k3, t3, fl3, hV3, c3⟩ := q
  have f3 := c3.fine (c2.fine (c1.fine f))
  have k1 := c3.blk _ _ (Nat.lt_of_lt_of_le l1 c2.next) (by simp) (c2.blk _ _ l1 (by simp) k1)
  have k2 := c3.blk _ _ l2 (by simp) k2
  have t1 := (t1.nil c2).nil c3
  have t2 := t2.nil c3
  (repeat(first|refine sb ?_|refine gOn rfl ?_|refine gOff rfl rfl ?_|refine gTup rfl ?_))
  intro q hq
  obtain rfl : q = true := by rw [hq]; decide
  (repeat(first|refine sb ?_|refine gOn rfl ?_|refine gOff rfl rfl ?_|refine gTup rfl ?_))
  intro q hq
  obtain rfl : q = true := by rw [hq]; decide
  (repeat(first|refine sb ?_|refine gOn rfl ?_|refine gOff rfl rfl ?_|refine gTup rfl ?_))
  refine ⟨by decide, ?_⟩
  intro m hm o ho
  obtain rfl : m = 0 := by omega
  obtain rfl : o = 0 := by omega
  (repeat(first|refine sb ?_|refine gOn rfl ?_|refine gOff rfl rfl ?_|refine gTup rfl ?_))
  refine ldS_is (l := [97]) rfl k1 rfl ?_
  (repeat(first|refine sb ?_|refine gOn rfl ?_|refine gOff rfl rfl ?_|refine gTup rfl ?_))
  intro q hq
  obtain rfl : q = true := by rw [hq]; decide
  (repeat(first|refine sb ?_|refine gOn rfl ?_|refine gOff rfl rfl ?_|refine gTup rfl ?_))
  refine ⟨by decide, ?_⟩
  intro m hm o ho
  obtain rfl : m = 0 := by omega
  obtain rfl : o = 0 := by omega
  (repeat(first|refine sb ?_|refine gOn rfl ?_|refine gOff rfl rfl ?_|refine gTup rfl ?_))
  refine ld1_is rfl k1 rfl ?_
  (repeat(first|refine sb ?_|refine gOn rfl ?_|refine gOff rfl rfl ?_|refine gTup rfl ?_))
  have cm := Chg.new (s := s3) (b := .cells (strV [[98], [99, 44, 32, 100]]) tS false false) []
  refine (eqT_same (fa := [[98], [99, 44, 32, 100]]) (t1.nil cm) (.inr ⟨_, _, _, _, rfl, Nat.lt_succ_self _, _, lkH, fun i x hx => strV_get hx⟩) (by decide)).mono fun v s q => ?_
  obtain ⟨rfl, rfl⟩ := q
  (repeat(first|refine sb ?_|refine gOn rfl ?_|refine gOff rfl rfl ?_|refine gTup rfl ?_))
  have k2 := cm.blk _ _ (Nat.lt_of_lt_of_le l2 c3.next) (by simp) k2
  have k3 := cm.blk _ _ l3 (by simp) k3
  have t2 := t2.nil cm
  have fl3 := fl3.chg cm (fun _ _ q => by cases q)
  have c13 := (c1.nil (c2.nil c3)).nil cm
  intro q hq
  obtain rfl : q = true := by rw [hq]; decide
  (repeat(first|refine sb ?_|refine gOn rfl ?_|refine gOff rfl rfl ?_|refine gTup rfl ?_))
  intro q hq
  obtain rfl : q = true := by rw [hq]; decide
  (repeat(first|refine sb ?_|refine gOn rfl ?_|refine gOff rfl rfl ?_|refine gTup rfl ?_))
  refine ⟨by decide, ?_⟩
  intro m hm o ho
  obtain rfl : m = 0 := by omega
  obtain rfl : o = 0 := by omega
  (repeat(first|refine sb ?_|refine gOn rfl ?_|refine gOff rfl rfl ?_|refine gTup rfl ?_))
  refine ld1_is rfl k2 rfl ?_
  (repeat(first|refine sb ?_|refine gOn rfl ?_|refine gOff rfl rfl ?_|refine gTup rfl ?_))
  have cm2 := Chg.new (s := { s3 with heap := (s3.next, some (.cells (strV [[98], [99, 44, 32, 100]]) tS false false)) :: s3.heap, next := s3.next + 1 }) (b := .cells (strV [[98], [99]]) tS false false) []
  refine (eqT_same (fa := [[98], [99]]) (t2.nil cm2) (.inr ⟨_, _, _, _, rfl, Nat.lt_succ_self _, _, lkH, fun i x hx => strV_get hx⟩) (by decide)).mono fun v s q => ?_
  obtain ⟨rfl, rfl⟩ := q
  have k3 := cm2.blk _ _ (Nat.lt_of_lt_of_le l3 cm.next) (by simp) k3
  have fl3 := fl3.chg cm2 (fun _ _ q => by cases q)
  have c13 := c13.nil cm2
  (repeat(first|refine sb ?_|refine gOn rfl ?_|refine gOff rfl rfl ?_|refine gTup rfl ?_))
  intro q hq
  obtain rfl : q = true := by rw [hq]; decide
  (repeat(first|refine sb ?_|refine gOn rfl ?_|refine gOff rfl rfl ?_|refine gTup rfl ?_))
  refine ⟨by decide, ?_⟩
  intro m hm o ho
  obtain rfl : m = 0 := by omega
  obtain rfl : o = 0 := by omega
  (repeat(first|refine sb ?_|refine gOn rfl ?_|refine gOff rfl rfl ?_|refine gTup rfl ?_))
  refine ldI_is (z := 2) rfl k3 rfl ?_
  (repeat(first|refine sb ?_|refine gOn rfl ?_|refine gOff rfl rfl ?_|refine gTup rfl ?_))
  intro q hq
  obtain rfl : q = true := by rw [hq]; decide
  (repeat(first|refine sb ?_|refine gOn rfl ?_|refine gOff rfl rfl ?_|refine gTup rfl ?_))
  have cm3 := Chg.new (s := { s3 with heap := (s3.next + 1, some (.cells (strV [[98], [99]]) tS false false)) :: (s3.next, some (.cells (strV [[98], [99, 44, 32, 100]]) tS false false)) :: s3.heap, next := s3.next + 1 + 1 }) (b := .cells (flCs [(1, 5), (3, 9)]) tFt13 false false) []
  refine (eqF_same (fa := [(1, 5), (3, 9)]) (fl3.chg cm3 (fun _ _ q => by cases q)) (.inr ⟨_, _, _, _, rfl, Nat.lt_succ_self _, lkH⟩) (by decide)).mono fun v s q => ?_
  obtain ⟨rfl, rfl⟩ := q
  (repeat(first|refine sb ?_|refine gOn rfl ?_|refine gOff rfl rfl ?_|refine gTup rfl ?_))
  exact ⟨rfl, c13.nil cm3⟩
end Go.Vf.S
end
section
/- Texts repeated, joined, brought to printable bytes. -/
namespace Go.Vf.S
open Go Go.Vf Go.Proofs Go.RowKit
attribute [local irreducible] wSeq wRow wp wG
set_option linter.unusedVariables false
set_option linter.unusedSimpArgs false
set_option maxRecDepth 10000

theorem repeat13_w {s : SS} {l : List UInt8} {n : Nat} (hn : n ≤ 1000000) (hl : l.length ≤ 1000) : CallW pr n_strings_Repeat [str l, .int .i64 n] s fun v s' => v = str (Lib.repeatL l n) ∧ s' = s := by
  refine CallW.kit rfl fun B w0 ρ args' w H hr => ?_
  obtain ⟨v1, v2, rfl, q1, q2⟩ := lrel_2 hr
  obtain rfl := str_inv q1
  obtain rfl := int_inv q2
  exact Any.strings_Repeat Tryz.lays105 Tryz.Builder_Extra_105 ⟨⟨l⟩⟩ n w (by omega) (by
    show l.length * n ≤ _
    have : l.length * n ≤ 1000 * 1000000 := Nat.mul_le_mul hl hn
    omega)
theorem repeat_one (c : UInt8) (n : Nat) : Lib.repeatL [c] n = List.replicate n c := by
  induction n with
  | zero => rfl
  | succ n ih => rw [Lib.repeatL, ih]; rfl
structure PrIx where
  i : Nat
  s : SS
end Go.Vf.S
end
section
/- The law LinesKnown, from any state (by tools/gen_lka.py). -/
namespace Go.Vf.S
open Go Go.Vf Go.Proofs Go.RowKit
attribute [local irreducible] wSeq wRow wp wG
set_option linter.unusedVariables false
set_option linter.unusedSimpArgs false
set_option maxRecDepth 10000

/-- Numbers that a slice reads. -/
def IsR (s : SS) (W : Option Addr) (zs : List Nat) : Prop := zs = [] ∨ ∃ b t g r, W = some ⟨b, 0, none⟩ ∧ b < s.next ∧ lookH s.heap b = some (.cells (zs.map fun z : Nat => .int .i64 (z : Int)) t g r)
theorem IsR.nil {s s' : SS} {W : Option Addr} {zs : List Nat} (h : IsR s W zs) (c : Chg s s' []) : IsR s' W zs := by
  rcases h with h | ⟨b, t, g, r, rfl, h1, h2⟩
  · exact .inl h
  · exact .inr ⟨b, t, g, r, rfl, Nat.lt_of_lt_of_le h1 c.next, c.blk _ _ h1 (by simp) h2⟩
theorem int_at {zs : List Nat} {i z : Nat} (h : zs[i]? = some z) : (zs.map fun z : Nat => (Value.int .i64 (z : Int)))[i]? = some (.int .i64 (z : Int)) := by rw [List.getElem?_map, h]; rfl
theorem eqI13_w {s : SS} {fa : List Nat} {W V : Option Addr} {cw cv : Nat} (ha : IsR s W fa) (hb : IsR s V fa) (hn : fa.length ≤ 100000) :
    CallW pr n_slices_Equal_int_int [.slice W fa.length cw, .slice V fa.length cv] s fun v s' => v = .bool true ∧ s' = s := by
  refine CallW.run good ok_slices_Equal_int_int (by simp) rfl ?_
  (try refine pSeq ?_); (repeat(first|refine sb ?_|refine kNo ?_))
  intro q hq
  obtain rfl : q = false := by rw [hq]; simp
  (repeat(first|refine sb ?_|refine kNo ?_))
  refine pLoop (MW.head good (fun i : Nat => fa.length - i) (fun i => i ≤ fa.length) (fun i => [(0, .slice W fa.length cw), (1, .slice V fa.length cv), (12, .int .i64 fa.length), (13, .int .i64 i)]) (fun i => s) 0 (Nat.zero_le _) (Wk.same ⟨rfl, rfl, rfl, rfl, trivial⟩) ?_)
  intro i h1
  (repeat(first|refine sb ?_|refine kNo ?_))
  intro q hq
  by_cases hlt : i < fa.length
  · obtain rfl : q = true := by rw [hq]; simp; omega
    obtain ⟨f, hf⟩ : ∃ f, fa[i]? = some f := ⟨_, List.getElem?_eq_getElem hlt⟩
    obtain ⟨b1, t1, g1, r1, rfl, l1, hb1'⟩ := ha.resolve_left (fun e => by rw [e] at hlt; simp at hlt)
    obtain ⟨b2, t2, g2, r2, rfl, l2, hb2'⟩ := hb.resolve_left (fun e => by rw [e] at hlt; simp at hlt)
    (repeat(first|refine sb ?_|refine kNo ?_))
    refine ⟨by omega, ?_⟩
    intro m hm o ho
    obtain rfl : m = i := by omega
    (repeat(first|refine sb ?_|refine kNo ?_))
    refine ldI_is rfl hb1' (by rw [ho, Nat.zero_add, Nat.mul_one]; exact int_at hf) ?_
    (repeat(first|refine sb ?_|refine kNo ?_))
    refine ⟨by omega, ?_⟩
    intro m2 hm2 o2 ho2
    obtain rfl : m2 = m := by omega
    (repeat(first|refine sb ?_|refine kNo ?_))
    refine ldI_is rfl hb2' (by rw [ho2, Nat.zero_add, Nat.mul_one]; exact int_at hf) ?_
    (repeat(first|refine sb ?_|refine kNo ?_))
    intro q hq
    obtain rfl : q = false := by rw [hq]; simp
    (repeat(first|refine sb ?_|refine kNo ?_))
    intro z hz
    rw [i64_id (by omega)] at hz
    (repeat(first|refine sb ?_|refine kNo ?_))
    exact ⟨m2 + 1, by omega, by show fa.length - (m2 + 1) < fa.length - m2; omega, Wk.same ⟨rfl, rfl, rfl, by rw [show z = ((m2 + 1 : Nat) : Int) by omega]; rfl, trivial⟩⟩
  · obtain rfl : q = false := by rw [hq]; simp; omega
    (repeat(first|refine sb ?_|refine kNo ?_))
    exact ⟨rfl, rfl⟩
/-- A text parsed of which it is known what is told. -/
theorem parse_n {s : SS} {l : List UInt8} {vals : Bool} {es : List Ent} {fs : List (Nat × Nat)} (f : Fine s) (hl : l.length ≤ 10000) (h : tabF l vals = (es, fs)) : CallW pr n_lines_Parse [str l, .bool vals] s fun v s' =>
    ∃ W V cv xs, v = .tuple ⟨[.slice W es.length 0, .slice V fs.length cv]⟩ ∧ xs.map (·.e) = es ∧ EsR s' W xs ∧ (∀ x ∈ xs, TsR s' x.W x.e.vs) ∧ FlR s' V fs ∧ Chg s s' [] := by
  refine (parse13_w (vals := vals) f hl).mono fun v s1 q => ?_
  obtain ⟨W, V, cv, xs, fs', rfl, hT, hA, hF, hV, c1⟩ := q
  rw [h] at hT
  obtain ⟨hx, rfl⟩ := Prod.mk.inj hT
  refine ⟨W, V, cv, xs, ?_, hx, EsO.rd hA.own, fun x hm => TsO.rd (hA.vals x hm), hF, c1⟩
  rw [← hx, List.length_map]
theorem two_ent {xs : List EnV} {e g : Ent} (h : xs.map (·.e) = [e, g]) : ∃ W V, xs = [⟨e, W⟩, ⟨g, V⟩] := by
  match xs, h with
  | [⟨a, W⟩, ⟨b, V⟩], h =>
    simp only [List.map_cons, List.map_nil, List.cons.injEq, and_true] at h
    exact ⟨W, V, by rw [h.1, h.2]⟩
theorem esr_at {s : SS} {W : Option Addr} {x : EnV} {xs : List EnV} (h : EsR s W (x :: xs)) : ∃ b t g r, W = some ⟨b, 0, none⟩ ∧ b < s.next ∧ lookH s.heap b = some (.cells (enCs (x :: xs)) t g r) := h.resolve_left (by simp)
def kn1 : List UInt8 := [32, 120, 58, 32, 121, 10, 35, 32, 122, 10, 107, 32, 58, 32, 34, 97, 92, 34, 98, 92, 92, 34, 32, 44, 99, 32, 100, 13, 10, 10, 9, 35, 32, 110, 111, 10, 32, 44, 32, 34, 34, 10, 34, 113, 58, 114, 34, 58, 32, 49, 10, 98, 97, 100, 10, 58, 32, 50, 10, 107, 50, 58, 10, 107, 51, 58, 32, 44, 10, 107, 52, 58, 32, 97, 44, 44, 98, 10, 107, 53, 58, 32, 34, 97, 10, 107, 54, 58, 32, 97, 127]
def kn2 : List UInt8 := [111, 110, 101, 32, 116, 119, 111, 58, 32, 120, 10, 32, 32, 116, 104, 114, 101, 101, 10, 70, 111, 117, 114, 10, 102, 111, 117, 114, 10, 34, 102, 105, 118, 101, 34]
/-- One of the many lines. -/
def knL (k : Nat) : List UInt8 := [107, UInt8.ofNat (48 + k / 10), UInt8.ofNat (48 + k % 10), 58, 32, 118, 10]
def kn3 : List UInt8 := (List.range 66).flatMap knL
theorem tab_kn1 : tabF kn1 true = ([⟨3, [107], [[97, 34, 98, 92], [99, 32, 100], []]⟩, ⟨7, [113, 58, 114], [[49]]⟩], [(1, 5), (8, 5), (9, 5), (10, 5), (11, 5), (12, 5), (13, 5), (14, 5)]) := by kernel_rfl
theorem tab_kn2 : tabF kn2 false = ([⟨1, [111, 110, 101, 32, 116, 119, 111, 58, 32, 120, 32, 116, 104, 114, 101, 101], []⟩, ⟨3, [70, 111, 117, 114], []⟩], [(4, 9), (5, 5)]) := by kernel_rfl
theorem tab_kn3f : (tabF kn3 true).2 = [(65, 7), (66, 7)] := by kernel_rfl
theorem tab_kn3n : (tabF kn3 true).1.length = 64 := by kernel_rfl
theorem tab_kn3 : tabF kn3 true = ((tabF kn3 true).1, [(65, 7), (66, 7)]) := by rw [← tab_kn3f]
theorem tab_kn4 : tabF (List.replicate 8193 35) true = ([], [(0, 3)]) := by unfold tabF; rw [if_pos (by rw [List.length_replicate]; decide)]
theorem kn3_len : kn3.length = 462 := by kernel_rfl
theorem qt_k0 : qtF [] = [34, 34] := by kernel_rfl
theorem qt_k1 : qtF [97, 32, 98] = [97, 32, 98] := by kernel_rfl
theorem qt_k2 : qtF [35, 97] = [34, 35, 97, 34] := by kernel_rfl
theorem qt_k3 : qtF [97, 92, 98] = [97, 92, 98] := by kernel_rfl
theorem qt_k4 : qtF [32, 97, 92] = [34, 32, 97, 92, 92, 34] := by kernel_rfl
theorem knL_len (k : Nat) : (knL k).length = 7 := rfl
theorem kn3_pre (i : Nat) : ((List.range i).flatMap knL).length = 7 * i := by
  induction i with
  | zero => rfl
  | succ i ih => rw [List.range_succ, List.flatMap_append, List.length_append, ih]; simp [knL_len]; omega
structure KnIx where
  i : Nat
  W : Option Addr
  s : SS
set_option maxHeartbeats 8000000 in
theorem lknown_w {s : SS} (f : Fine s) : CallW pr n_law13_LinesKnown [] s fun v s' => v = .bool true := by
  refine CallW.run good ok_law13_LinesKnown (by simp) rfl ?_
  (try refine pSeq ?_); (repeat(first|refine sb ?_|refine gOn rfl ?_|refine gOff rfl rfl ?_|refine gTup rfl ?_))
  refine (parse_n (l := kn1) f (by decide) tab_kn1).mono fun v s1 q => ?_
  obtain ⟨W1, V1, cv1, xs1, rfl, hx1, he1, hv1, hf1, c1⟩ := q
  have f := c1.fine f
  obtain ⟨Wa, Wb, rfl⟩ := two_ent hx1
  have ha1 : TsR s1 Wa [[97, 34, 98, 92], [99, 32, 100], []] := hv1 ⟨⟨3, [107], [[97, 34, 98, 92], [99, 32, 100], []]⟩, Wa⟩ (by simp)
  clear hv1 hx1
  (repeat(first|refine sb ?_|refine gOn rfl ?_|refine gOff rfl rfl ?_|refine gTup rfl ?_))
  intro q hq
  obtain rfl : q = false := by rw [hq]; decide
  (repeat(first|refine sb ?_|refine gOn rfl ?_|refine gOff rfl rfl ?_|refine gTup rfl ?_))
  obtain ⟨b1, t1, g1, r1, rfl, l1, k1⟩ := esr_at he1
  refine ⟨by decide, ?_⟩
  intro m hm o ho
  obtain rfl : m = 0 := by omega
  obtain rfl : o = 0 := by omega
  (repeat(first|refine sb ?_|refine gOn rfl ?_|refine gOff rfl rfl ?_|refine gTup rfl ?_))
  refine ldI_is (z := 3) rfl k1 rfl ?_
  (repeat(first|refine sb ?_|refine gOn rfl ?_|refine gOff rfl rfl ?_|refine gTup rfl ?_))
  intro q hq
  obtain rfl : q = false := by rw [hq]; decide
  (repeat(first|refine sb ?_|refine gOn rfl ?_|refine gOff rfl rfl ?_|refine gTup rfl ?_))
  refine ⟨by decide, ?_⟩
  intro m hm o ho
  obtain rfl : m = 0 := by omega
  obtain rfl : o = 0 := by omega
  (repeat(first|refine sb ?_|refine gOn rfl ?_|refine gOff rfl rfl ?_|refine gTup rfl ?_))
  refine ldS_is (l := [107]) rfl k1 rfl ?_
  (repeat(first|refine sb ?_|refine gOn rfl ?_|refine gOff rfl rfl ?_|refine gTup rfl ?_))
  intro q hq
  obtain rfl : q = false := by rw [hq]; decide
  (repeat(first|refine sb ?_|refine gOn rfl ?_|refine gOff rfl rfl ?_|refine gTup rfl ?_))
  refine ⟨by decide, ?_⟩
  intro m hm o ho
  obtain rfl : m = 0 := by omega
  obtain rfl : o = 0 := by omega
  (repeat(first|refine sb ?_|refine gOn rfl ?_|refine gOff rfl rfl ?_|refine gTup rfl ?_))
  refine ld1_is rfl k1 rfl ?_
  (repeat(first|refine sb ?_|refine gOn rfl ?_|refine gOff rfl rfl ?_|refine gTup rfl ?_))
  have cm := Chg.new (s := s1) (b := .cells (strV [[97, 34, 98, 92], [99, 32, 100], []]) tS false false) []
  have f := cm.fine f
  have he1 := he1.chg cm (fun _ _ q => by cases q)
  have hf1 := hf1.chg cm (fun _ _ q => by cases q)
  have ha1 := ha1.nil cm
  have k1 := cm.blk _ _ l1 (by simp) k1
  have l1 := Nat.lt_of_lt_of_le l1 cm.next
  refine (eqT_same (fa := [[97, 34, 98, 92], [99, 32, 100], []]) ha1 (.inr ⟨_, _, _, _, rfl, Nat.lt_succ_self _, _, lkH, fun i x hx => strV_get hx⟩) (by decide)).mono fun v s q => ?_
  obtain ⟨rfl, rfl⟩ := q
  (repeat(first|refine sb ?_|refine gOn rfl ?_|refine gOff rfl rfl ?_|refine gTup rfl ?_))
  intro q hq
  obtain rfl : q = false := by rw [hq]; decide
  (repeat(first|refine sb ?_|refine gOn rfl ?_|refine gOff rfl rfl ?_|refine gTup rfl ?_))
  refine ⟨by decide, ?_⟩
  intro m hm o ho
  obtain rfl : m = 1 := by omega
  obtain rfl : o = 3 := by omega
  (repeat(first|refine sb ?_|refine gOn rfl ?_|refine gOff rfl rfl ?_|refine gTup rfl ?_))
  refine ldS_is (l := [113, 58, 114]) rfl k1 rfl ?_
  (repeat(first|refine sb ?_|refine gOn rfl ?_|refine gOff rfl rfl ?_|refine gTup rfl ?_))
  intro q hq
  obtain rfl : q = false := by rw [hq]; decide
  (repeat(first|refine sb ?_|refine gOn rfl ?_|refine gOff rfl rfl ?_|refine gTup rfl ?_))
  refine ⟨by decide, ?_⟩
  intro m hm o ho
  obtain rfl : m = 1 := by omega
  obtain rfl : o = 3 := by omega
  (repeat(first|refine sb ?_|refine gOn rfl ?_|refine gOff rfl rfl ?_|refine gTup rfl ?_))
  refine ldI_is (z := 7) rfl k1 rfl ?_
  (repeat(first|refine sb ?_|refine gOn rfl ?_|refine gOff rfl rfl ?_|refine gTup rfl ?_))
  intro q hq
  obtain rfl : q = false := by rw [hq]; decide
  (repeat(first|refine sb ?_|refine gOn rfl ?_|refine gOff rfl rfl ?_|refine gTup rfl ?_))
  clear k1 l1 he1 ha1 cm c1
  refine pLoop (MW.head good (fun x : KnIx => 8 - x.i) (fun x => x.i ≤ 8 ∧ OwnR 3 x.s x.W 0 x.i (((([(1, 5), (8, 5), (9, 5), (10, 5), (11, 5), (12, 5), (13, 5), (14, 5)] : List (Nat × Nat)).map Prod.fst).take x.i).map fun z : Nat => .int .i64 (z : Int)) ∧ Chg { s1 with heap := (s1.next, some (.cells (strV [[97, 34, 98, 92], [99, 32, 100], []]) tS false false)) :: s1.heap, next := s1.next + 1 } x.s [] ∧ ∀ id ∈ blkOf x.W, s1.next + 1 ≤ id)
    (fun x => [(3, .slice x.W x.i 0), (58, .slice V1 8 cv1), (59, .int .i64 8), (60, .int .i64 (x.i : Int))]) (fun x => x.s) ⟨0, none, { s1 with heap := (s1.next, some (.cells (strV [[97, 34, 98, 92], [99, 32, 100], []]) tS false false)) :: s1.heap, next := s1.next + 1 }⟩ ⟨Nat.zero_le _, ⟨rfl, rfl, rfl⟩, .refl _ _, by simp [blkOf]⟩ (Wk.same ⟨rfl, rfl, rfl, rfl, trivial⟩) ?_)
  rintro ⟨i, W, s3⟩ ⟨hi, oW, c3, hW⟩
  dsimp only at hi oW c3 hW ⊢
  (repeat(first|refine sb ?_|refine gOn rfl ?_|refine gOff rfl rfl ?_|refine gTup rfl ?_))
  intro q hq
  by_cases hlt : i < 8
  · obtain rfl : q = true := by rw [hq]; simp; omega
    obtain ⟨fl, hfl, hf5⟩ : ∃ fl : Nat, ([(1, 5), (8, 5), (9, 5), (10, 5), (11, 5), (12, 5), (13, 5), (14, 5)] : List (Nat × Nat))[i]? = some (fl, 5) ∧ ((([(1, 5), (8, 5), (9, 5), (10, 5), (11, 5), (12, 5), (13, 5), (14, 5)] : List (Nat × Nat)).map Prod.fst).take (i + 1)) = (([(1, 5), (8, 5), (9, 5), (10, 5), (11, 5), (12, 5), (13, 5), (14, 5)] : List (Nat × Nat)).map Prod.fst).take i ++ [fl] := by
      rcases (show i = 0 ∨ i = 1 ∨ i = 2 ∨ i = 3 ∨ i = 4 ∨ i = 5 ∨ i = 6 ∨ i = 7 by omega) with rfl | rfl | rfl | rfl | rfl | rfl | rfl | rfl <;> exact ⟨_, rfl, rfl⟩
    obtain ⟨bf, tf, gf, rf, rfl, lf, kf⟩ := hf1.resolve_left (by simp)
    have kf3 := c3.blk _ _ lf (by simp) kf
    (repeat(first|refine sb ?_|refine gOn rfl ?_|refine gOff rfl rfl ?_|refine gTup rfl ?_))
    refine ⟨by omega, ?_⟩
    intro m hm o ho
    obtain rfl : m = i := by omega
    (repeat(first|refine sb ?_|refine gOn rfl ?_|refine gOff rfl rfl ?_|refine gTup rfl ?_))
    refine ldN_is rfl kf3 (by rw [ho, Nat.zero_add]; exact flCs_take hfl) ?_
    (repeat(first|refine sb ?_|refine gOn rfl ?_|refine gOff rfl rfl ?_|refine gTup rfl ?_))
    refine st_abs (cs' := flC (fl, 5)) rfl rfl lkH (Nat.lt_succ_self _) rfl rfl fun s4 e4 c4 n4 => ?_
    have n4 : s4.next = s3.next + 1 := n4
    have c4 : Chg s3 s4 [] := (Chg.new []).fresh c4 (by simp)
    (repeat(first|refine sb ?_|refine gOn rfl ?_|refine gOff rfl rfl ?_|refine gTup rfl ?_))
    refine ldI_is (z := 5) rfl e4 rfl ?_
    (repeat(first|refine sb ?_|refine gOn rfl ?_|refine gOff rfl rfl ?_|refine gTup rfl ?_))
    intro q hq
    obtain rfl : q = false := by rw [hq]; decide
    (repeat(first|refine sb ?_|refine gOn rfl ?_|refine gOff rfl rfl ?_|refine gTup rfl ?_))
    refine ldI_is (z := (fl : Int)) rfl e4 rfl ?_
    (repeat(first|refine sb ?_|refine gOn rfl ?_|refine gOff rfl rfl ?_|refine gTup rfl ?_))
    have c5 : Chg s4 { s4 with heap := (s4.next, some (.cells [.int .i64 (fl : Int)] 3 false false)) :: s4.heap, next := s4.next + 1 } [] := .new []
    refine appR ((oW.chg c4 (fun _ _ q => by cases q)).chg c5 (fun _ _ q => by cases q)) (by rw [List.length_map, List.length_take, List.length_map, Nat.mul_one]; show min m 8 = m; omega) ⟨by omega, by omega⟩ rfl rfl lkH rfl rfl fun s6 o6 c6 n6 => ?_
    (repeat(first|refine sb ?_|refine gOn rfl ?_|refine gOff rfl rfl ?_|refine gTup rfl ?_))
    intro z hz
    rw [i64_id (by omega)] at hz
    (repeat(first|refine sb ?_|refine gOn rfl ?_|refine gOff rfl rfl ?_|refine gTup rfl ?_))
    refine ⟨⟨m + 1, some ⟨s4.next + 1, 0, none⟩, s6⟩, ⟨by show m + 1 ≤ 8; omega, ?_, ((c3.nil c4).nil c5).fresh c6 hW, fun id q => by simp [blkOf] at q; have := c3.next; have : s1.next + 1 ≤ s3.next := this; omega⟩, by show 8 - (m + 1) < 8 - m; omega, Wk.same ⟨rfl, rfl, rfl, by rw [show z = ((m + 1 : Nat) : Int) by omega]; rfl, trivial⟩⟩
    show OwnR 3 s6 _ 0 (m + 1) (((([(1, 5), (8, 5), (9, 5), (10, 5), (11, 5), (12, 5), (13, 5), (14, 5)] : List (Nat × Nat)).map Prod.fst).take (m + 1)).map fun z : Nat => .int .i64 (z : Int))
    rw [hf5, List.map_append]
    exact o6
  · obtain rfl : q = false := by rw [hq]; simp; omega
    obtain rfl : i = 8 := by omega
    have hat : IsR s3 W [1, 8, 9, 10, 11, 12, 13, 14] := by
      obtain ⟨b, g, rfl, kb⟩ := oW.pos (by decide)
      exact .inr ⟨b, _, g, false, rfl, oW.2.2.1, kb⟩
    clear oW hf1
    have f := c3.fine f
    clear c3
    (repeat(first|refine sb ?_|refine gOn rfl ?_|refine gOff rfl rfl ?_|refine gTup rfl ?_))
    refine (parse_n (l := kn2) f (by decide) tab_kn2).mono fun v s4 q => ?_
    obtain ⟨W2, V2, cv2, xs2, rfl, hx2, he2, hv2, hf2, c2⟩ := q
    have f := c2.fine f
    have hat := hat.nil c2
    obtain ⟨Wc, Wd, rfl⟩ := two_ent hx2
    clear hv2 hx2
    (repeat(first|refine sb ?_|refine gOn rfl ?_|refine gOff rfl rfl ?_|refine gTup rfl ?_))
    have B0 := Bld.new s4
    refine pLoop (MW.head good (fun x : KnIx => 66 - x.i) (fun x => x.i ≤ 66 ∧ Bld x.s s4.next x.W ((List.range x.i).flatMap knL) ∧ Chg s4 x.s [] ∧ ∀ id ∈ blkOf x.W, s4.next ≤ id)
      (fun x => [(3, .slice W 8 0), (6, .slice W2 2 0), (7, .slice V2 2 cv2), (8, ptrV s4.next), (77, .int .i64 (x.i : Int))]) (fun x => x.s) ⟨0, none, _⟩ ⟨Nat.zero_le _, B0, .new _, by simp [blkOf]⟩ (Wk.same ⟨rfl, rfl, rfl, rfl, rfl, trivial⟩) ?_)
    rintro ⟨i, B, s5⟩ ⟨hi, hB, c5, hBn⟩
    dsimp only at hi hB c5 hBn ⊢
    (repeat(first|refine sb ?_|refine gOn rfl ?_|refine gOff rfl rfl ?_|refine gTup rfl ?_))
    intro q hq
    by_cases hlt : i < 66
    · obtain rfl : q = true := by rw [hq]; simp; omega
      have hpl := kn3_pre i
      (repeat(first|refine sb ?_|refine gOn rfl ?_|refine gOff rfl rfl ?_|refine gTup rfl ?_))
      refine ⟨by decide, ?_⟩
      intro z hz
      have hz1 : z = ((i / 10 : Nat) : Int) := by rw [hz, show ((i : Int).tdiv 10) = ((i / 10 : Nat) : Int) from (Int.ofNat_tdiv i 10).symm, i64_id (by omega)]
      subst hz1
      (repeat(first|refine sb ?_|refine gOn rfl ?_|refine gOff rfl rfl ?_|refine gTup rfl ?_))
      intro z hz1
      rw [i64_id (by omega)] at hz1
      (repeat(first|refine sb ?_|refine gOn rfl ?_|refine gOff rfl rfl ?_|refine gTup rfl ?_))
      intro za hza
      (repeat(first|refine sb ?_|refine gOn rfl ?_|refine gOff rfl rfl ?_|refine gTup rfl ?_))
      refine ⟨by decide, ?_⟩
      intro z2 hz2
      have hz3 : z2 = ((i % 10 : Nat) : Int) := by rw [hz2]; exact (Int.ofNat_tmod i 10).symm
      subst hz3
      (repeat(first|refine sb ?_|refine gOn rfl ?_|refine gOff rfl rfl ?_|refine gTup rfl ?_))
      intro z3 hz3
      rw [i64_id (by omega)] at hz3
      (repeat(first|refine sb ?_|refine gOn rfl ?_|refine gOff rfl rfl ?_|refine gTup rfl ?_))
      intro zb hzb
      obtain rfl : za = ((UInt8.ofNat (48 + i / 10)).toNat : Int) := by rw [hza, wrap_u8, hz1, UInt8.toNat_ofNat']; omega
      obtain rfl : zb = ((UInt8.ofNat (48 + i % 10)).toNat : Int) := by rw [hzb, wrap_u8, hz3, UInt8.toNat_ofNat']; omega
      have cm : Chg s5 { s5 with heap := (s5.next, some (.cells (bytesV [UInt8.ofNat (48 + i / 10), UInt8.ofNat (48 + i % 10)]) tB false false)) :: s5.heap, next := s5.next + 1 } [] := .new []
      (repeat(first|refine sb ?_|refine gOn rfl ?_|refine gOff rfl rfl ?_|refine gTup rfl ?_))
      refine toStr_is10 (l := [UInt8.ofNat (48 + i / 10), UInt8.ofNat (48 + i % 10)]) rfl lkH rfl ?_
      (repeat(first|refine sb ?_|refine gOn rfl ?_|refine gOff rfl rfl ?_|refine gTup rfl ?_))
      refine ⟨by simp, ?_⟩
      intro w1 hw1
      subst hw1
      (repeat(first|refine sb ?_|refine gOn rfl ?_|refine gOff rfl rfl ?_|refine gTup rfl ?_))
      refine ⟨by simp, ?_⟩
      intro w1 hw1
      subst hw1
      (repeat(first|refine sb ?_|refine gOn rfl ?_|refine gOff rfl rfl ?_|refine gTup rfl ?_))
      refine (bWrite_w (hB.chg cm (by simp) (fun _ _ q => by cases q)) (by simp only [List.length_append, List.length_cons, List.length_nil]; omega)).mono fun v s7 q => ?_
      obtain ⟨C, rfl, hC, c7, hn7⟩ := q
      have n5 := c5.next
      have n5' := hB.lt
      (repeat(first|refine sb ?_|refine gOn rfl ?_|refine gOff rfl rfl ?_|refine gTup rfl ?_))
      intro z hz
      rw [i64_id (by omega)] at hz
      (repeat(first|refine sb ?_|refine gOn rfl ?_|refine gOff rfl rfl ?_|refine gTup rfl ?_))
      refine ⟨⟨i + 1, C, s7⟩, ⟨by show i + 1 ≤ 66; omega, ?_, (c5.nil cm).fresh c7 (fun id q => by
        rcases List.mem_cons.1 q with rfl | q
        · exact Nat.le_refl _
        · exact hBn id q), fun id q => by
        rcases hn7 id q with q | q
        · exact hBn id q
        · have : s5.next + 1 ≤ id := q
          omega⟩, by show 66 - (i + 1) < 66 - i; omega, Wk.same ⟨rfl, rfl, rfl, rfl, by rw [show z = ((i + 1 : Nat) : Int) by omega]; rfl, trivial⟩⟩
      show Bld s7 s4.next C ((List.range (i + 1)).flatMap knL)
      rw [List.range_succ, List.flatMap_append]
      exact hC
    · obtain rfl : q = false := by rw [hq]; simp; omega
      obtain rfl : i = 66 := by omega
      rw [show (List.range 66).flatMap knL = kn3 from rfl] at hB
      have f := c5.fine f
      (repeat(first|refine sb ?_|refine gOn rfl ?_|refine gOff rfl rfl ?_|refine gTup rfl ?_))
      refine (bString_w hB (by rw [kn3_len]; decide)).mono fun v s6 q => ?_
      obtain ⟨rfl, c6, n6⟩ := q
      have c56 : Chg s4 s6 [] := c5.fresh c6 hBn
      clear hB B0
      have f : Fine s6 := c6.fine f
      have hat := hat.nil c56
      have he2 := he2.chg c56 (fun _ _ q => by cases q)
      have hf2 := hf2.chg c56 (fun _ _ q => by cases q)
      clear c56 c6 c5
      (repeat(first|refine sb ?_|refine gOn rfl ?_|refine gOff rfl rfl ?_|refine gTup rfl ?_))
      refine (parse_n (l := kn3) f (by rw [kn3_len]; decide) tab_kn3).mono fun v s7 q => ?_
      obtain ⟨W3, V3, cv3, xs3, rfl, hx3, he3, hv3, hf3, c3⟩ := q
      clear hx3 he3 hv3
      rw [tab_kn3n]
      have f := c3.fine f
      have hat := hat.nil c3
      have he2 := he2.chg c3 (fun _ _ q => by cases q)
      have hf2 := hf2.chg c3 (fun _ _ q => by cases q)
      (repeat(first|refine sb ?_|refine gOn rfl ?_|refine gOff rfl rfl ?_|refine gTup rfl ?_))
      refine (repeat13_w (l := [35]) (n := 8193) (by decide) (by decide)).mono fun v s7 q => ?_
      obtain ⟨rfl, rfl⟩ := q
      rw [repeat_one]
      (repeat(first|refine sb ?_|refine gOn rfl ?_|refine gOff rfl rfl ?_|refine gTup rfl ?_))
      refine (parse_n (l := List.replicate 8193 35) f (by rw [List.length_replicate]; decide) tab_kn4).mono fun v s8 q => ?_
      obtain ⟨W4, V4, cv4, xs4, rfl, hx4, he4, hv4, hf4, c4⟩ := q
      clear hx4 he4 hv4
      have f := c4.fine f
      have hat := hat.nil c4
      have he2 := he2.chg c4 (fun _ _ q => by cases q)
      have hf2 := hf2.chg c4 (fun _ _ q => by cases q)
      have hf3 := hf3.chg c4 (fun _ _ q => by cases q)
      (repeat(first|refine sb ?_|refine gOn rfl ?_|refine gOff rfl rfl ?_|refine gTup rfl ?_))
      have cm := Chg.new (s := s8) (b := .cells (([1, 8, 9, 10, 11, 12, 13, 14] : List Nat).map fun z : Nat => .int .i64 (z : Int)) 3 false false) []
      have f := cm.fine f
      have hat := hat.nil cm
      have he2 := he2.chg cm (fun _ _ q => by cases q)
      have hf2 := hf2.chg cm (fun _ _ q => by cases q)
      have hf3 := hf3.chg cm (fun _ _ q => by cases q)
      have hf4 := hf4.chg cm (fun _ _ q => by cases q)
      refine (eqI13_w (fa := [1, 8, 9, 10, 11, 12, 13, 14]) hat (.inr ⟨_, _, _, _, rfl, Nat.lt_succ_self _, lkH⟩) (by decide)).mono fun v s q => ?_
      obtain ⟨rfl, rfl⟩ := q
      (repeat(first|refine sb ?_|refine gOn rfl ?_|refine gOff rfl rfl ?_|refine gTup rfl ?_))
      intro q hq
      obtain rfl : q = true := by rw [hq]; decide
      (repeat(first|refine sb ?_|refine gOn rfl ?_|refine gOff rfl rfl ?_|refine gTup rfl ?_))
      obtain ⟨b2, t2, g2, r2, rfl, l2, k2⟩ := esr_at he2
      refine ⟨by decide, ?_⟩
      intro m hm o ho
      obtain rfl : m = 0 := by omega
      obtain rfl : o = 0 := by omega
      (repeat(first|refine sb ?_|refine gOn rfl ?_|refine gOff rfl rfl ?_|refine gTup rfl ?_))
      refine ldS_is (l := [111, 110, 101, 32, 116, 119, 111, 58, 32, 120, 32, 116, 104, 114, 101, 101]) rfl k2 rfl ?_
      (repeat(first|refine sb ?_|refine gOn rfl ?_|refine gOff rfl rfl ?_|refine gTup rfl ?_))
      intro q hq
      obtain rfl : q = true := by rw [hq]; decide
      (repeat(first|refine sb ?_|refine gOn rfl ?_|refine gOff rfl rfl ?_|refine gTup rfl ?_))
      refine ⟨by decide, ?_⟩
      intro m hm o ho
      obtain rfl : m = 1 := by omega
      obtain rfl : o = 3 := by omega
      (repeat(first|refine sb ?_|refine gOn rfl ?_|refine gOff rfl rfl ?_|refine gTup rfl ?_))
      refine ldS_is (l := [70, 111, 117, 114]) rfl k2 rfl ?_
      (repeat(first|refine sb ?_|refine gOn rfl ?_|refine gOff rfl rfl ?_|refine gTup rfl ?_))
      intro q hq
      obtain rfl : q = true := by rw [hq]; decide
      (repeat(first|refine sb ?_|refine gOn rfl ?_|refine gOff rfl rfl ?_|refine gTup rfl ?_))
      clear k2 l2 he2
      have cm := Chg.new (s := { s8 with heap := (s8.next, some (.cells (([1, 8, 9, 10, 11, 12, 13, 14] : List Nat).map fun z : Nat => .int .i64 (z : Int)) 3 false false)) :: s8.heap, next := s8.next + 1 }) (b := .cells (flCs [(4, 9), (5, 5)]) tFt13 false false) []
      have f := cm.fine f
      have hf2 := hf2.chg cm (fun _ _ q => by cases q)
      have hf3 := hf3.chg cm (fun _ _ q => by cases q)
      have hf4 := hf4.chg cm (fun _ _ q => by cases q)
      refine (eqF_same (fa := [(4, 9), (5, 5)]) hf2 (.inr ⟨_, _, _, _, rfl, Nat.lt_succ_self _, lkH⟩) (by decide)).mono fun v s q => ?_
      obtain ⟨rfl, rfl⟩ := q
      (repeat(first|refine sb ?_|refine gOn rfl ?_|refine gOff rfl rfl ?_|refine gTup rfl ?_))
      intro q hq
      obtain rfl : q = true := by rw [hq]; decide
      (repeat(first|refine sb ?_|refine gOn rfl ?_|refine gOff rfl rfl ?_|refine gTup rfl ?_))
      have cm := Chg.new (s := { s8 with heap := (s8.next + 1, some (.cells (flCs [(4, 9), (5, 5)]) tFt13 false false)) :: (s8.next, some (.cells (([1, 8, 9, 10, 11, 12, 13, 14] : List Nat).map fun z : Nat => .int .i64 (z : Int)) 3 false false)) :: s8.heap, next := s8.next + 1 + 1 }) (b := .cells (flCs [(65, 7), (66, 7)]) tFt13 false false) []
      have f := cm.fine f
      have hf2 := hf2.chg cm (fun _ _ q => by cases q)
      have hf3 := hf3.chg cm (fun _ _ q => by cases q)
      have hf4 := hf4.chg cm (fun _ _ q => by cases q)
      refine (eqF_same (fa := [(65, 7), (66, 7)]) hf3 (.inr ⟨_, _, _, _, rfl, Nat.lt_succ_self _, lkH⟩) (by decide)).mono fun v s q => ?_
      obtain ⟨rfl, rfl⟩ := q
      (repeat(first|refine sb ?_|refine gOn rfl ?_|refine gOff rfl rfl ?_|refine gTup rfl ?_))
      intro q hq
      obtain rfl : q = true := by rw [hq]; decide
      (repeat(first|refine sb ?_|refine gOn rfl ?_|refine gOff rfl rfl ?_|refine gTup rfl ?_))
      have cm := Chg.new (s := { s8 with heap := (s8.next + 1 + 1, some (.cells (flCs [(65, 7), (66, 7)]) tFt13 false false)) :: (s8.next + 1, some (.cells (flCs [(4, 9), (5, 5)]) tFt13 false false)) :: (s8.next, some (.cells (([1, 8, 9, 10, 11, 12, 13, 14] : List Nat).map fun z : Nat => .int .i64 (z : Int)) 3 false false)) :: s8.heap, next := s8.next + 1 + 1 + 1 }) (b := .cells (flCs [(0, 3)]) tFt13 false false) []
      have f := cm.fine f
      have hf2 := hf2.chg cm (fun _ _ q => by cases q)
      have hf3 := hf3.chg cm (fun _ _ q => by cases q)
      have hf4 := hf4.chg cm (fun _ _ q => by cases q)
      refine (eqF_same (fa := [(0, 3)]) hf4 (.inr ⟨_, _, _, _, rfl, Nat.lt_succ_self _, lkH⟩) (by decide)).mono fun v s q => ?_
      obtain ⟨rfl, rfl⟩ := q
      (repeat(first|refine sb ?_|refine gOn rfl ?_|refine gOff rfl rfl ?_|refine gTup rfl ?_))
      refine (quote13_w (l := []) f (by decide) (by unfold asc; decide)).mono fun v s q => ?_
      obtain ⟨rfl, cq⟩ := q
      have f := cq.fine f
      rw [qt_k0]
      (repeat(first|refine sb ?_|refine gOn rfl ?_|refine gOff rfl rfl ?_|refine gTup rfl ?_))
      intro q hq
      obtain rfl : q = true := by rw [hq]; decide
      (repeat(first|refine sb ?_|refine gOn rfl ?_|refine gOff rfl rfl ?_|refine gTup rfl ?_))
      refine (quote13_w (l := [97, 32, 98]) f (by decide) (by unfold asc; decide)).mono fun v s q => ?_
      obtain ⟨rfl, cq⟩ := q
      have f := cq.fine f
      rw [qt_k1]
      (repeat(first|refine sb ?_|refine gOn rfl ?_|refine gOff rfl rfl ?_|refine gTup rfl ?_))
      intro q hq
      obtain rfl : q = true := by rw [hq]; decide
      (repeat(first|refine sb ?_|refine gOn rfl ?_|refine gOff rfl rfl ?_|refine gTup rfl ?_))
      refine (quote13_w (l := [35, 97]) f (by decide) (by unfold asc; decide)).mono fun v s q => ?_
      obtain ⟨rfl, cq⟩ := q
      have f := cq.fine f
      rw [qt_k2]
      (repeat(first|refine sb ?_|refine gOn rfl ?_|refine gOff rfl rfl ?_|refine gTup rfl ?_))
      intro q hq
      obtain rfl : q = true := by rw [hq]; decide
      (repeat(first|refine sb ?_|refine gOn rfl ?_|refine gOff rfl rfl ?_|refine gTup rfl ?_))
      refine (quote13_w (l := [97, 92, 98]) f (by decide) (by unfold asc; decide)).mono fun v s q => ?_
      obtain ⟨rfl, cq⟩ := q
      have f := cq.fine f
      rw [qt_k3]
      (repeat(first|refine sb ?_|refine gOn rfl ?_|refine gOff rfl rfl ?_|refine gTup rfl ?_))
      intro q hq
      obtain rfl : q = true := by rw [hq]; decide
      (repeat(first|refine sb ?_|refine gOn rfl ?_|refine gOff rfl rfl ?_|refine gTup rfl ?_))
      refine (quote13_w (l := [32, 97, 92]) f (by decide) (by unfold asc; decide)).mono fun v s q => ?_
      obtain ⟨rfl, cq⟩ := q
      have f := cq.fine f
      rw [qt_k4]
      (repeat(first|refine sb ?_|refine gOn rfl ?_|refine gOff rfl rfl ?_|refine gTup rfl ?_))
      intro q hq
      obtain rfl : q = true := by rw [hq]; decide
      (repeat(first|refine sb ?_|refine gOn rfl ?_|refine gOff rfl rfl ?_|refine gTup rfl ?_))
      refine (text13_w (W := none) (cw := 0) (xs := []) f (.inl rfl) (by decide) (by simp) (by decide)).mono fun v s q => ?_
      obtain ⟨rfl, cq⟩ := q
      have f := cq.fine f
      (repeat(first|refine sb ?_|refine gOn rfl ?_|refine gOff rfl rfl ?_|refine gTup rfl ?_))
      intro q hq
      obtain rfl : q = true := by rw [hq]; decide
      (repeat(first|refine sb ?_|refine gOn rfl ?_|refine gOff rfl rfl ?_|refine gTup rfl ?_))
      refine (wakes13_w f).mono fun v s q => ?_
      obtain ⟨rfl, cq⟩ := q
      (repeat(first|refine sb ?_|refine gOn rfl ?_|refine gOff rfl rfl ?_|refine gTup rfl ?_))
      rfl
end Go.Vf.S
end
section
/- What the rows of the seat have in common: no law of them reads a listed variable here. -/
namespace Go.Vf.S
open Go Go.Vf Go.Proofs Go.Proofs.YtjkbllbjelpdpaaGreatDoor Go.RowKit Go.ChangeShapes
theorem own : ownKnob pr.godebug = none := by kernel_rfl
end Go.Vf.S
end
section
/- Starts that know some of their blocks. -/
namespace Go.Vf.S
open Go Go.Vf Go.Proofs Go.Proofs.YtjkbllbjelpdpaaGreatDoor Go.RowKit Go.ChangeShapes
set_option linter.unusedVariables false
set_option linter.unusedSimpArgs false

def renO (bs : List (RE × Option ABlk)) : Ren := fun id => bs[id]?.map Prod.fst
def heapO : Nat → List (RE × Option ABlk) → List (Nat × Option ABlk)
  | _, [] => []
  | n, (_, b) :: r => (n, b) :: heapO (n + 1) r
theorem heapO_look : ∀ (l : List (RE × Option ABlk)) (n id : Nat), lookH (heapO n l) id = if n ≤ id then (l[id - n]?.map Prod.snd).join else none
  | [], n, id => by simp [heapO, lookH]
  | (e, b) :: r, n, id => by
    simp only [heapO, lookH]
    rcases beq_cases n id with ⟨h, hb⟩ | ⟨h, hb⟩
    · subst h; simp
    · rw [hb, cond_false, heapO_look r (n + 1) id]
      by_cases h1 : n + 1 ≤ id
      · rw [if_pos h1, if_pos (by omega), show id - n = (id - (n + 1)) + 1 from by omega, List.getElem?_cons_succ]
      · rw [if_neg h1, if_neg (by omega)]
def startO (bs : List (RE × Option ABlk)) (gl : Nat) : SS := ⟨heapO 0 bs, bs.length, gl⟩
theorem startO_rel {P : Program} {W : World} {bs : List (RE × Option ABlk)} {gl : Nat} (h : ∀ (i : Nat) e b, bs[i]? = some (e, some b) → BRel P (renO bs) W e b ∧ b.ro = true) (hl : ∀ (i : Nat) e b, bs[i]? = some (e, b) → e.blk < W.heap.size)
    (hg : ∀ g, g < gl → ∃ e b, bs[g]? = some (e, b) ∧ e.blk = g ∧ e.off = 0) : HRel P W.heap.size W (renO bs) (startO bs gl).st W ∧ FreeFrom (renO bs) (startO bs gl).next := by
  have get : ∀ id b e, (startO bs gl).st.heap.get id = some b → renO bs id = some e → bs[id]? = some (e, some b) := by
    intro id b e hb he
    rw [SS.get] at hb
    simp only [startO, heapO_look, Nat.zero_le, if_true, Nat.sub_zero] at hb
    simp only [renO] at he
    cases hx : bs[id]? with
    | none => rw [hx] at hb; cases hb
    | some x =>
      rw [hx] at hb he
      obtain ⟨e', b'⟩ := x
      cases he
      simp only [Option.map_some, Option.join_some] at hb
      subst hb
      rfl
  refine ⟨⟨.refl _ _, Nat.le_refl _, .refl _, ?_, ?_, ?_, ?_, ?_⟩, ?_⟩
  · intro id b e hb he; exact (h _ _ _ (get _ _ _ hb he)).1
  · intro id b e hb he hr; rw [(h _ _ _ (get _ _ _ hb he)).2] at hr; cases hr
  · intro i j b b' e e' _ hb _ he hr; rw [(h _ _ _ (get _ _ _ hb he)).2] at hr; cases hr
  · intro id e he
    simp only [renO] at he
    cases hx : bs[id]? with
    | none => rw [hx] at he; cases he
    | some x =>
      rw [hx] at he
      obtain ⟨e', b'⟩ := x
      cases he
      exact hl _ _ _ hx
  · intro g hlt
    obtain ⟨e, b, h1, h2, h3⟩ := hg g hlt
    exact ⟨e, by simp [renO, h1], h2, h3⟩
  · intro id hid
    simp only [renO]
    rw [List.getElem?_eq_none (by exact hid)]; rfl
theorem startO_fine (bs : List (RE × Option ABlk)) (gl : Nat) : Fine (startO bs gl) := fun id hid => by
  show lookH (heapO 0 bs) id = none
  rw [heapO_look, List.getElem?_eq_none (by simpa [startO] using hid)]
  rfl

end Go.Vf.S
end
section
/- A wrap that keeps the world's shape beside what is laid. -/
namespace Go.Vf.S
open Go Go.Vf Go.Proofs Go.Proofs.YtjkbllbjelpdpaaGreatDoor Go.RowKit Go.ChangeShapes
set_option linter.unusedVariables false
set_option linter.unusedSimpArgs false

theorem hand_shaped {H : Type} {enc : TypeId × Value → H} {a : Assume} {C : Checked} {os : Os} {f : FuncId} {fn : Func} {s : ChangeSpec} {conds : List PathCond} {apart fresh handsOn again : Bool} {X : World → Array Value → Prop}
    (hX : ∀ (w w' : World) (args : Array Value), w.heap = w'.heap → X w args → X w' args) (own : ownKnob C.prog.godebug = none) (started : os.Started) (noInit : C.prog.inits.idxOf? f = none) (hfn : C.prog.funcs[f]? = some fn)
    (witness : ∃ (w : World) (tape : Tape) (i : Input), w.os = os ∧ (w.forCall tape i).Shaped C.prog ∧ i.vars = [] ∧ Input.okWide C.prog (w.forCall tape i) .any w.heap.size f i ∧
      ((s.pre enc C.prog fn conds apart (w.forCall tape i).memory i.args ∧ X (w.forCall tape i).memory i.args) ∧ sizedMet enc C.prog fn (OpenSpec.ofChange s) apart (w.forCall tape i).memory i.args) ∧ a.holds C.prog (lone (Frame.enter C.prog f i.args .normal) [] (w.forCall tape i)))
    (contract : ∀ (W : World) (base : Nat) (args : Array Value) (ds gs : List (DataW H)) (before : List MemPlace), (∀ (j : Nat) t v, fn.params[j]? = some t → args[j]? = some v → Value.okWide C.prog W .any base t v) →
      DataW.Whole enc C.prog fn.params.toList s.vars apart W args.toList ds gs before → X W args → W.ShapedOpen C.prog → Calls C.prog f args W fun e W' => ∃ v, e = .returned v ∧ s.post enc C.prog fn apart fresh handsOn again W args v W') :
    ReturnsInHanded a C os f .any (fun w args => (s.pre enc C.prog fn conds apart w args ∧ X w args) ∧ sizedMet enc C.prog fn (OpenSpec.ofChange s) apart w args) (s.post enc C.prog fn apart fresh handsOn again) := by
  refine returnsInHanded_of_calls own started noInit witness ?_
  intro w tape i _ hsh _ hok hpre _
  obtain ⟨_, _, _, fn', hfn', _, _, _, _, hval⟩ := hok
  obtain rfl : fn' = fn := Option.some.inj (hfn'.symm.trans hfn)
  obtain ⟨⟨⟨ds, gs, before, hw, _⟩, hx⟩, _⟩ := hpre
  refine (contract (w.forCall tape i) w.heap.size i.args ds gs before hval (DataW.Whole.of_heap (w' := w.forCall tape i) (by rfl) hw) (hX _ _ _ (by rfl) hx) hsh).mono fun e W' ⟨v, he, hp⟩ => ?_
  subst he
  exact ChangeSpec.post_blind hp
end Go.Vf.S
end
section
/- A start that knows the library's own number, and blocks more. -/
namespace Go.Vf.S
open Go Go.Vf Go.Proofs Go.Proofs.YtjkbllbjelpdpaaGreatDoor Go.RowKit Go.ChangeShapes
set_option linter.unusedVariables false
set_option linter.unusedSimpArgs false

abbrev gMax : Nat := 1
theorem max_good {W : World} (h : W.ShapedOpen pr) : ∃ m, GoodB pr W ⟨gMax, 0, 1, 1, false⟩ (.cells [.int .i64 m] 3 false true) := by
  have h0 : ((begin pr (fun _ _ => 0) default).world.heap[gMax]?).bind Obj.row? = some (#[.int .i64 0], 3) := by kernel_rfl
  have hg : gMax < pr.globals.size := by decide +kernel
  obtain ⟨m, hm⟩ := cell_of_shapedOpen_int h hg h0 rfl (by kernel_rfl) (by kernel_rfl) Tryz.underlying3
  obtain ⟨cs, hh, hs, _⟩ := h.1 gMax _ 3 hg h0
  have hcs : cs = #[.int .i64 m] := by
    have h1 : cs.size = 1 := hs
    have h2 : cs[0]? = some (.int .i64 m) := by simpa [World.cell?, hh] using hm
    apply Array.ext'
    have h3 : cs.toList.length = 1 := by simpa using h1
    match hl : cs.toList, h3 with
    | [v], _ =>
      have : cs.toList[0]? = some (.int .i64 m) := by simpa using h2
      rw [hl] at this
      simpa using this
  subst hcs
  refine ⟨m, fun ρ => ⟨rfl, [.int .i64 m], 0, 0, 3, hh, (fun z => by cases z), (fun i _ hh => by omega), Nat.le_refl _, Nat.le_refl _, (by kernel_rfl), fun i v hi => ⟨v, by simpa using hi, plain1_rel ?_⟩⟩, rfl, (Array.getElem?_eq_some_iff.1 hh).1⟩
  match i, hi with
  | 0, hi => cases hi; rfl
  | i + 1, hi => simp at hi


/-- The number, and blocks more. -/
def bsM (m : Int) (xs : List (RE × ABlk)) : List (RE × Option ABlk) := ((List.range gMax).map fun i => (⟨i, 0, 0, 1, false⟩, none)) ++ (⟨gMax, 0, 1, 1, false⟩, some (.cells [.int .i64 m] 3 false true)) :: xs.map fun x => (x.1, some x.2)
def startM (m : Int) (xs : List (RE × ABlk)) : SS := startO (bsM m xs) (gMax + 1)
theorem bsM_len (m : Int) (xs : List (RE × ABlk)) : (bsM m xs).length = gMax + 1 + xs.length := by
  simp only [bsM, List.length_append, List.length_map, List.length_range, List.length_cons]
  omega
theorem bsM_low {m : Int} {xs : List (RE × ABlk)} {i : Nat} (h : i < gMax) : (bsM m xs)[i]? = some (⟨i, 0, 0, 1, false⟩, none) := by
  unfold bsM
  rw [List.getElem?_append_left (by rw [List.length_map, List.length_range]; exact h), List.getElem?_map, List.getElem?_range h]
  rfl
theorem bsM_at {m : Int} {xs : List (RE × ABlk)} : (bsM m xs)[gMax]? = some (⟨gMax, 0, 1, 1, false⟩, some (.cells [.int .i64 m] 3 false true)) := by
  unfold bsM
  rw [List.getElem?_append_right (by simp)]
  simp
theorem bsM_more {m : Int} {xs : List (RE × ABlk)} {i : Nat} : (bsM m xs)[gMax + 1 + i]? = xs[i]?.map fun x => (x.1, some x.2) := by
  unfold bsM
  rw [List.getElem?_append_right (by simp <;> omega)]
  simp only [List.length_map, List.length_range]
  rw [show gMax + 1 + i - gMax = i + 1 by omega, List.getElem?_cons_succ, List.getElem?_map]
theorem startM_rel {W : World} {m : Int} {xs : List (RE × ABlk)} (g1 : GoodB pr W ⟨gMax, 0, 1, 1, false⟩ (.cells [.int .i64 m] 3 false true)) (hx : ∀ x ∈ xs, GoodB pr W x.1 x.2) :
    HRel pr W.heap.size W (renO (bsM m xs)) (startM m xs).st W ∧ FreeFrom (renO (bsM m xs)) (startM m xs).next ∧ Gx (startM m xs) ∧ Fine (startM m xs) ∧
      ∀ (i : Nat) x, xs[i]? = some x → renO (bsM m xs) (gMax + 1 + i) = some x.1 ∧ lookH (startM m xs).heap (gMax + 1 + i) = some x.2 ∧ gMax + 1 + i < (startM m xs).next := by
  have k1 : gMax < W.heap.size := g1.2.2
  have all : ∀ i y, (bsM m xs)[i]? = some y → (i < gMax ∧ y = (⟨i, 0, 0, 1, false⟩, none)) ∨ (i = gMax ∧ y = (⟨gMax, 0, 1, 1, false⟩, some (.cells [.int .i64 m] 3 false true))) ∨ (∃ x ∈ xs, y = (x.1, some x.2)) := fun i y h => by
    rcases Nat.lt_trichotomy i gMax with q | q | q
    · rw [bsM_low q] at h
      exact .inl ⟨q, (Option.some.inj h).symm⟩
    · subst q
      rw [bsM_at] at h
      exact .inr (.inl ⟨rfl, (Option.some.inj h).symm⟩)
    · obtain ⟨j, rfl⟩ : ∃ j, i = gMax + 1 + j := ⟨i - (gMax + 1), by omega⟩
      rw [bsM_more] at h
      cases hj : xs[j]? with
      | none => rw [hj] at h; cases h
      | some x =>
        rw [hj] at h
        exact .inr (.inr ⟨x, List.mem_of_getElem? hj, (Option.some.inj h).symm⟩)
  obtain ⟨H1, H2⟩ := startO_rel (P := pr) (W := W) (bs := bsM m xs) (gl := gMax + 1) (fun i e b h => by
    rcases all i _ h with ⟨_, q⟩ | ⟨_, q⟩ | ⟨x, hm, q⟩
    · cases q
    · cases q; exact ⟨g1.1 _, g1.2.1⟩
    · cases q; exact ⟨(hx x hm).1 _, (hx x hm).2.1⟩) (fun i e b h => by
    rcases all i _ h with ⟨q1, q⟩ | ⟨_, q⟩ | ⟨x, hm, q⟩
    · cases q; exact Nat.lt_trans q1 k1
    · cases q; exact k1
    · cases q; exact (hx x hm).2.2) (fun g hg => by
    rcases Nat.lt_or_ge g gMax with q | q
    · exact ⟨_, _, bsM_low q, rfl, rfl⟩
    · obtain rfl : g = gMax := by omega
      exact ⟨_, _, bsM_at, rfl, rfl⟩)
  have lk : ∀ i, lookH (startM m xs).heap i = ((bsM m xs)[i]?.map Prod.snd).join := fun i => by
    show lookH (heapO 0 (bsM m xs)) i = _
    rw [heapO_look, if_pos (Nat.zero_le _), Nat.sub_zero]
  have nx : (startM m xs).next = gMax + 1 + xs.length := bsM_len m xs
  refine ⟨H1, H2, ⟨Nat.lt_succ_self _, by rw [nx]; show gMax < _; omega, m, by rw [lk, show gMx = gMax from rfl, bsM_at]; rfl⟩, startO_fine _ _, fun i x h => ⟨?_, ?_, ?_⟩⟩
  · show ((bsM m xs)[gMax + 1 + i]?).map Prod.fst = _
    rw [bsM_more, h]
    rfl
  · rw [lk, bsM_more, h]
    rfl
  · have := (List.getElem?_eq_some_iff.1 h).1
    rw [nx]; omega
end Go.Vf.S
end
section
/- What the rows of the seat lay; texts and numbers that are handed in. -/
namespace Go.Vf.S
open Go Go.Vf Go.Proofs Go.Proofs.YtjkbllbjelpdpaaGreatDoor Go.RowKit Go.ChangeShapes Go.WideShapes
set_option linter.unusedVariables false
set_option linter.unusedSimpArgs false
set_option maxRecDepth 100000
def laidN : List (String × DataW Unit) := [("unicode/utf8.acceptRanges", Rows.laid_unicode_utf8_acceptRanges), ("unicode.asciiFold", Rows.laid_unicode_asciiFold), ("unicode.caseOrbit", Rows.laid_unicode_caseOrbit), ("unicode.CaseRanges", Rows.laid_unicode_CaseRanges), ("unicode/utf8.first", Rows.laid_unicode_utf8_first)]
section
variable {H : Type} {enc : TypeId × Value → H} {W : World} {b0 : Nat} {v : Value} {d : DataW H} {p : List MemPlace}
end
end Go.Vf.S
end
