import Derived.Test.YtjkbllbjelpdpaaGreatDoorMg1
import Derived.Handy
import Derived.Test.YtjkbllbjelpdpaaGreatDoorAdS
section
/- A replacer of bytes by texts: what it makes of a text. -/
namespace Go.Vf.S
open Go Go.Vf Go.Proofs Go.RowKit
attribute [local irreducible] wSeq wRow wp wG
set_option linter.unusedVariables false
set_option linter.unusedSimpArgs false
set_option maxRecDepth 10000

/-- How many bytes are told by two. -/
def nqN (l : List UInt8) : Nat := l.countP nqB
theorem nqN_split (l : List UInt8) : nqN l = l.count 92 + l.count 34 := by
  unfold nqN
  induction l with
  | nil => rfl
  | cons c l ih =>
    rw [List.countP_cons, List.count_cons, List.count_cons, ih]
    by_cases h1 : c = 92
    · subst h1; simp [nqB]; omega
    · by_cases h2 : c = 34
      · subst h2; simp [nqB]; omega
      · simp [nqB, h1, h2]
theorem es_len (l : List UInt8) : (l.flatMap esB).length = l.length + nqN l := by
  unfold nqN
  induction l with
  | nil => rfl
  | cons c l ih =>
    rw [List.flatMap_cons, List.length_append, ih, List.countP_cons, List.length_cons]
    unfold esB
    by_cases h : nqB c = true
    · rw [if_pos h, if_pos h]; simp; omega
    · rw [if_neg h, if_neg h]; simp; omega
theorem es_none {l : List UInt8} (h : nqN l = 0) : l.flatMap esB = l := by
  unfold nqN at h
  induction l with
  | nil => rfl
  | cons c l ih =>
    rw [List.countP_cons] at h
    by_cases hc : nqB c = true
    · rw [if_pos hc] at h; omega
    · rw [if_neg hc] at h
      rw [List.flatMap_cons, ih (by omega)]
      unfold esB
      rw [if_neg hc]
      rfl
theorem nqN_take {l : List UInt8} {i : Nat} {c : UInt8} (h : l[i]? = some c) : nqN (l.take (i + 1)) = nqN (l.take i) + if nqB c = true then 1 else 0 := by
  unfold nqN
  rw [List.take_add_one, h, List.countP_append]
  simp [List.countP_cons]
theorem nqN_le (l : List UInt8) (i : Nat) : nqN (l.take i) ≤ nqN l := (List.take_sublist i l).countP_le
theorem nqN_len (l : List UInt8) : nqN l ≤ l.length := List.countP_le_length
theorem es_take {l : List UInt8} {i : Nat} {c : UInt8} (h : l[i]? = some c) : (l.take (i + 1)).flatMap esB = (l.take i).flatMap esB ++ esB c := by
  rw [List.take_add_one, h, List.flatMap_append]
  simp
theorem bsV_no {i : Nat} {a b : Value} (h1 : i ≠ 92) (h2 : i ≠ 34) : bsV 0 a b i = nsV := by
  unfold bsV
  rw [if_neg (fun q => h1 q.1), if_neg (fun q => h2 q.1)]
/-- What is found at a byte. -/
theorem BsJ.byte {s : SS} {q tr a b : Nat} {cs : List Value} (J : BsJ s q tr 0 a b cs) (c : UInt8) :
    (nqB c = true ∧ ∃ k, cs[c.toNat]? = some (.slice (some ⟨k, 0, none⟩) 2 0) ∧ k < s.next ∧ lookH s.heap k = some (.cells (bytesV [92, c]) tB true false) ∧ (k = a ∨ k = b)) ∨ (nqB c = false ∧ cs[c.toNat]? = some nsV) := by
  have hc := J.at_ c.toNat c.toNat_lt
  by_cases h1 : c = 92
  · subst h1
    obtain ⟨x, y⟩ := J.ha (by decide)
    exact .inl ⟨rfl, a, hc, x, y, .inl rfl⟩
  · by_cases h2 : c = 34
    · subst h2
      obtain ⟨x, y⟩ := J.hb rfl
      exact .inl ⟨rfl, b, hc, x, y, .inr rfl⟩
    · refine .inr ⟨by simp [nqB, h1, h2], ?_⟩
      rw [hc, bsV_no (fun q => h1 (UInt8.toNat_inj.1 q)) (fun q => h2 (UInt8.toNat_inj.1 q))]
/-- So far of what is made, in a row of its size. -/
def esR (l : List UInt8) (i : Nat) : List UInt8 := (l.take i).flatMap esB ++ List.replicate (l.length + nqN l - ((l.take i).flatMap esB).length) 0
theorem esR_all (l : List UInt8) : esR l l.length = l.flatMap esB := by
  unfold esR
  rw [List.take_length, es_len, Nat.sub_self]; simp
theorem es_le (l : List UInt8) (i : Nat) : ((l.take i).flatMap esB).length ≤ l.length + nqN l := by
  rw [es_len, List.length_take]
  have := nqN_le l i
  omega
theorem esR_len (l : List UInt8) (i : Nat) : (esR l i).length = l.length + nqN l := by
  unfold esR
  rw [List.length_append, List.length_replicate]
  have := es_le l i
  omega
theorem esR_next {l : List UInt8} {i : Nat} {c : UInt8} (h : l[i]? = some c) : esR l (i + 1) = (esR l i).take ((l.take i).flatMap esB).length ++ esB c ++ (esR l i).drop (((l.take i).flatMap esB).length + (esB c).length) := by
  have h1 := es_le l (i + 1)
  rw [es_take h, List.length_append] at h1
  unfold esR
  rw [List.take_left, es_take h, List.length_append, List.drop_append, List.drop_of_length_le (by omega), List.nil_append, List.drop_replicate]
  congr 2
  omega
theorem slL_own {T : TL} {s : SS} {K : RR → Prop} {x lo : Operand} {b n cap j : Nat} {cs : List Value} {t : TypeId} {r : Bool} {k : IntKind} {z : Int} (hx : opd T s.gl x = some (.slice (some ⟨b, 0, none⟩) n cap)) (hb : lookH s.heap b = some (.cells cs t false r)) (hlo : opd T s.gl lo = some (.int k z)) (hz : z = (j : Int)) (hj : j < cap) (hn : j ≤ n) (hc : n ≤ cap)
    (hK : K (.val (.slice (some ⟨b, j, none⟩) (n - j) (cap - j)))) : wN pr (.slL 1 x (some lo) none) T s K := by
  subst hz
  simp only [wN, hx, opdO, hlo, hb, wBnd]
  refine ⟨by omega, fun m hm => ?_⟩
  obtain rfl : m = j := by omega
  intro o n' d ho hn' hd
  rw [if_neg (by omega), Nat.zero_add, Nat.mul_one] at ho
  subst ho hn' hd
  exact hK
structure RIx where
  i : Nat
  s : SS
/-- So far of the count over both bytes. -/
def cuN (l : List UInt8) (k : Nat) : Nat := if k = 0 then 0 else if k = 1 then l.count 92 else l.count 92 + l.count 34
set_option maxHeartbeats 4000000 in
theorem bsr_w {s : SS} {q0 tr a b : Nat} {cs : List Value} {l : List UInt8} (f : Fine s) (J : BsJ s q0 tr 0 a b cs) (hl : l.length ≤ 1000000) :
    CallW pr n_strings_byteStringReplacer_Replace [ptrV q0, str l] s fun v s' => v = str (l.flatMap esB) ∧ Chg s s' [] := by
  refine CallW.run good ok_strings_byteStringReplacer_Replace (by simp) rfl ?_
  have hnl := nqN_len l
  (try refine pSeq ?_); (repeat(first|refine sb ?_|refine kNo ?_))
  intro n hn
  subst hn
  (repeat(first|refine sb ?_|refine kNo ?_))
  refine ld1_is rfl J.hq J.row ?_
  (repeat(first|refine sb ?_|refine kNo ?_))
  intro z hz
  rw [i64_id (by decide)] at hz
  obtain rfl : z = 16 := by omega
  (repeat(first|refine sb ?_|refine kNo ?_))
  intro n hn
  subst hn
  (repeat(first|refine sb ?_|refine kNo ?_))
  intro q hq
  by_cases h16 : 16 ≤ l.length
  · obtain rfl : q = true := by rw [hq]; simp; omega
    (repeat(first|refine sb ?_|refine kNo ?_))
    refine ld1_is rfl J.hq J.row ?_
    (repeat(first|refine sb ?_|refine kNo ?_))
    refine pLoop (MW.head good (fun k : Nat => 2 - k) (fun k => k ≤ 2) (fun k => [(0, ptrV q0), (1, str l), (4, str []), (5, .int .i64 ((l.length + cuN l k : Nat) : Int)), (6, .bool (decide (0 < cuN l k))), (30, .slice (some ⟨tr, 0, none⟩) 2 2), (31, .int .i64 2), (32, .int .i64 (k : Int))]) (fun _ => s) 0 (by decide) (Wk.same ⟨rfl, rfl, rfl, rfl, rfl, rfl, rfl, rfl, trivial⟩) ?_)
    intro k hk
    (repeat(first|refine sb ?_|refine kNo ?_))
    intro q hq
    by_cases hk2 : k < 2
    · obtain rfl : q = true := by rw [hq]; simp; omega
      obtain ⟨o, ho⟩ : ∃ o : UInt8, (k = 0 ∧ o = 92) ∨ (k = 1 ∧ o = 34) := by
        rcases (show k = 0 ∨ k = 1 by omega) with rfl | rfl
        · exact ⟨92, .inl ⟨rfl, rfl⟩⟩
        · exact ⟨34, .inr ⟨rfl, rfl⟩⟩
      have g1 : [if 0 ≤ 1 then str [92] else str [], if 0 = 0 then str [34] else str []][k]? = some (str [o]) := by rcases ho with ⟨rfl, rfl⟩ | ⟨rfl, rfl⟩ <;> rfl
      have hcu : cuN l (k + 1) = cuN l k + l.count o := by rcases ho with ⟨rfl, rfl⟩ | ⟨rfl, rfl⟩ <;> simp [cuN]
      have hco : l.count o ≤ l.length := List.count_le_length
      have hck : cuN l k ≤ l.length := by
        unfold cuN
        have := nqN_split l
        split
        · omega
        · split <;> omega
      have c256 := o.toNat_lt
      obtain ⟨kb, k1, k2, k3⟩ : ∃ kb, cs[o.toNat]? = some (.slice (some ⟨kb, 0, none⟩) 2 0) ∧ kb < s.next ∧ lookH s.heap kb = some (.cells (bytesV [92, o]) tB true false) := by
        rcases J.byte o with ⟨_, kb, h1, h2, h3, _⟩ | ⟨hs, _⟩
        · exact ⟨kb, h1, h2, h3⟩
        · rcases ho with ⟨rfl, rfl⟩ | ⟨rfl, rfl⟩ <;> cases hs
      (repeat(first|refine sb ?_|refine kNo ?_))
      refine ⟨by omega, ?_⟩
      intro m1 hm1 o1 ho1
      obtain rfl : m1 = k := by omega
      (repeat(first|refine sb ?_|refine kNo ?_))
      refine ldS_is (l := [o]) rfl J.ht (by rw [ho1, Nat.mul_one, Nat.zero_add]; exact g1) ?_
      (repeat(first|refine sb ?_|refine kNo ?_))
      refine count_w.mono fun v s q => ?_
      obtain ⟨rfl, rfl⟩ := q
      (repeat(first|refine sb ?_|refine kNo ?_))
      intro q hq
      by_cases h0 : l.count o = 0
      · obtain rfl : q = false := by rw [hq, h0]; rfl
        (repeat(first|refine sb ?_|refine kNo ?_))
        intro z hz
        rw [i64_id (by omega)] at hz
        (repeat(first|refine sb ?_|refine kNo ?_))
        refine ⟨m1 + 1, by omega, by show 2 - (m1 + 1) < 2 - m1; omega, Wk.same ⟨rfl, rfl, rfl, ?_, ?_, rfl, rfl, ?_, trivial⟩⟩
        · rw [hcu, h0]; rfl
        · rw [hcu, h0]; rfl
        · rw [show z = ((m1 + 1 : Nat) : Int) by omega]; rfl
      · obtain rfl : q = true := by rw [hq]; simp; omega
        (repeat(first|refine sb ?_|refine kNo ?_))
        refine ⟨⟨Int.le_refl _, by rw [List.length_singleton]; decide⟩, ?_⟩
        intro m2 hm2
        obtain rfl : m2 = 0 := by omega
        refine ⟨o, rfl, ?_⟩
        (repeat(first|refine sb ?_|refine kNo ?_))
        refine ⟨by omega, ?_⟩
        intro m3 hm3 o3 ho3
        obtain rfl : m3 = o.toNat := by omega
        (repeat(first|refine sb ?_|refine kNo ?_))
        refine ld1_is rfl J.hq (by rw [ho3, Nat.mul_one, Nat.zero_add]; exact k1) ?_
        (repeat(first|refine sb ?_|refine kNo ?_))
        intro z1 hz1
        rw [i64_id (by decide)] at hz1
        obtain rfl : z1 = 1 := by omega
        (repeat(first|refine sb ?_|refine kNo ?_))
        intro z2 hz2
        rw [i64_id (by omega)] at hz2
        (repeat(first|refine sb ?_|refine kNo ?_))
        intro z3 hz3
        rw [i64_id (by omega)] at hz3
        obtain rfl : z3 = ((l.length + cuN l (m1 + 1) : Nat) : Int) := by omega
        (repeat(first|refine sb ?_|refine kNo ?_))
        intro z hz
        rw [i64_id (by omega)] at hz
        (repeat(first|refine sb ?_|refine kNo ?_))
        refine ⟨m1 + 1, by omega, by show 2 - (m1 + 1) < 2 - m1; omega, Wk.same ⟨rfl, rfl, rfl, rfl, ?_, rfl, rfl, ?_, trivial⟩⟩
        · rw [show decide (0 < cuN l (m1 + 1)) = true from decide_eq_true (by omega)]; rfl
        · rw [show z = ((m1 + 1 : Nat) : Int) by omega]; rfl
    · obtain rfl : q = false := by rw [hq]; simp; omega
      obtain rfl : k = 2 := by omega
      have eN : cuN l 2 = nqN l := (nqN_split l).symm
      rw [eN]
      (repeat(first|refine sb ?_|refine kNo ?_))
      intro q hq
      by_cases hN : nqN l = 0
      · obtain rfl : q = true := by rw [hq, hN]; rfl
        (repeat(first|refine sb ?_|refine kNo ?_))
        exact ⟨by rw [es_none hN]; rfl, .refl _ _⟩
      · obtain rfl : q = false := by rw [hq]; simp; omega
        (repeat(first|refine sb ?_|refine kNo ?_))
        refine ⟨by omega, ?_⟩
        intro m0 n0 hm0 hn0 cs0 hcs0
        obtain rfl : m0 = l.length + nqN l := by omega
        obtain rfl : n0 = l.length + nqN l := by omega
        rw [rep_bytes] at hcs0
        subst hcs0
        (repeat(first|refine sb ?_|refine kNo ?_))
        refine pLoop (MW.head good (fun x : RIx => l.length - x.i) (fun x => x.i ≤ l.length ∧ lookH x.s.heap s.next = some (.cells (bytesV (esR l x.i)) tB false false) ∧ s.next < x.s.next ∧ Chg s x.s []) (fun x => [(0, ptrV q0), (1, str l), (4, str []), (12, .slice (some ⟨s.next, 0, none⟩) (l.length + nqN l) (l.length + nqN l)), (13, .int .i64 ((((l.take x.i).flatMap esB).length : Nat) : Int)), (14, .int .i64 (x.i : Int))]) (fun x => x.s) ⟨0, _⟩ ⟨Nat.zero_le _, lkH, Nat.lt_succ_self _, .new _⟩ (Wk.same ⟨rfl, rfl, rfl, rfl, rfl, rfl, trivial⟩) ?_)
        rintro ⟨i, s4⟩ ⟨hi, hr, hlt4, c4⟩
        dsimp only at hi hr hlt4 c4 ⊢
        have J4 := J.chg c4 (by simp) (by simp) (by simp) (by simp)
        (repeat(first|refine sb ?_|refine kNo ?_))
        intro n hn
        subst hn
        (repeat(first|refine sb ?_|refine kNo ?_))
        intro q hq
        by_cases hlt : i < l.length
        · obtain rfl : q = true := by rw [hq]; simp; omega
          obtain ⟨c, hc⟩ : ∃ c, l[i]? = some c := ⟨_, List.getElem?_eq_getElem hlt⟩
          have es1 := es_le l (i + 1)
          rw [es_take hc, List.length_append] at es1
          have c256 := c.toNat_lt
          (repeat(first|refine sb ?_|refine kNo ?_))
          refine ⟨by omega, ?_⟩
          intro m hm
          obtain rfl : m = i := by omega
          refine ⟨c, hc, ?_⟩
          (repeat(first|refine sb ?_|refine kNo ?_))
          refine ⟨by omega, ?_⟩
          intro m2 hm2 o ho
          obtain rfl : m2 = c.toNat := by omega
          (repeat(first|refine sb ?_|refine kNo ?_))
          have eN2 := esR_next hc
          rcases J4.byte c with ⟨hs, k, k1, k2, k3, k4⟩ | ⟨hs, k1⟩
          · refine ld1_is rfl J4.hq (by rw [ho, Nat.mul_one, Nat.zero_add]; exact k1) ?_
            have e2 : esB c = [92, c] := if_pos hs
            rw [e2] at es1 eN2
            simp only [List.length_cons, List.length_nil] at es1 eN2
            (repeat(first|refine sb ?_|refine kNo ?_))
            intro q hq
            obtain rfl : q = true := by rw [hq]; rfl
            (repeat(first|refine sb ?_|refine kNo ?_))
            refine slL_own rfl hr rfl rfl (by omega) (by omega) (Nat.le_refl _) ?_
            (repeat(first|refine sb ?_|refine kNo ?_))
            refine ⟨by omega, ?_⟩
            intro m3 hm3 o3 ho3
            obtain rfl : m3 = c.toNat := by omega
            (repeat(first|refine sb ?_|refine kNo ?_))
            refine ld1_is rfl J4.hq (by rw [ho3, Nat.mul_one, Nat.zero_add]; exact k1) ?_
            (repeat(first|refine sb ?_|refine kNo ?_))
            refine cpy_own (a := esR l m) (l := [92, c]) rfl hr rfl ⟨rfl, rfl, k2, _, _, _, _, k3, rfl, bytesV_plain _⟩ (by decide) (by omega) (by rw [esR_len]; omega) ?_
            rw [← eN2]
            (repeat(first|refine sb ?_|refine kNo ?_))
            intro z hz
            rw [i64_id (by omega)] at hz
            (repeat(first|refine sb ?_|refine kNo ?_))
            intro z2 hz2
            rw [i64_id (by omega)] at hz2
            (repeat(first|refine sb ?_|refine kNo ?_))
            refine ⟨⟨m + 1, { s4 with heap := (s.next, some (.cells (bytesV (esR l (m + 1))) tB false false)) :: s4.heap }⟩, ⟨by show m + 1 ≤ l.length; omega, lkH, hlt4, c4.fresh (.turn hlt4) (by simp)⟩, by show l.length - (m + 1) < l.length - m; omega, Wk.same ⟨rfl, rfl, rfl, rfl, ?_, ?_, trivial⟩⟩
            · rw [show z = ((((l.take (m + 1)).flatMap esB).length : Nat) : Int) by rw [es_take hc, List.length_append, e2, List.length_cons, List.length_singleton]; omega]; rfl
            · rw [show z2 = ((m + 1 : Nat) : Int) by omega]; rfl
          · refine ld1_is rfl J4.hq (by rw [ho, Nat.mul_one, Nat.zero_add]; exact k1) ?_
            have e2 : esB c = [c] := if_neg (by rw [hs]; simp)
            rw [e2] at es1 eN2
            simp only [List.length_cons, List.length_nil] at es1 eN2
            (repeat(first|refine sb ?_|refine kNo ?_))
            intro q hq
            obtain rfl : q = false := by rw [hq]; rfl
            (repeat(first|refine sb ?_|refine kNo ?_))
            refine ⟨by omega, ?_⟩
            intro m3 hm3 o3 ho3
            obtain rfl : m3 = ((l.take m).flatMap esB).length := by omega
            (repeat(first|refine sb ?_|refine kNo ?_))
            refine st_abs (cs' := bytesV (esR l (m + 1))) rfl rfl hr hlt4 rfl ?_ fun s5 e5 c5 n5 => ?_
            · rw [ho3, Nat.zero_add, Nat.mul_one, eN2]
              exact setRow_bytes (esR l m) [c] _ (by rw [esR_len]; omega)
            (repeat(first|refine sb ?_|refine kNo ?_))
            intro z hz
            rw [i64_id (by omega)] at hz
            (repeat(first|refine sb ?_|refine kNo ?_))
            intro z2 hz2
            rw [i64_id (by omega)] at hz2
            (repeat(first|refine sb ?_|refine kNo ?_))
            refine ⟨⟨m + 1, s5⟩, ⟨by show m + 1 ≤ l.length; omega, e5, by show s.next < s5.next; omega, c4.fresh c5 (by simp)⟩, by show l.length - (m + 1) < l.length - m; omega, Wk.same ⟨rfl, rfl, rfl, rfl, ?_, ?_, trivial⟩⟩
            · rw [show z = ((((l.take (m + 1)).flatMap esB).length : Nat) : Int) by rw [es_take hc, List.length_append, e2, List.length_singleton]; omega]; rfl
            · rw [show z2 = ((m + 1 : Nat) : Int) by omega]; rfl
        · obtain rfl : q = false := by rw [hq]; simp; omega
          obtain rfl : i = l.length := by omega
          rw [esR_all] at hr
          (repeat(first|refine sb ?_|refine kNo ?_))
          refine toStr_is10 rfl hr (es_len l) ?_
          (repeat(first|refine sb ?_|refine kNo ?_))
          exact ⟨rfl, c4⟩
  · obtain rfl : q = false := by rw [hq]; simp; omega
    (repeat(first|refine sb ?_|refine kNo ?_))
    refine pLoop (MW.head good (fun i : Nat => l.length - i) (fun i => i ≤ l.length) (fun i => [(0, ptrV q0), (1, str l), (4, str []), (5, .int .i64 ((l.length + nqN (l.take i) : Nat) : Int)), (6, .bool (decide (0 < nqN (l.take i)))), (10, .int .i64 (i : Int))]) (fun _ => s) 0 (Nat.zero_le _) (Wk.same ⟨rfl, rfl, rfl, rfl, rfl, rfl, trivial⟩) ?_)
    intro i hi
    (repeat(first|refine sb ?_|refine kNo ?_))
    intro n hn
    subst hn
    (repeat(first|refine sb ?_|refine kNo ?_))
    intro q hq
    by_cases hlt : i < l.length
    · obtain rfl : q = true := by rw [hq]; simp; omega
      obtain ⟨c, hc⟩ : ∃ c, l[i]? = some c := ⟨_, List.getElem?_eq_getElem hlt⟩
      have hnx := nqN_take hc
      have hni := nqN_le l i
      have c256 := c.toNat_lt
      (repeat(first|refine sb ?_|refine kNo ?_))
      refine ⟨by omega, ?_⟩
      intro m hm
      obtain rfl : m = i := by omega
      refine ⟨c, hc, ?_⟩
      (repeat(first|refine sb ?_|refine kNo ?_))
      refine ⟨by omega, ?_⟩
      intro m2 hm2 o ho
      obtain rfl : m2 = c.toNat := by omega
      (repeat(first|refine sb ?_|refine kNo ?_))
      rcases J.byte c with ⟨hs, k, k1, k2, k3, k4⟩ | ⟨hs, k1⟩
      · refine ld1_is rfl J.hq (by rw [ho, Nat.mul_one, Nat.zero_add]; exact k1) ?_
        rw [if_pos hs] at hnx
        (repeat(first|refine sb ?_|refine kNo ?_))
        intro q hq
        obtain rfl : q = true := by rw [hq]; rfl
        (repeat(first|refine sb ?_|refine kNo ?_))
        refine ⟨by omega, ?_⟩
        intro m3 hm3 o3 ho3
        obtain rfl : m3 = c.toNat := by omega
        (repeat(first|refine sb ?_|refine kNo ?_))
        refine ld1_is rfl J.hq (by rw [ho3, Nat.mul_one, Nat.zero_add]; exact k1) ?_
        (repeat(first|refine sb ?_|refine kNo ?_))
        intro z1 hz1
        rw [i64_id (by decide)] at hz1
        obtain rfl : z1 = 1 := by omega
        (repeat(first|refine sb ?_|refine kNo ?_))
        intro z3 hz3
        rw [i64_id (by omega)] at hz3
        obtain rfl : z3 = ((l.length + nqN (l.take (m + 1)) : Nat) : Int) := by omega
        (repeat(first|refine sb ?_|refine kNo ?_))
        intro z hz
        rw [i64_id (by omega)] at hz
        (repeat(first|refine sb ?_|refine kNo ?_))
        refine ⟨m + 1, by omega, by show l.length - (m + 1) < l.length - m; omega, Wk.same ⟨rfl, rfl, rfl, rfl, ?_, ?_, trivial⟩⟩
        · rw [show decide (0 < nqN (l.take (m + 1))) = true from decide_eq_true (by omega)]; rfl
        · rw [show z = ((m + 1 : Nat) : Int) by omega]; rfl
      · refine ld1_is rfl J.hq (by rw [ho, Nat.mul_one, Nat.zero_add]; exact k1) ?_
        rw [if_neg (by rw [hs]; simp), Nat.add_zero] at hnx
        (repeat(first|refine sb ?_|refine kNo ?_))
        intro q hq
        obtain rfl : q = false := by rw [hq]; rfl
        (repeat(first|refine sb ?_|refine kNo ?_))
        intro z hz
        rw [i64_id (by omega)] at hz
        (repeat(first|refine sb ?_|refine kNo ?_))
        refine ⟨m + 1, by omega, by show l.length - (m + 1) < l.length - m; omega, Wk.same ⟨rfl, rfl, rfl, ?_, ?_, ?_, trivial⟩⟩
        · rw [hnx]; rfl
        · rw [hnx]; rfl
        · rw [show z = ((m + 1 : Nat) : Int) by omega]; rfl
    · obtain rfl : q = false := by rw [hq]; simp; omega
      obtain rfl : i = l.length := by omega
      have eN : nqN (l.take l.length) = nqN l := by rw [List.take_length]
      rw [eN]
      (repeat(first|refine sb ?_|refine kNo ?_))
      intro q hq
      by_cases hN : nqN l = 0
      · obtain rfl : q = true := by rw [hq, hN]; rfl
        (repeat(first|refine sb ?_|refine kNo ?_))
        exact ⟨by rw [es_none hN]; rfl, .refl _ _⟩
      · obtain rfl : q = false := by rw [hq]; simp; omega
        (repeat(first|refine sb ?_|refine kNo ?_))
        refine ⟨by omega, ?_⟩
        intro m0 n0 hm0 hn0 cs0 hcs0
        obtain rfl : m0 = l.length + nqN l := by omega
        obtain rfl : n0 = l.length + nqN l := by omega
        rw [rep_bytes] at hcs0
        subst hcs0
        (repeat(first|refine sb ?_|refine kNo ?_))
        refine pLoop (MW.head good (fun x : RIx => l.length - x.i) (fun x => x.i ≤ l.length ∧ lookH x.s.heap s.next = some (.cells (bytesV (esR l x.i)) tB false false) ∧ s.next < x.s.next ∧ Chg s x.s []) (fun x => [(0, ptrV q0), (1, str l), (4, str []), (12, .slice (some ⟨s.next, 0, none⟩) (l.length + nqN l) (l.length + nqN l)), (13, .int .i64 ((((l.take x.i).flatMap esB).length : Nat) : Int)), (14, .int .i64 (x.i : Int))]) (fun x => x.s) ⟨0, _⟩ ⟨Nat.zero_le _, lkH, Nat.lt_succ_self _, .new _⟩ (Wk.same ⟨rfl, rfl, rfl, rfl, rfl, rfl, trivial⟩) ?_)
        rintro ⟨i, s4⟩ ⟨hi, hr, hlt4, c4⟩
        dsimp only at hi hr hlt4 c4 ⊢
        have J4 := J.chg c4 (by simp) (by simp) (by simp) (by simp)
        (repeat(first|refine sb ?_|refine kNo ?_))
        intro n hn
        subst hn
        (repeat(first|refine sb ?_|refine kNo ?_))
        intro q hq
        by_cases hlt : i < l.length
        · obtain rfl : q = true := by rw [hq]; simp; omega
          obtain ⟨c, hc⟩ : ∃ c, l[i]? = some c := ⟨_, List.getElem?_eq_getElem hlt⟩
          have es1 := es_le l (i + 1)
          rw [es_take hc, List.length_append] at es1
          have c256 := c.toNat_lt
          (repeat(first|refine sb ?_|refine kNo ?_))
          refine ⟨by omega, ?_⟩
          intro m hm
          obtain rfl : m = i := by omega
          refine ⟨c, hc, ?_⟩
          (repeat(first|refine sb ?_|refine kNo ?_))
          refine ⟨by omega, ?_⟩
          intro m2 hm2 o ho
          obtain rfl : m2 = c.toNat := by omega
          (repeat(first|refine sb ?_|refine kNo ?_))
          have eN2 := esR_next hc
          rcases J4.byte c with ⟨hs, k, k1, k2, k3, k4⟩ | ⟨hs, k1⟩
          · refine ld1_is rfl J4.hq (by rw [ho, Nat.mul_one, Nat.zero_add]; exact k1) ?_
            have e2 : esB c = [92, c] := if_pos hs
            rw [e2] at es1 eN2
            simp only [List.length_cons, List.length_nil] at es1 eN2
            (repeat(first|refine sb ?_|refine kNo ?_))
            intro q hq
            obtain rfl : q = true := by rw [hq]; rfl
            (repeat(first|refine sb ?_|refine kNo ?_))
            refine slL_own rfl hr rfl rfl (by omega) (by omega) (Nat.le_refl _) ?_
            (repeat(first|refine sb ?_|refine kNo ?_))
            refine ⟨by omega, ?_⟩
            intro m3 hm3 o3 ho3
            obtain rfl : m3 = c.toNat := by omega
            (repeat(first|refine sb ?_|refine kNo ?_))
            refine ld1_is rfl J4.hq (by rw [ho3, Nat.mul_one, Nat.zero_add]; exact k1) ?_
            (repeat(first|refine sb ?_|refine kNo ?_))
            refine cpy_own (a := esR l m) (l := [92, c]) rfl hr rfl ⟨rfl, rfl, k2, _, _, _, _, k3, rfl, bytesV_plain _⟩ (by decide) (by omega) (by rw [esR_len]; omega) ?_
            rw [← eN2]
            (repeat(first|refine sb ?_|refine kNo ?_))
            intro z hz
            rw [i64_id (by omega)] at hz
            (repeat(first|refine sb ?_|refine kNo ?_))
            intro z2 hz2
            rw [i64_id (by omega)] at hz2
            (repeat(first|refine sb ?_|refine kNo ?_))
            refine ⟨⟨m + 1, { s4 with heap := (s.next, some (.cells (bytesV (esR l (m + 1))) tB false false)) :: s4.heap }⟩, ⟨by show m + 1 ≤ l.length; omega, lkH, hlt4, c4.fresh (.turn hlt4) (by simp)⟩, by show l.length - (m + 1) < l.length - m; omega, Wk.same ⟨rfl, rfl, rfl, rfl, ?_, ?_, trivial⟩⟩
            · rw [show z = ((((l.take (m + 1)).flatMap esB).length : Nat) : Int) by rw [es_take hc, List.length_append, e2, List.length_cons, List.length_singleton]; omega]; rfl
            · rw [show z2 = ((m + 1 : Nat) : Int) by omega]; rfl
          · refine ld1_is rfl J4.hq (by rw [ho, Nat.mul_one, Nat.zero_add]; exact k1) ?_
            have e2 : esB c = [c] := if_neg (by rw [hs]; simp)
            rw [e2] at es1 eN2
            simp only [List.length_cons, List.length_nil] at es1 eN2
            (repeat(first|refine sb ?_|refine kNo ?_))
            intro q hq
            obtain rfl : q = false := by rw [hq]; rfl
            (repeat(first|refine sb ?_|refine kNo ?_))
            refine ⟨by omega, ?_⟩
            intro m3 hm3 o3 ho3
            obtain rfl : m3 = ((l.take m).flatMap esB).length := by omega
            (repeat(first|refine sb ?_|refine kNo ?_))
            refine st_abs (cs' := bytesV (esR l (m + 1))) rfl rfl hr hlt4 rfl ?_ fun s5 e5 c5 n5 => ?_
            · rw [ho3, Nat.zero_add, Nat.mul_one, eN2]
              exact setRow_bytes (esR l m) [c] _ (by rw [esR_len]; omega)
            (repeat(first|refine sb ?_|refine kNo ?_))
            intro z hz
            rw [i64_id (by omega)] at hz
            (repeat(first|refine sb ?_|refine kNo ?_))
            intro z2 hz2
            rw [i64_id (by omega)] at hz2
            (repeat(first|refine sb ?_|refine kNo ?_))
            refine ⟨⟨m + 1, s5⟩, ⟨by show m + 1 ≤ l.length; omega, e5, by show s.next < s5.next; omega, c4.fresh c5 (by simp)⟩, by show l.length - (m + 1) < l.length - m; omega, Wk.same ⟨rfl, rfl, rfl, rfl, ?_, ?_, trivial⟩⟩
            · rw [show z = ((((l.take (m + 1)).flatMap esB).length : Nat) : Int) by rw [es_take hc, List.length_append, e2, List.length_singleton]; omega]; rfl
            · rw [show z2 = ((m + 1 : Nat) : Int) by omega]; rfl
        · obtain rfl : q = false := by rw [hq]; simp; omega
          obtain rfl : i = l.length := by omega
          rw [esR_all] at hr
          (repeat(first|refine sb ?_|refine kNo ?_))
          refine toStr_is10 rfl hr (es_len l) ?_
          (repeat(first|refine sb ?_|refine kNo ?_))
          exact ⟨rfl, c4⟩
end Go.Vf.S
end
section
/- A replacer asked: what is made of a text. -/
namespace Go.Vf.S
open Go Go.Vf Go.Proofs Go.RowKit
set_option linter.unusedVariables false
set_option linter.unusedSimpArgs false
set_option maxRecDepth 100000

set_option maxHeartbeats 1600000 in
theorem repl_calls (p : Nat) (sv out : ByteArray) (w : World) (R : World → Prop)
    (hDo : Calls Tryz.prog 62 #[.pointer (some ⟨p, 0, none⟩), .func (.func fBuild) #[.pointer (some ⟨p, 0, none⟩)] #[]] w fun e w1 => e = .returned (.tuple #[]) ∧ ∃ q, w1.cell? ⟨p, 3, none⟩ = some (.iface tBsp (.pointer (some ⟨q, 0, none⟩))) ∧
      Calls Tryz.prog 166 #[.pointer (some ⟨q, 0, none⟩), .string sv] w1 fun e2 w2 => e2 = .returned (.string out) ∧ R w2) :
    Calls Tryz.prog 34 #[.pointer (some ⟨p, 0, none⟩), .string sv] w fun e w' => e = .returned (.string out) ∧ R w' := by
  have hmf : ∀ (fn : Fn) (first cap : Array Value) (w : World), (Instr.makeFunc fn first cap).run Tryz.prog w = .ok (.func fn first cap) w := fun _ _ _ _ => rfl
  go_enter Tryz.func34, Tryz.ntmps34
  go_wp2_with (first | (go_at_call 62; refine hDo.mono ?_; rintro e w' ⟨rfl, q, hq, hb⟩) | (go_at_call 166; refine hb.mono ?_; rintro e w' ⟨rfl, hR⟩))
  go_ret
  exact ⟨rfl, hR⟩
theorem fn_rel {ρ : Ren} {f : FuncId} {x x' : Value} (h : VRel ρ x x') : VRel ρ (.func (.func f) #[x] #[]) (.func (.func f) #[x'] #[]) :=
  .func _ rfl rfl rfl (fun i v v' h1 h2 => by
    match i, h1, h2 with
    | 0, h1, h2 => cases h1; cases h2; exact h) (fun i v v' h1 _ => by simp at h1)
theorem replace13_w {s : SS} {p m : Nat} {l : List UInt8} (f : Fine s) (h : RpS s p m) (hl : l.length ≤ 1000000) :
    CallW pr 34 [ptrV p, str l] s fun v s' => v = str (l.flatMap esB) ∧ Chg s s' [p] := by
  have c1 : Chg s { s with heap := (p, some (.cells [.int .u32 0, .int .i32 1, .int .u32 0, .nilIface, .slice (some ⟨m, 0, none⟩) 4 0] tRpc false false)) :: s.heap } [p] := .turn h.lp
  have hne : m ≠ p := fun e => by have := h.hm; rw [e, h.hp] at this; cases this
  have hb := once_build_w (c1.fine f) lkH h.lp (c1.blk _ _ h.lm (by simp; exact hne) h.hm) h.lm
  obtain ⟨v3, s3, ⟨rfl, s2, cs', hp2, ⟨q, tr, a, b, cs, rfl, J, c2⟩, rfl⟩, hn3, hg3, hc3⟩ := once_w (K := fun s' cs' => ∃ q tr a b cs, cs' = [.int .u32 0, .int .i32 1, .int .u32 0, .iface tBsp (ptrV q), .slice none 0 0] ∧ BsJ s' q tr 0 a b cs ∧ Chg s s' [p]) h.hp rfl rfl (hb.mono fun v s' hx => by
    obtain ⟨rfl, q, tr, a, b, cs, h1, J, _, c2⟩ := hx
    exact ⟨rfl, _, h1, rfl, rfl, q, tr, a, b, cs, rfl, J, (c1.trans c2).sub (by simp)⟩)
  have lp2 : p < s2.next := Nat.lt_of_lt_of_le h.lp c2.next
  obtain ⟨_, y1⟩ := J.ha (by decide)
  obtain ⟨_, y2⟩ := J.hb rfl
  have c3 := (Chg.turn (b := .cells ([.int .u32 0, .int .i32 1, .int .u32 0, .iface tBsp (ptrV q), .slice none 0 0].set 0 (.int .u32 1)) tRpc false false) lp2).trans (Chg.turn (s := { s2 with heap := (p, some (.cells ([.int .u32 0, .int .i32 1, .int .u32 0, .iface tBsp (ptrV q), .slice none 0 0].set 0 (.int .u32 1)) tRpc false false)) :: s2.heap }) (b := .cells (([.int .u32 0, .int .i32 1, .int .u32 0, .iface tBsp (ptrV q), .slice none 0 0].set 0 (.int .u32 1)).set 1 (.int .i32 0)) tRpc false false) lp2)
  have J3 := J.chg c3 (by simp; exact tyNe J.hq hp2 (by decide)) (by simp; exact tyNe J.ht hp2 (by decide)) (by simp; exact tyNe y1 hp2 (by decide)) (by simp; exact tyNe y2 hp2 (by decide))
  obtain ⟨v4, s4, ⟨rfl, c4⟩, hn4, hg4, hc4⟩ := bsr_w (c3.fine (c2.fine f)) J3 hl
  refine ⟨str (l.flatMap esB), s4, ⟨rfl, (c2.trans (c3.trans c4)).sub (by simp)⟩, Nat.le_trans hn3 hn4, hg4.trans hg3, fun B w0 ρ args' w H ha hf => ?_⟩
  obtain ⟨p', f', rfl, q1, q2⟩ := lrel_2 ha
  obtain rfl := str_inv q2
  obtain ⟨a', e0, _, _, e, he, _⟩ := ptr_inv q1
  obtain ⟨o0, _, _, _, _⟩ := hr_atO H h.hp he (o := 0) rfl
  obtain rfl := ptr0_at q1 he o0
  refine (repl_calls e.blk ⟨⟨l⟩⟩ ⟨⟨l.flatMap esB⟩⟩ w (fun w2 => ∃ ρ', HRel pr B w0 ρ' s4.st w2 ∧ Ext ρ ρ' s.next s4.next) ((hc3 B w0 ρ [.pointer (some ⟨e.blk, 0, none⟩), .func (.func fBuild) #[.pointer (some ⟨e.blk, 0, none⟩)] #[]] w H (.cons q1 (.cons (fn_rel q1) (.nil _))) (hf.sub (Nat.le_refl _) hn4)).mono fun e' w1 hx => ?_)).mono fun e' w' hx => ?_
  · obtain ⟨v', ρ', rfl, r1, r2, r3⟩ := hx
    have he' := r3.1 _ _ he
    cases r1 with
    | @tuple _ av hlen _ =>
    obtain ⟨avl⟩ := av
    obtain rfl : avl = [] := List.eq_nil_of_length_eq_zero hlen.symm
    obtain ⟨_, _, x3, k3, r3'⟩ := hr_atO r2 lkH he' (o := 3) rfl
    cases r3' with
    | iface t hv =>
    obtain ⟨a2, e2, _, _, e3, he3, _⟩ := ptr_inv hv
    obtain ⟨o3, _, _, _, _⟩ := hr_atO r2 J3.hq he3 (J3.row)
    obtain rfl := ptr0_at hv he3 o3
    refine ⟨rfl, e3.blk, k3, (hc4 B w0 ρ' [.pointer (some ⟨e3.blk, 0, none⟩), .string ⟨⟨l⟩⟩] w1 r2 (.cons hv (.cons (.string _) (.nil _))) (hf.ext r3 hn3)).mono fun e2 w2 hy => ?_⟩
    obtain ⟨v2, ρ2, rfl, t1, t2, t3⟩ := hy
    obtain rfl := str_inv t1
    exact ⟨rfl, ρ2, t2, r3.trans' t3 hn3 hn4⟩
  · obtain ⟨rfl, ρ', r2, r3⟩ := hx
    exact ⟨_, ρ', rfl, .string _, r2, r3⟩
end Go.Vf.S
end
section
/- Tables as texts, pure: values; entries; lines; there and back. -/
namespace Go.Vf.S
open Go Go.Vf
set_option linter.unusedVariables false
set_option linter.unusedSimpArgs false
set_option maxRecDepth 10000

/-! ### Values -/
def txB (c : UInt8) : Bool := c == 9 || (decide (32 ≤ c.toNat) && decide (c.toNat ≤ 126))
def vsF : Nat → List UInt8 → Option (List (List UInt8))
  | 0, _ => none
  | n + 1, l => match wdF 44 l with
    | none => none
    | some (w, none) => some [w]
    | some (w, some r) => (vsF n r).map (w :: ·)
def vluF (l : List UInt8) : List (List UInt8) × Nat :=
  if l.all txB = true then (match vsF (l.length + 1) l with
    | none => ([], 5)
    | some ws => if 16 < ws.length then ([], 7) else (ws, 0)) else ([], 5)
/-- Quoted, blanks about each, commas between. -/
def jnV (p q : List UInt8) : List (List UInt8) → List UInt8
  | [] => []
  | [w] => p ++ qtF w ++ q
  | w :: r => p ++ qtF w ++ q ++ 44 :: jnV p q r
theorem jnV_two (p q w v : List UInt8) (r : List (List UInt8)) : jnV p q (w :: v :: r) = p ++ qtF w ++ q ++ 44 :: jnV p q (v :: r) := rfl
section
variable {p q : List UInt8} (hp : p.all wsB = true) (hq : q.all wsB = true)
include hp hq
theorem vs_jn : ∀ (ws : List (List UInt8)) (n : Nat), ws ≠ [] → ws.length ≤ n → vsF n (jnV p q ws) = some ws
  | [], _, h, _ => absurd rfl h
  | [w], 0, _, h => by simp at h
  | [w], n + 1, _, _ => by
    have := wd_qt (e := 44) (.inr rfl) hp hq (s := w) none
    rw [List.append_nil] at this
    show (match wdF 44 (p ++ qtF w ++ q) with
      | none => none
      | some (w, none) => some [w]
      | some (w, some r) => (vsF n r).map (w :: ·)) = _
    rw [this]
  | w :: v :: r, 0, _, h => by simp at h
  | w :: v :: r, n + 1, _, h => by
    have h1 := wd_qt (e := 44) (.inr rfl) hp hq (s := w) (some (jnV p q (v :: r)))
    have h2 := vs_jn (v :: r) n (by simp) (by simp only [List.length_cons] at h ⊢; omega)
    rw [jnV_two]
    show (match wdF 44 (p ++ qtF w ++ q ++ 44 :: jnV p q (v :: r)) with
      | none => none
      | some (w, none) => some [w]
      | some (w, some r) => (vsF n r).map (w :: ·)) = _
    have h1 : wdF 44 (p ++ qtF w ++ q ++ 44 :: jnV p q (v :: r)) = some (w, some (jnV p q (v :: r))) := h1
    rw [h1]
    show (vsF n (jnV p q (v :: r))).map (w :: ·) = _
    rw [h2]
    rfl
end
theorem es_tx {s : List UInt8} (h : s.all txB = true) : (s.flatMap esB).all txB = true := by
  refine List.all_eq_true.2 fun c hc => ?_
  obtain ⟨x, hx, hcx⟩ := List.mem_flatMap.1 hc
  have := List.all_eq_true.1 h x hx
  unfold esB at hcx
  split at hcx
  · rcases List.mem_cons.1 hcx with rfl | hcx
    · rfl
    · rw [List.mem_singleton.1 hcx]; exact this
  · rw [List.mem_singleton.1 hcx]; exact this
theorem qt_tx {s : List UInt8} (h : s.all txB = true) : (qtF s).all txB = true := by
  unfold qtF
  split
  · exact h
  · rw [List.all_append, List.all_cons, es_tx h]
    rfl
theorem ws_tx {p : List UInt8} (h : p.all wsB = true) : p.all txB = true := by
  refine List.all_eq_true.2 fun c hc => ?_
  have := List.all_eq_true.1 h c hc
  have hc : c = 32 ∨ c = 9 := by simpa [wsB] using this
  rcases hc with rfl | rfl <;> rfl
theorem jn_tx {p q : List UInt8} (hp : p.all wsB = true) (hq : q.all wsB = true) : ∀ ws : List (List UInt8), (∀ w ∈ ws, w.all txB = true) → (jnV p q ws).all txB = true
  | [], _ => rfl
  | [w], h => by
    show (p ++ qtF w ++ q).all txB = true
    rw [List.all_append, List.all_append, ws_tx hp, ws_tx hq, qt_tx (h w (by simp))]
    rfl
  | w :: v :: r, h => by
    have ih := jn_tx hp hq (v :: r) fun x hx => h x (by simp [List.mem_cons.1 hx])
    rw [jnV_two, List.all_append, List.all_append, List.all_append, List.all_cons, ws_tx hp, ws_tx hq, qt_tx (h w (by simp)), ih]
    rfl
theorem qt_pos (s : List UInt8) : 1 ≤ (qtF s).length := by
  unfold qtF
  split
  · rename_i h
    have := (pn_bare h).1
    obtain ⟨c, d, h1, _⟩ := this
    cases s with
    | nil => cases h1
    | cons => simp
  · simp
theorem jn_len (p q : List UInt8) : ∀ ws : List (List UInt8), ws.length ≤ (jnV p q ws).length
  | [] => Nat.le_refl _
  | [w] => by
    show 1 ≤ (p ++ qtF w ++ q).length
    have := qt_pos w
    rw [List.length_append, List.length_append]; omega
  | w :: v :: r => by
    have ih := jn_len p q (v :: r)
    rw [jnV_two, List.length_append, List.length_cons, List.length_cons]
    simp only [List.length_cons] at ih ⊢
    omega
theorem vlu_jn {p q : List UInt8} (hp : p.all wsB = true) (hq : q.all wsB = true) {ws : List (List UInt8)} (h0 : ws ≠ []) (ht : ∀ w ∈ ws, w.all txB = true) : vluF (jnV p q ws) = if 16 < ws.length then ([], 7) else (ws, 0) := by
  unfold vluF
  rw [if_pos (jn_tx hp hq ws ht), vs_jn hp hq ws _ h0 (Nat.le_succ_of_le (jn_len p q ws))]
/-! ### Entries -/
structure Ent where
  n : Nat
  k : List UInt8
  vs : List (List UInt8)
deriving DecidableEq
structure Sai where
  n : Nat
  t : List UInt8
  al : Bool
def enF (values : Bool) (x : Sai) : Ent × Nat :=
  if x.al = true ∨ x.t.all txB = false then (⟨0, [], []⟩, 5)
  else if values = false then (if (34 : UInt8) ∈ x.t then (⟨0, [], []⟩, 5) else (⟨x.n, trB x.t, []⟩, 0))
  else match wdF 58 x.t with
    | some (k, some r) => if k = [] then (⟨0, [], []⟩, 5) else if (vluF r).2 = 0 then (⟨x.n, k, (vluF r).1⟩, 0) else (⟨0, [], []⟩, (vluF r).2)
    | _ => (⟨0, [], []⟩, 5)
def etL (k : List UInt8) (vs : List (List UInt8)) : List UInt8 := qtF k ++ 58 :: jnV [32] [] vs
theorem en_et {n : Nat} {k : List UInt8} {vs : List (List UInt8)} (hk : k.all txB = true) (hk0 : k ≠ []) (hv : ∀ w ∈ vs, w.all txB = true) (hv0 : vs ≠ []) (hv16 : vs.length ≤ 16) : enF true ⟨n, etL k vs, false⟩ = (⟨n, k, vs⟩, 0) := by
  have ht : (etL k vs).all txB = true := by
    unfold etL
    rw [List.all_append, List.all_cons, qt_tx hk, jn_tx (by decide) (by decide) vs hv]
    rfl
  have hw : wdF 58 (etL k vs) = some (k, some (jnV [32] [] vs)) := by
    have := wd_qt (e := 58) (.inl rfl) (p := []) (q := []) rfl rfl (s := k) (some (jnV [32] [] vs))
    rw [List.nil_append, List.append_nil] at this
    exact this
  have hvl : vluF (jnV [32] [] vs) = (vs, 0) := by rw [vlu_jn (by decide) (by decide) hv0 hv, if_neg (by omega)]
  unfold enF
  rw [if_neg (by simp [ht]), if_neg (by simp), hw]
  show (if k = [] then _ else if (vluF (jnV [32] [] vs)).2 = 0 then _ else _) = _
  rw [hvl, if_neg hk0, if_pos rfl]

/-! ### Lines -/
def lnE (l : List UInt8) : List UInt8 := if l.getLast? = some 13 then l.dropLast else l
def flS : Option (Nat × List UInt8) → List Sai
  | none => []
  | some (n, t) => [⟨n, t, false⟩]
def ctB (l : List UInt8) : Bool := match l.head? with
  | some c => wsB c
  | none => false
/-- What goes on, what goes on nothing. -/
def onS (cur : Option (Nat × List UInt8)) (b : List UInt8) : Option (Nat × List UInt8) := cur.map fun x => (x.1, x.2 ++ 32 :: b)
def alS (n : Nat) (cur : Option (Nat × List UInt8)) : List Sai := match cur with
  | none => [⟨n, [], true⟩]
  | some _ => []
def saG : Nat → Option (Nat × List UInt8) → List (List UInt8) → List Sai
  | _, cur, [] => flS cur
  | n, cur, l :: r =>
    if trB (lnE l) = [] ∨ (trB (lnE l)).head? = some 35 then saG (n + 1) cur r
    else if ctB (lnE l) = true then alS n cur ++ saG (n + 1) (onS cur (trB (lnE l))) r
    else flS cur ++ saG (n + 1) (some (n, lnE l)) r
def saF (text : List UInt8) : List Sai := saG 1 none (splitF 10 text)
def lwF (l : List UInt8) : List UInt8 := l.map lowB
def hasK (es : List Ent) (k : List UInt8) : Bool := es.any fun z => decide (lwF z.k = lwF k)
def tbG (values : Bool) : List Sai → List Ent → List (Nat × Nat) → List Ent × List (Nat × Nat)
  | [], es, fs => (es, fs)
  | x :: r, es, fs =>
    if (enF values x).2 ≠ 0 then tbG values r es (fs ++ [(x.n, (enF values x).2)])
    else if 64 ≤ es.length then tbG values r es (fs ++ [(x.n, 7)])
    else if hasK es (enF values x).1.k = true then tbG values r es (fs ++ [(x.n, 9)])
    else tbG values r (es ++ [(enF values x).1]) fs
def tabF (text : List UInt8) (values : Bool) : List Ent × List (Nat × Nat) := if 8192 < text.length then ([], [(0, 3)]) else tbG values (saF text) [] []

/-! ### There and back -/
inductive Itm where
  | ent (k : List UInt8) (vs : List (List UInt8))
  | pass (l : List UInt8)
  | bad (l : List UInt8)
def Itm.l : Itm → List UInt8
  | .ent k vs => etL k vs
  | .pass l => l
  | .bad l => l
structure EntOk (k : List UInt8) (vs : List (List UInt8)) : Prop where
  ak : k.all txB = true
  k0 : k ≠ []
  av : ∀ w ∈ vs, w.all txB = true
  v0 : vs ≠ []
  v16 : vs.length ≤ 16
def Itm.ok : Itm → Prop
  | .ent k vs => EntOk k vs
  | .pass l => (10 : UInt8) ∉ l ∧ (trB (lnE l) = [] ∨ (trB (lnE l)).head? = some 35)
  | .bad l => (10 : UInt8) ∉ l ∧ lnE l = l ∧ bareB l ∧ l.head? ≠ some 35 ∧ ∀ n, (enF true ⟨n, l, false⟩).2 = 5
theorem qt_bare (s : List UInt8) : bareB (qtF s) ∧ (qtF s).head? ≠ some 35 := by
  by_cases h : pnF s = true
  · have e : qtF s = s := if_pos h
    rw [e]
    exact ⟨(pn_bare h).1, (pn_bare h).2.2⟩
  · have e : qtF s = 34 :: s.flatMap esB ++ [34] := if_neg h
    rw [e]
    exact ⟨⟨34, 34, rfl, rfl, List.getLast?_concat .., rfl⟩, by simp⟩
theorem jn_end {p : List UInt8} : ∀ {vs : List (List UInt8)}, vs ≠ [] → ∃ X w, jnV p [] vs = X ++ qtF w
  | [], h => absurd rfl h
  | [w], _ => ⟨p, w, by show p ++ qtF w ++ [] = _; rw [List.append_nil]⟩
  | w :: v :: r, _ => by
    obtain ⟨X, u, h⟩ := jn_end (p := p) (vs := v :: r) (by simp)
    exact ⟨p ++ qtF w ++ [] ++ 44 :: X, u, by rw [jnV_two, h]; simp⟩
theorem bare_mid {a b X : List UInt8} (ha : bareB a) (hb : bareB b) : bareB (a ++ X ++ b) := by
  obtain ⟨c, _, h1, h2, _, _⟩ := ha
  obtain ⟨_, d, _, _, h3, h4⟩ := hb
  refine ⟨c, d, ?_, h2, ?_, h4⟩
  · cases a with
    | nil => cases h1
    | cons x r => exact h1
  · rw [List.getLast?_append, h3]; rfl
theorem et_bare {k : List UInt8} {vs : List (List UInt8)} (h : EntOk k vs) : bareB (etL k vs) ∧ (etL k vs).head? ≠ some 35 ∧ lnE (etL k vs) = etL k vs ∧ (10 : UInt8) ∉ etL k vs := by
  obtain ⟨X, w, hX⟩ := jn_end (p := [32]) h.v0
  have e : etL k vs = qtF k ++ (58 :: X) ++ qtF w := by unfold etL; rw [hX]; simp
  have ht : (etL k vs).all txB = true := by
    unfold etL
    rw [List.all_append, List.all_cons, qt_tx h.ak, jn_tx (by decide) (by decide) vs h.av]
    rfl
  have hb : bareB (etL k vs) := by rw [e]; exact bare_mid (qt_bare k).1 (qt_bare w).1
  refine ⟨hb, ?_, ?_, fun hm => ?_⟩
  · have := (qt_bare k).2
    obtain ⟨c, _, h1, _⟩ := (qt_bare k).1
    unfold etL
    cases hq : qtF k with
    | nil => rw [hq] at h1; cases h1
    | cons x r => rw [hq] at this; exact this
  · unfold lnE
    rw [if_neg]
    intro hl
    have := List.all_eq_true.1 ht 13 (List.mem_of_getLast? hl)
    cases this
  · have := List.all_eq_true.1 ht 10 hm
    cases this
def txI (is : List Itm) : List UInt8 := is.flatMap fun i => i.l ++ [10]
def saL : Nat → List Itm → List Sai
  | _, [] => []
  | n, .ent k vs :: r => ⟨n, etL k vs, false⟩ :: saL (n + 1) r
  | n, .pass _ :: r => saL (n + 1) r
  | n, .bad l :: r => ⟨n, l, false⟩ :: saL (n + 1) r
theorem it_no10 {i : Itm} (h : i.ok) : (10 : UInt8) ∉ i.l := by
  cases i with
  | ent k vs => exact (et_bare h).2.2.2
  | pass l => exact h.1
  | bad l => exact h.1
theorem sp_items : ∀ is : List Itm, (∀ i ∈ is, i.ok) → splitF 10 (txI is) = is.map Itm.l ++ [[]]
  | [], _ => rfl
  | i :: r, h => by
    have ih := sp_items r fun x hx => h x (by simp [hx])
    have e : txI (i :: r) = i.l ++ 10 :: txI r := by unfold txI; rw [List.flatMap_cons]; simp
    rw [e, split_first (it_no10 (h i (by simp))), ih]
    rfl
theorem sa_items : ∀ (is : List Itm) (n : Nat) (cur : Option (Nat × List UInt8)), (∀ i ∈ is, i.ok) → saG n cur (is.map Itm.l ++ [[]]) = flS cur ++ saL n is
  | [], n, cur, _ => by
    show saG n cur [[]] = _
    rw [saG, if_pos (.inl rfl), saG]
    simp [saL]
  | i :: r, n, cur, h => by
    have hi := h i (by simp)
    have ih := fun cur => sa_items r (n + 1) cur fun x hx => h x (by simp [hx])
    have begins : ∀ l : List UInt8, lnE l = l → bareB l → l.head? ≠ some 35 → saG n cur (l :: (r.map Itm.l ++ [[]])) = flS cur ++ ⟨n, l, false⟩ :: saL (n + 1) r := by
      intro l h1 h2 h3
      have hb := bare_trB h2
      obtain ⟨c, d, g1, g2, _⟩ := h2
      rw [saG, h1, hb, if_neg (fun q => q.elim (fun e => by rw [e] at g1; cases g1) h3), if_neg (by unfold ctB; rw [g1]; simp [g2]), ih]
      rfl
    cases i with
    | pass l =>
      show saG n cur (l :: (r.map Itm.l ++ [[]])) = _
      rw [saG, if_pos hi.2, ih]
      rfl
    | bad l => exact begins l hi.2.1 hi.2.2.1 hi.2.2.2.1
    | ent k vs =>
      obtain ⟨b1, b2, b3, _⟩ := et_bare hi
      exact begins _ b3 b1 b2
theorem saF_items {is : List Itm} (h : ∀ i ∈ is, i.ok) : saF (txI is) = saL 1 is := by
  unfold saF
  rw [sp_items is h, sa_items is 1 none h]
  rfl
def entI : Nat → List Itm → List Ent
  | _, [] => []
  | n, .ent k vs :: r => ⟨n, k, vs⟩ :: entI (n + 1) r
  | n, .pass _ :: r => entI (n + 1) r
  | n, .bad _ :: r => entI (n + 1) r
def fltI : Nat → List Itm → List (Nat × Nat)
  | _, [] => []
  | n, .ent _ _ :: r => fltI (n + 1) r
  | n, .pass _ :: r => fltI (n + 1) r
  | n, .bad _ :: r => (n, 5) :: fltI (n + 1) r
/-- Keys unlike, but for case. -/
def unlike (es : List Ent) : Prop := (es.map fun z => lwF z.k).Nodup
theorem tb_items : ∀ (is : List Itm) (n : Nat) (es : List Ent) (fs : List (Nat × Nat)), (∀ i ∈ is, i.ok) → unlike (es ++ entI n is) → (es ++ entI n is).length ≤ 64 → tbG true (saL n is) es fs = (es ++ entI n is, fs ++ fltI n is)
  | [], n, es, fs, _, _, _ => by
    show (es, fs) = _
    simp [entI, fltI]
  | .pass l :: r, n, es, fs, h, hu, hl => tb_items r (n + 1) es fs (fun x hx => h x (by simp [hx])) hu hl
  | .bad l :: r, n, es, fs, h, hu, hl => by
    have hi := h (.bad l) (by simp)
    have ih := tb_items r (n + 1) es (fs ++ [(n, 5)]) (fun x hx => h x (by simp [hx])) hu hl
    show tbG true (⟨n, l, false⟩ :: saL (n + 1) r) es fs = _
    rw [tbG, hi.2.2.2.2 n, if_pos (by decide), ih]
    show (es ++ entI (n + 1) r, fs ++ [(n, 5)] ++ fltI (n + 1) r) = (es ++ entI (n + 1) r, fs ++ (n, 5) :: fltI (n + 1) r)
    rw [List.append_assoc]
    rfl
  | .ent k vs :: r, n, es, fs, h, hu, hl => by
    have hi : EntOk k vs := h (.ent k vs) (by simp)
    have e : es ++ entI n (.ent k vs :: r) = es ++ [⟨n, k, vs⟩] ++ entI (n + 1) r := by rw [List.append_assoc]; rfl
    rw [e] at hu hl ⊢
    have ih := tb_items r (n + 1) (es ++ [⟨n, k, vs⟩]) fs (fun x hx => h x (by simp [hx])) hu hl
    have hen := en_et (n := n) hi.ak hi.k0 hi.av hi.v0 hi.v16
    have hno : hasK es k = false := by
      unfold hasK
      rw [List.any_eq_false]
      intro z hz
      rw [decide_eq_true_eq]
      intro q
      have hu2 := hu
      unfold unlike at hu2
      rw [List.map_append, List.map_append] at hu2
      have := (List.nodup_append.1 (List.nodup_append.1 hu2).1).2.2 (lwF z.k) (List.mem_map.2 ⟨z, hz, rfl⟩) (lwF k) (by simp)
      exact this q
    show tbG true (⟨n, etL k vs, false⟩ :: saL (n + 1) r) es fs = _
    rw [tbG, hen, if_neg (by simp), if_neg (by
      simp only [List.length_append, List.length_cons, List.length_nil] at hl
      omega), if_neg (by rw [hno]; simp), ih]
    rfl
/-- There and back. -/
theorem tab_items {is : List Itm} (h : ∀ i ∈ is, i.ok) (hu : unlike (entI 1 is)) (hn : (entI 1 is).length ≤ 64) (hl : (txI is).length ≤ 8192) : tabF (txI is) true = (entI 1 is, fltI 1 is) := by
  unfold tabF
  rw [if_neg (by omega), saF_items h]
  exact tb_items is 1 [] [] h hu hn
end Go.Vf.S
end
section
/- Parts of a text, by the library's calls. -/
namespace Go.Vf.S
open Go Go.Vf
attribute [local irreducible] wSeq wRow wp wG
set_option linter.unusedVariables false
set_option linter.unusedSimpArgs false
set_option maxRecDepth 10000

theorem ssuffix_w {s : SS} {a b : List UInt8} (ha : a.length ≤ 1000000) : CallW pr n_internal_stringslite_HasSuffix [str a, str b] s fun v s' => v = .bool (decide (b <:+ a)) ∧ s' = s := by
  refine CallW.run good ok_internal_stringslite_HasSuffix (by simp) rfl ?_
  (try refine pSeq ?_); (repeat(first|refine sb ?_|refine gOn rfl ?_|refine gOff rfl rfl ?_|refine gTup rfl ?_))
  intro n hn
  (repeat(first|refine sb ?_|refine gOn rfl ?_|refine gOff rfl rfl ?_|refine gTup rfl ?_))
  intro m hm
  (repeat(first|refine sb ?_|refine gOn rfl ?_|refine gOff rfl rfl ?_|refine gTup rfl ?_))
  intro q hq
  by_cases h : b.length ≤ a.length
  · obtain rfl : q = true := by rw [hq]; simp <;> omega
    (repeat(first|refine sb ?_|refine gOn rfl ?_|refine gOff rfl rfl ?_|refine gTup rfl ?_))
    intro n1 hn1
    (repeat(first|refine sb ?_|refine gOn rfl ?_|refine gOff rfl rfl ?_|refine gTup rfl ?_))
    intro m1 hm1
    (repeat(first|refine sb ?_|refine gOn rfl ?_|refine gOff rfl rfl ?_|refine gTup rfl ?_))
    intro z hz
    rw [i64_id (by omega)] at hz
    (repeat(first|refine sb ?_|refine gOn rfl ?_|refine gOff rfl rfl ?_|refine gTup rfl ?_))
    refine ⟨by omega, ?_⟩
    intro k hk r hr
    obtain rfl : k = a.length - b.length := by omega
    (repeat(first|refine sb ?_|refine gOn rfl ?_|refine gOff rfl rfl ?_|refine gTup rfl ?_))
    intro q hq
    (repeat(first|refine sb ?_|refine gOn rfl ?_|refine gOff rfl rfl ?_|refine gTup rfl ?_))
    refine ⟨bool_eq ?_, rfl⟩
    rw [hq, hr, List.take_of_length_le (by simp), decide_eq_decide, List.suffix_iff_eq_drop]
    exact ⟨fun e => e.symm, fun e => e.symm⟩
  · obtain rfl : q = false := by rw [hq]; simp <;> omega
    (repeat(first|refine sb ?_|refine gOn rfl ?_|refine gOff rfl rfl ?_|refine gTup rfl ?_))
    refine ⟨bool_eq ?_, rfl⟩
    symm
    rw [decide_eq_false_iff_not]
    exact fun q => h q.length_le

theorem sidx_w {s : SS} {l : List UInt8} {c : UInt8} : CallW pr n_internal_stringslite_Index [str l, str [c]] s fun v s' => v = .int .i64 (Lib.indexByte l c) ∧ s' = s := by
  refine CallW.run good ok_internal_stringslite_Index (by simp) rfl ?_
  (try refine pSeq ?_); (repeat(first|refine sb ?_|refine gOn rfl ?_|refine gOff rfl rfl ?_|refine gTup rfl ?_))
  intro n hn
  (repeat(first|refine sb ?_|refine gOn rfl ?_|refine gOff rfl rfl ?_|refine gTup rfl ?_))
  intro q hq
  obtain rfl : q = false := by rw [hq, hn]; rfl
  (repeat(first|refine sb ?_|refine gOn rfl ?_|refine gOff rfl rfl ?_|refine gTup rfl ?_))
  intro q hq
  by_cases he : [c] = l
  · subst he
    obtain rfl : q = true := by rw [hq]; simp
    (repeat(first|refine sb ?_|refine gOn rfl ?_|refine gOff rfl rfl ?_|refine gTup rfl ?_))
    exact ⟨by show Value.int .i64 0 = _; simp [Lib.indexByte], rfl⟩
  · obtain rfl : q = false := by rw [hq]; simp [he]
    (repeat(first|refine sb ?_|refine gOn rfl ?_|refine gOff rfl rfl ?_|refine gTup rfl ?_))
    intro q hq
    obtain rfl : q = true := by rw [hq, hn]; rfl
    (repeat(first|refine sb ?_|refine gOn rfl ?_|refine gOff rfl rfl ?_|refine gTup rfl ?_))
    refine ⟨by simp, ?_⟩
    intro m hm
    obtain rfl : m = 0 := by omega
    refine ⟨c, rfl, ?_⟩
    (repeat(first|refine sb ?_|refine gOn rfl ?_|refine gOff rfl rfl ?_|refine gTup rfl ?_))
    refine indexByte_w.mono fun v s q => ?_
    obtain ⟨rfl, rfl⟩ := q
    (repeat(first|refine sb ?_|refine gOn rfl ?_|refine gOff rfl rfl ?_|refine gTup rfl ?_))
    exact ⟨rfl, rfl⟩

def cutF (c : UInt8) (l : List UInt8) : List UInt8 × List UInt8 × Bool := if c ∈ l then (l.takeWhile (· != c), l.drop ((l.takeWhile (· != c)).length + 1), true) else (l, [], false)
theorem while_first {c : UInt8} {f r : List UInt8} (h : c ∉ f) : (f ++ c :: r).takeWhile (· != c) = f := by
  induction f with
  | nil => simp
  | cons x f ih =>
    have : x ≠ c := fun e => h (by simp [e])
    rw [List.cons_append, List.takeWhile_cons, if_pos (by simpa using this), ih fun q => h (by simp [q])]

theorem cut1_w {s : SS} {l : List UInt8} {c : UInt8} (hl : l.length ≤ 1000000) : CallW pr n_strings_Cut [str l, str [c]] s fun v s' => v = .tuple ⟨[str (cutF c l).1, str (cutF c l).2.1, .bool (cutF c l).2.2]⟩ ∧ s' = s := by
  refine CallW.run good ok_strings_Cut (by simp) rfl ?_
  (try refine pSeq ?_); (repeat(first|refine sb ?_|refine kNo ?_))
  refine (show CallW pr n_internal_stringslite_Cut [str l, str [c]] s fun v s' => v = .tuple ⟨[str (cutF c l).1, str (cutF c l).2.1, .bool (cutF c l).2.2]⟩ ∧ s' = s from ?_).mono fun v s q => ?_
  · refine CallW.run good ok_internal_stringslite_Cut (by simp) rfl ?_
    (try refine pSeq ?_); (repeat(first|refine sb ?_|refine kNo ?_))
    refine sidx_w.mono fun v s q => ?_
    obtain ⟨rfl, rfl⟩ := q
    by_cases hc : c ∈ l
    · obtain ⟨f, r, rfl, hf⟩ := List.eq_append_cons_of_mem hc
      have e : cutF c (f ++ c :: r) = (f, r, true) := by
        unfold cutF
        rw [if_pos hc, while_first hf, show f ++ c :: r = (f ++ [c]) ++ r by simp, show f.length + 1 = (f ++ [c]).length by simp, List.drop_left]
      have hn : (f ++ c :: r).length = f.length + 1 + r.length := by simp; omega
      rw [index_first hf, e]
      (repeat(first|refine sb ?_|refine kNo ?_))
      intro q hq; obtain rfl : q = true := (by rw [hq]; simp <;> omega); (repeat(first|refine sb ?_|refine kNo ?_))
      refine ⟨by omega, ?_⟩
      intro m hm g hg
      obtain rfl : m = f.length := by omega
      have eg : g = f := by rw [hg]; simp
      subst eg
      (repeat(first|refine sb ?_|refine kNo ?_))
      intro n hn1
      (repeat(first|refine sb ?_|refine kNo ?_))
      intro z hz
      rw [i64_id (by simp at hn1; omega)] at hz
      (repeat(first|refine sb ?_|refine kNo ?_))
      refine ⟨by simp at hn1; omega, ?_⟩
      intro m hm t ht
      obtain rfl : m = g.length + 1 := by simp at hn1; omega
      have et : t = r := by rw [ht, List.take_of_length_le (by simp <;> omega), show g ++ c :: r = (g ++ [c]) ++ r by simp, show g.length + 1 = (g ++ [c]).length by simp, List.drop_left]
      clear ht hg
      subst et
      (repeat(first|refine sb ?_|refine kNo ?_))
      exact ⟨rfl, rfl⟩
    · have e : cutF c l = (l, [], false) := by unfold cutF; rw [if_neg hc]
      rw [idx_no hc, e]
      (repeat(first|refine sb ?_|refine kNo ?_))
      intro q hq; obtain rfl : q = false := (by rw [hq]; simp <;> omega); (repeat(first|refine sb ?_|refine kNo ?_))
      exact ⟨rfl, rfl⟩
  obtain ⟨rfl, rfl⟩ := q
  (repeat(first|refine sb ?_|refine kNo ?_))
  exact ⟨rfl, rfl⟩

theorem idx_in {c : UInt8} {l : List UInt8} : (0 ≤ Lib.indexByte l c) ↔ c ∈ l := by
  constructor
  · intro h
    refine Classical.byContradiction fun hn => ?_
    rw [idx_no hn] at h
    omega
  · intro h
    obtain ⟨f, r, rfl, hf⟩ := List.eq_append_cons_of_mem h
    rw [index_first hf]
    omega
theorem contains1_w {s : SS} {l : List UInt8} {c : UInt8} : CallW pr n_strings_Contains [str l, str [c]] s fun v s' => v = .bool (decide (c ∈ l)) ∧ s' = s := by
  refine CallW.run good ok_strings_Contains (by simp) rfl ?_
  (try refine pSeq ?_); (repeat refine sb ?_)
  refine (show CallW pr n_strings_Index [str l, str [c]] s fun v s' => v = .int .i64 (Lib.indexByte l c) ∧ s' = s from ?_).mono fun v s q => ?_
  · refine CallW.run good ok_strings_Index (by simp) rfl ?_
    (try refine pSeq ?_); (repeat refine sb ?_)
    refine sidx_w.mono fun v s q => ?_
    obtain ⟨rfl, rfl⟩ := q
    (repeat refine sb ?_)
    exact ⟨rfl, rfl⟩
  obtain ⟨rfl, rfl⟩ := q
  (repeat refine sb ?_)
  intro q hq
  (repeat refine sb ?_)
  refine ⟨bool_eq ?_, rfl⟩
  rw [hq, decide_eq_decide]
  exact idx_in
theorem trimSuffix_w {s : SS} {l b : List UInt8} (hl : l.length ≤ 1000000) : CallW pr n_strings_TrimSuffix [str l, str b] s fun v s' => v = str (if b <:+ l then l.take (l.length - b.length) else l) ∧ s' = s := by
  refine CallW.run good ok_strings_TrimSuffix (by simp) rfl ?_
  (try refine pSeq ?_); (repeat refine sb ?_)
  refine (show CallW pr n_internal_stringslite_TrimSuffix [str l, str b] s fun v s' => v = str (if b <:+ l then l.take (l.length - b.length) else l) ∧ s' = s from ?_).mono fun v s q => ?_
  · refine CallW.run good ok_internal_stringslite_TrimSuffix (by simp) rfl ?_
    (try refine pSeq ?_); (repeat refine sb ?_)
    refine (ssuffix_w hl).mono fun v s q => ?_
    obtain ⟨rfl, rfl⟩ := q
    by_cases h : b <:+ l
    · have := h.length_le
      rw [decide_eq_true h, if_pos h]
      (repeat refine sb ?_)
      intro n hn
      (repeat refine sb ?_)
      intro n2 hn2
      (repeat refine sb ?_)
      intro z hz
      rw [i64_id (by omega)] at hz
      (repeat refine sb ?_)
      refine ⟨by omega, ?_⟩
      intro m hm r hr
      obtain rfl : m = l.length - b.length := by omega
      rw [List.drop_zero, Nat.sub_zero] at hr
      subst hr
      (repeat refine sb ?_)
      exact ⟨rfl, rfl⟩
    · rw [decide_eq_false h, if_neg h]
      (repeat refine sb ?_)
      exact ⟨rfl, rfl⟩
  obtain ⟨rfl, rfl⟩ := q
  (repeat refine sb ?_)
  exact ⟨rfl, rfl⟩

end Go.Vf.S
end
section
/- Tables as texts, pure: what the program's loops hold: parts, values, rows, tables. -/
namespace Go.Vf.S
open Go Go.Vf
set_option linter.unusedVariables false
set_option linter.unusedSimpArgs false
set_option maxRecDepth 10000

/-! ### A part -/
theorem trR_nil {l : List UInt8} : trR l = [] ↔ l.all wsB = true := by
  have hr : ∀ l : List UInt8, l.dropWhile wsB = [] ↔ l.all wsB = true := by
    intro l
    induction l with
    | nil => simp
    | cons c l ih =>
      rw [List.dropWhile_cons, List.all_cons]
      by_cases h : wsB c = true
      · rw [if_pos h, ih, h]; simp
      · rw [if_neg h]; simp [h]
  unfold trR
  rw [List.reverse_eq_nil_iff, hr, List.all_reverse]
theorem trL_dec (l : List UInt8) : ∃ p, p.all wsB = true ∧ l = p ++ trL l ∧ (trL l = [] ∨ ∃ c r, trL l = c :: r ∧ wsB c = false) := by
  induction l with
  | nil => exact ⟨[], rfl, rfl, .inl rfl⟩
  | cons c l ih =>
    by_cases h : wsB c = true
    · obtain ⟨p, h1, h2, h3⟩ := ih
      have e : trL (c :: l) = trL l := by unfold trL; rw [List.dropWhile_cons, if_pos h]
      exact ⟨c :: p, by rw [List.all_cons, h, h1]; rfl, by rw [e, List.cons_append, ← h2], by rw [e]; exact h3⟩
    · have h : wsB c = false := by simpa using h
      exact ⟨[], rfl, (trL_not h).symm, .inr ⟨c, l, trL_not h, h⟩⟩
theorem trR_dec (l : List UInt8) : ∃ p, p.all wsB = true ∧ l = trR l ++ p := by
  obtain ⟨p, h1, h2, _⟩ := trL_dec l.reverse
  refine ⟨p.reverse, by rw [List.all_reverse]; exact h1, ?_⟩
  have : trR l = (trL l.reverse).reverse := rfl
  rw [this, ← List.reverse_append, ← h2, List.reverse_reverse]
theorem mem_trR {c : UInt8} {l : List UInt8} (h : wsB c = false) : c ∈ trR l ↔ c ∈ l := by
  obtain ⟨p, h1, h2⟩ := trR_dec l
  constructor
  · intro q; rw [h2]; exact List.mem_append.2 (.inl q)
  · intro q
    rw [h2] at q
    rcases List.mem_append.1 q with q | q
    · exact q
    · rw [List.all_eq_true.1 h1 c q] at h; cases h
theorem cut_no {e : UInt8} {l : List UInt8} (h : e ∉ l) : cutF e l = (l, [], false) := by unfold cutF; rw [if_neg h]
theorem cut_yea {e : UInt8} {l r : List UInt8} (h : e ∉ l) : cutF e (l ++ e :: r) = (l, r, true) := by
  unfold cutF
  rw [if_pos (by simp), while_first h]
  congr 2
  rw [show l ++ e :: r = l ++ [e] ++ r by simp, show l.length + 1 = (l ++ [e]).length by simp, List.drop_left]
theorem cut_two (e : UInt8) (l : List UInt8) : (e ∉ l ∧ cutF e l = (l, [], false)) ∨ ∃ a r, e ∉ a ∧ l = a ++ e :: r ∧ cutF e l = (a, r, true) := by
  by_cases h : e ∈ l
  · obtain ⟨a, r, rfl, ha⟩ := List.append_of_mem h |> fun ⟨a, r, q⟩ => (List.eq_append_cons_of_mem h)
    exact .inr ⟨a, r, ha, rfl, cut_yea ha⟩
  · exact .inl ⟨h, cut_no h⟩
/-- A part, as it is read: its text, what is left, whether the row ended, whether something else stood there. -/
def lpF (e : UInt8) (l : List UInt8) : List UInt8 × List UInt8 × Bool × Bool :=
  if (trL l).head? = some 34 then
    match quF (trL l).tail with
    | none => ([], (cutF e (trL l)).2.1, !(cutF e (trL l)).2.2, true)
    | some (w, t) => if trR (cutF e t).1 = [] then (w, (cutF e t).2.1, !(cutF e t).2.2, false) else ([], (cutF e t).2.1, !(cutF e t).2.2, true)
  else if trR (cutF e (trL l)).1 = [] ∨ (34 : UInt8) ∈ trR (cutF e (trL l)).1 then ([], (cutF e (trL l)).2.1, !(cutF e (trL l)).2.2, true)
  else (trR (cutF e (trL l)).1, (cutF e (trL l)).2.1, !(cutF e (trL l)).2.2, false)
theorem lp_wd {e : UInt8} (he : wsB e = false) (l : List UInt8) : match wdF e l with
    | some (w, t) => lpF e l = (w, t.getD [], t.isNone, false)
    | none => (lpF e l).2.2.2 = true := by
  obtain ⟨p, _, _, hT⟩ := trL_dec l
  unfold wdF lpF
  generalize trL l = T at *
  have plain : T.head? ≠ some 34 → match (if (34 : UInt8) ∈ T.takeWhile (· != e) ∨ trB (T.takeWhile (· != e)) = [] then none else some (trB (T.takeWhile (· != e)), if T.takeWhile (· != e) = T then none else some (T.drop ((T.takeWhile (· != e)).length + 1)))) with
      | some (w, t) => (if T.head? = some 34 then (match quF T.tail with
        | none => ([], (cutF e T).2.1, !(cutF e T).2.2, true)
        | some (w, t) => if trR (cutF e t).1 = [] then (w, (cutF e t).2.1, !(cutF e t).2.2, false) else ([], (cutF e t).2.1, !(cutF e t).2.2, true))
        else if trR (cutF e T).1 = [] ∨ (34 : UInt8) ∈ trR (cutF e T).1 then ([], (cutF e T).2.1, !(cutF e T).2.2, true)
        else (trR (cutF e T).1, (cutF e T).2.1, !(cutF e T).2.2, false)) = (w, t.getD [], t.isNone, false)
      | none => (if T.head? = some 34 then (match quF T.tail with
        | none => ([], (cutF e T).2.1, !(cutF e T).2.2, true)
        | some (w, t) => if trR (cutF e t).1 = [] then (w, (cutF e t).2.1, !(cutF e t).2.2, false) else ([], (cutF e t).2.1, !(cutF e t).2.2, true))
        else if trR (cutF e T).1 = [] ∨ (34 : UInt8) ∈ trR (cutF e T).1 then ([], (cutF e T).2.1, !(cutF e T).2.2, true)
        else (trR (cutF e T).1, (cutF e T).2.1, !(cutF e T).2.2, false)).2.2.2 = true := by
    intro h34
    simp only [if_neg h34]
    have hm := fun l => mem_trR (c := 34) (l := l) (by decide)
    have hb : ∀ a r, T = a ++ r → (a = [] ∨ ∃ c b, a = c :: b ∧ wsB c = false) := by
      intro a r q
      cases a with
      | nil => exact .inl rfl
      | cons c b =>
        right
        refine ⟨c, b, rfl, ?_⟩
        rcases hT with h | ⟨c', r', h, hc⟩
        · rw [h] at q; cases q
        · rw [h, List.cons_append] at q
          rw [← (List.cons.inj q).1]; exact hc
    have hB : ∀ a r, T = a ++ r → trB a = trR a := by
      intro a r q
      unfold trB
      rcases hb a r q with rfl | ⟨c, b, rfl, hc⟩
      · rfl
      · rw [trL_not hc]
    rcases cut_two e T with ⟨h1, h2⟩ | ⟨a, r, h1, h2, h3⟩
    · rw [h2, tw_all (fun c hc (q : c = e) => h1 (by rw [← q]; exact hc)), hB T [] (by simp)]
      dsimp only
      by_cases hx : (34 : UInt8) ∈ T ∨ trR T = []
      · rw [if_pos hx]
        dsimp only
        rw [if_pos (by rw [hm]; exact hx.symm)]
      · rw [if_neg hx]
        dsimp only
        rw [if_neg (by rw [hm]; exact fun q => hx q.symm), if_pos rfl]
        rfl
    · have e1 : T.takeWhile (· != e) = a := by rw [h2]; exact while_first h1
      have e2 : T.drop (a.length + 1) = r := by rw [h2, show a ++ e :: r = a ++ [e] ++ r by simp, show a.length + 1 = (a ++ [e]).length by simp, List.drop_left]
      have e3 : ¬a = T := fun q => by
        have := congrArg List.length (q.trans h2)
        rw [List.length_append, List.length_cons] at this
        omega
      rw [h3, e1, e2, if_neg e3, hB a _ h2]
      dsimp only
      by_cases hx : (34 : UInt8) ∈ a ∨ trR a = []
      · rw [if_pos hx]
        dsimp only
        rw [if_pos (by rw [hm]; exact hx.symm)]
      · rw [if_neg hx]
        dsimp only
        rw [if_neg (by rw [hm]; exact fun q => hx q.symm)]
        rfl
  by_cases h34 : T.head? = some 34
  · obtain ⟨r, rfl⟩ : ∃ r, T = 34 :: r := by
      cases T with
      | nil => cases h34
      | cons c r => exact ⟨r, by rw [Option.some.inj h34]⟩
    rw [if_pos h34, List.tail_cons]
    show (match (match quF r with
      | none => none
      | some (w, t) => match trL t with
        | [] => some (w, none)
        | c :: u => if c = e then some (w, some u) else none : Option (List UInt8 × Option (List UInt8))) with
      | some (w, t) => _
      | none => _)
    cases hq : quF r with
    | none => rfl
    | some x =>
      obtain ⟨w, t⟩ := x
      dsimp only
      obtain ⟨p, h1, h2, h3⟩ := trL_dec t
      have hep : e ∉ p := fun q => by rw [List.all_eq_true.1 h1 e q] at he; cases he
      rcases h3 with h3 | ⟨c, u, h3, hc⟩
      · rw [h3, List.append_nil] at h2
        rw [h3]
        dsimp only
        rw [h2, cut_no hep, if_pos (trR_nil.2 h1)]
        rfl
      · rw [h3]
        dsimp only
        rw [h3] at h2
        by_cases hce : c = e
        · subst hce
          rw [if_pos rfl]
          dsimp only
          rw [h2, cut_yea hep, if_pos (trR_nil.2 h1)]
          rfl
        · rw [if_neg hce]
          dsimp only
          rw [if_neg]
          intro q
          have q := trR_nil.1 q
          have : c ∈ (cutF e t).1 := by
            rcases cut_two e t with ⟨_, g2⟩ | ⟨a, r', g1, g2, g3⟩
            · rw [g2]
              show c ∈ t
              rw [h2]; simp
            · rw [g3]
              show c ∈ a
              rw [h2] at g2
              rcases List.append_eq_append_iff.1 g2 with ⟨hs, x1, x2⟩ | ⟨bs, x1, x2⟩
              · cases hs with
                | nil => exact absurd (List.cons.inj (by simpa using x2)).1 hce
                | cons y ys => rw [x1, (List.cons.inj x2).1]; simp
              · cases bs with
                | nil => exact absurd (List.cons.inj (by simpa using x2)).1.symm hce
                | cons y ys => exact absurd (show e ∈ p by rw [x1, (List.cons.inj x2).1]; simp) hep
          rw [List.all_eq_true.1 q c this] at hc
          cases hc
  · have := plain h34
    split
    · rename_i heq
      split at heq
      · rename_i r; exact absurd rfl h34
      · rw [heq] at this; exact this
    · rename_i heq
      split at heq
      · rename_i r; exact absurd rfl h34
      · rw [heq] at this; exact this
theorem cutF_len (e : UInt8) (l : List UInt8) : (cutF e l).1.length ≤ l.length ∧ (cutF e l).2.1.length ≤ l.length ∧ ((cutF e l).2.2 = true → (cutF e l).2.1.length < l.length) := by
  rcases cut_two e l with ⟨h1, h2⟩ | ⟨a, r, h1, h2, h3⟩
  · rw [h2]; exact ⟨Nat.le_refl _, Nat.zero_le _, by simp⟩
  · rw [h3, h2]; simp; omega
theorem trL_len (l : List UInt8) : (trL l).length ≤ l.length := (List.dropWhile_sublist _).length_le
theorem trR_len (l : List UInt8) : (trR l).length ≤ l.length := by
  unfold trR
  rw [List.length_reverse]
  have := trL_len l.reverse
  rw [List.length_reverse] at this
  exact this
theorem qg_len : ∀ (b : Bool) (l w t : List UInt8), quG b l = some (w, t) → w.length + t.length ≤ l.length
  | _, [], w, t, h => by simp [quG] at h
  | true, c :: r, w, t, h => by
    rw [quG] at h
    obtain ⟨x, h1, h2⟩ := Option.map_eq_some_iff.1 h
    have := qg_len false r x.1 x.2 h1
    cases h2
    simp only [List.length_cons]
    omega
  | false, c :: r, w, t, h => by
    rw [quG] at h
    split at h
    · cases h; simp
    · split at h
      · have := qg_len true r w t h
        simp only [List.length_cons]; omega
      · obtain ⟨x, h1, h2⟩ := Option.map_eq_some_iff.1 h
        have := qg_len false r x.1 x.2 h1
        cases h2
        simp only [List.length_cons]
        omega
theorem lp_len (e : UInt8) (l : List UInt8) : (lpF e l).1.length ≤ l.length ∧ (lpF e l).2.1.length ≤ l.length ∧ ((lpF e l).2.2.1 = false → (lpF e l).2.1.length < l.length) := by
  have h0 := trL_len l
  obtain ⟨a1, a2, a3⟩ := cutF_len e (trL l)
  have a4 := trR_len (cutF e (trL l)).1
  unfold lpF
  split
  · cases hq : quF (trL l).tail with
    | none => exact ⟨Nat.zero_le _, by dsimp only; omega, fun h => by have := a3 (by simpa using h); dsimp only; omega⟩
    | some x =>
      obtain ⟨w, t⟩ := x
      have h1 := qg_len _ _ _ _ hq
      have h2 : (trL l).tail.length ≤ (trL l).length := by simp
      obtain ⟨b1, b2, b3⟩ := cutF_len e t
      dsimp only
      split
      · exact ⟨by dsimp only; omega, by dsimp only; omega, fun h => by have := b3 (by simpa using h); dsimp only; omega⟩
      · exact ⟨Nat.zero_le _, by dsimp only; omega, fun h => by have := b3 (by simpa using h); dsimp only; omega⟩
  · split
    · exact ⟨Nat.zero_le _, by dsimp only; omega, fun h => by have := a3 (by simpa using h); dsimp only; omega⟩
    · exact ⟨by dsimp only; omega, by dsimp only; omega, fun h => by have := a3 (by simpa using h); dsimp only; omega⟩

/-! ### Values -/
/-- All parts up to the end, and whether one of them was wrong. -/
def vwF : Nat → List UInt8 → List (List UInt8) × Bool
  | 0, _ => ([], true)
  | n + 1, l => if (lpF 44 l).2.2.1 = true then ([(lpF 44 l).1], (lpF 44 l).2.2.2) else ((lpF 44 l).1 :: (vwF n (lpF 44 l).2.1).1, (lpF 44 l).2.2.2 || (vwF n (lpF 44 l).2.1).2)
def vwA (l : List UInt8) : List (List UInt8) × Bool := vwF (l.length + 1) l
theorem vw_fuel : ∀ (n : Nat) (l : List UInt8), l.length < n → vwF n l = vwA l
  | 0, _, h => by omega
  | n + 1, l, h => by
    unfold vwA
    rw [vwF, vwF]
    by_cases hc : (lpF 44 l).2.2.1 = true
    · rw [if_pos hc, if_pos hc]
    · have hl := (lp_len 44 l).2.2 (by simpa using hc)
      rw [if_neg hc, if_neg hc, vw_fuel n _ (by omega)]
      rw [show vwF l.length (lpF 44 l).2.1 = vwA (lpF 44 l).2.1 from ?_]
      by_cases hn : l.length ≤ n
      · rw [vw_fuel l.length _ hl]
      · omega
termination_by n l => (n, l.length)
theorem vw_step (l : List UInt8) : vwA l = if (lpF 44 l).2.2.1 = true then ([(lpF 44 l).1], (lpF 44 l).2.2.2) else ((lpF 44 l).1 :: (vwA (lpF 44 l).2.1).1, (lpF 44 l).2.2.2 || (vwA (lpF 44 l).2.1).2) := by
  by_cases hc : (lpF 44 l).2.2.1 = true
  · unfold vwA
    rw [vwF, if_pos hc, if_pos hc]
  · have hl := (lp_len 44 l).2.2 (by simpa using hc)
    rw [if_neg hc, ← vw_fuel l.length _ hl]
    unfold vwA
    rw [vwF, if_neg hc]
theorem vs_vw : ∀ (n : Nat) (l : List UInt8), l.length < n → vsF n l = if (vwF n l).2 = true then none else some (vwF n l).1
  | 0, _, h => by omega
  | n + 1, l, h => by
    have hw := lp_wd (e := 44) (by decide) l
    rw [vsF, vwF]
    cases hx : wdF 44 l with
    | none =>
      rw [hx] at hw
      dsimp only at hw ⊢
      by_cases hc : (lpF 44 l).2.2.1 = true
      · rw [if_pos hc, hw]; rfl
      · rw [if_neg hc, hw, Bool.true_or]; rfl
    | some x =>
      obtain ⟨w, t⟩ := x
      rw [hx] at hw
      dsimp only at hw ⊢
      cases t with
      | none =>
        rw [hw]
        rfl
      | some u =>
        have hl : u.length < l.length := by
          have := (lp_len 44 l).2.2 (by rw [hw]; rfl)
          rw [hw] at this
          exact this
        have e : (if (lpF 44 l).2.2.1 = true then ([(lpF 44 l).1], (lpF 44 l).2.2.2) else ((lpF 44 l).1 :: (vwF n (lpF 44 l).2.1).1, (lpF 44 l).2.2.2 || (vwF n (lpF 44 l).2.1).2)) = (w :: (vwF n u).1, (vwF n u).2) := by rw [hw]; rfl
        rw [e]
        show (vsF n u).map (w :: ·) = if (vwF n u).2 = true then none else some (w :: (vwF n u).1)
        rw [vs_vw n u (by omega)]
        by_cases hv : (vwF n u).2 = true
        · rw [if_pos hv, if_pos hv]; rfl
        · rw [if_neg hv, if_neg hv]; rfl
/-- What is answered of values, all of them read. -/
def vwE (w : Bool) (ws : List (List UInt8)) : List (List UInt8) × Nat := if w = true then ([], 5) else if 16 < ws.length then ([], 7) else (ws, 0)
theorem vlu_vw (l : List UInt8) : vluF l = vwE (!(l.all txB) || (vwA l).2) (vwA l).1 := by
  unfold vluF vwE
  by_cases h : l.all txB = true
  · rw [if_pos h, vs_vw _ l (Nat.lt_succ_self _), h, Bool.not_true, Bool.false_or]
    show (match (if (vwA l).2 = true then none else some (vwA l).1) with
      | none => _
      | some ws => _) = _
    by_cases hv : (vwA l).2 = true
    · rw [if_pos hv, if_pos hv]
    · rw [if_neg hv, if_neg hv]
  · rw [if_neg h, if_pos (by simp [h])]
/-! ### An entry -/
/-- What a row says, as the program reads it: key, values and error. -/
def keF (x : Sai) : List UInt8 × Bool := (((lpF 58 x.t).1), (lpF 58 x.t).2.2.2 || decide ((lpF 58 x.t).1 = []) || (lpF 58 x.t).2.2.1)
theorem all_lp {l : List UInt8} {e : UInt8} {p : UInt8 → Bool} (h : l.all p = true) : (lpF e l).2.1.all p = true := by
  have sub : ∀ m : List UInt8, (∀ c ∈ m, c ∈ l) → m.all p = true := fun m hm => List.all_eq_true.2 fun c hc => List.all_eq_true.1 h c (hm c hc)
  have cutm : ∀ m : List UInt8, ∀ c ∈ (cutF e m).2.1, c ∈ m := by
    intro m c hc
    rcases cut_two e m with ⟨_, g2⟩ | ⟨a, r, _, g2, g3⟩
    · rw [g2] at hc; cases hc
    · rw [g3] at hc; rw [g2]; exact List.mem_append.2 (.inr (List.mem_cons_of_mem _ hc))
  have trm : ∀ c ∈ trL l, c ∈ l := fun c hc => (List.dropWhile_sublist _).subset hc
  have qum : ∀ (b : Bool) (m w t : List UInt8), quG b m = some (w, t) → ∀ c ∈ t, c ∈ m := by
    intro b m
    induction m generalizing b with
    | nil => intro w t q; simp [quG] at q
    | cons x r ih =>
      intro w t q c hc
      cases b with
      | true =>
        rw [quG] at q
        obtain ⟨y, h1, h2⟩ := Option.map_eq_some_iff.1 q
        cases h2
        exact List.mem_cons_of_mem _ (ih _ _ _ h1 c hc)
      | false =>
        rw [quG] at q
        split at q
        · cases q; exact List.mem_cons_of_mem _ hc
        · split at q
          · exact List.mem_cons_of_mem _ (ih _ _ _ q c hc)
          · obtain ⟨y, h1, h2⟩ := Option.map_eq_some_iff.1 q
            cases h2
            exact List.mem_cons_of_mem _ (ih _ _ _ h1 c hc)
  refine sub _ fun c hc => ?_
  unfold lpF at hc
  split at hc
  · cases hq : quF (trL l).tail with
    | none => rw [hq] at hc; exact trm c (cutm _ c hc)
    | some y =>
      obtain ⟨w, t⟩ := y
      rw [hq] at hc
      dsimp only at hc
      have : c ∈ (cutF e t).2.1 := by split at hc <;> exact hc
      exact trm c (List.mem_of_mem_tail (qum _ _ _ _ hq c (cutm _ c this)))
  · split at hc <;> exact trm c (cutm _ c hc)
theorem en_true {x : Sai} : enF true x = (if ((x.al || !(x.t.all txB)) || (keF x).2) = true then (⟨0, [], []⟩, 5)
    else match vwE (vwA (lpF 58 x.t).2.1).2 (vwA (lpF 58 x.t).2.1).1 with
      | (ws, 0) => (⟨x.n, (keF x).1, ws⟩, 0)
      | (_, e) => (⟨0, [], []⟩, e)) := by
  unfold enF
  by_cases h1 : x.al = true ∨ x.t.all txB = false
  · rw [if_pos h1, if_pos (by rcases h1 with h | h <;> simp [h])]
  · have h2 : x.al = false := by cases hx : x.al <;> simp_all
    have h3 : x.t.all txB = true := by cases hx : x.t.all txB <;> simp_all
    rw [if_neg h1, if_neg (by simp), h2, h3]
    have hw := lp_wd (e := 58) (by decide) x.t
    cases hx : wdF 58 x.t with
    | none =>
      rw [hx] at hw
      dsimp only at hw ⊢
      rw [if_pos (by unfold keF; rw [hw]; simp)]
    | some y =>
      obtain ⟨k, t⟩ := y
      rw [hx] at hw
      dsimp only at hw
      have ha : (lpF 58 x.t).2.1.all txB = true := all_lp h3
      unfold keF
      rw [hw] at ha ⊢
      cases t with
      | none =>
        dsimp only [Option.isNone]
        rw [if_pos (by simp)]
      | some r =>
        dsimp only [Option.isNone, Option.getD] at ha ⊢
        by_cases hk : k = []
        · rw [if_pos hk, if_pos (by simp [hk])]
        · rw [if_neg hk, vlu_vw, ha, Bool.not_true, Bool.false_or]
          have e : (false || false || (false || decide (k = []) || false)) = false := by simp [hk]
          generalize vwE (vwA r).2 (vwA r).1 = V
          obtain ⟨ws, n⟩ := V
          refine Eq.trans ?_ (if_neg (by simp [hk])).symm
          cases n with
          | zero => rfl
          | succ e => rfl
theorem en_false {x : Sai} : enF false x = if (x.al || !(x.t.all txB)) = true ∨ (34 : UInt8) ∈ trB x.t then (⟨0, [], []⟩, 5) else (⟨x.n, trB x.t, []⟩, 0) := by
  unfold enF
  have hm : (34 : UInt8) ∈ trB x.t ↔ (34 : UInt8) ∈ x.t := by
    unfold trB
    rw [mem_trR (by decide)]
    obtain ⟨p, h1, h2, _⟩ := trL_dec x.t
    constructor
    · intro q; rw [h2]; exact List.mem_append.2 (.inr q)
    · intro q
      rw [h2] at q
      rcases List.mem_append.1 q with q | q
      · have := List.all_eq_true.1 h1 _ q
        cases this
      · exact q
  by_cases h1 : x.al = true ∨ x.t.all txB = false
  · rw [if_pos h1, if_pos (by rcases h1 with h | h <;> simp [h])]
  · have h2 : x.al = false := by cases hx : x.al <;> simp_all
    have h3 : x.t.all txB = true := by cases hx : x.t.all txB <;> simp_all
    rw [if_neg h1, if_pos rfl, h2, h3]
    by_cases h : (34 : UInt8) ∈ x.t
    · rw [if_pos h, if_pos (by rw [hm]; exact .inr h)]
    · rw [if_neg h, if_neg (by rw [hm]; simp [h])]

/-! ### Rows -/
/-- The row that may go on, and those ahead of it. -/
def curR (R : List Sai) : Option (Nat × List UInt8) := match R.getLast? with
  | some x => if x.al = true then none else some (x.n, x.t)
  | none => none
def aheR (R : List Sai) : List Sai := match curR R with
  | some _ => R.dropLast
  | none => R
def rwI (R : List Sai) (i : Nat) (ls : List (List UInt8)) : List Sai := aheR R ++ saG (i + 1) (curR R) ls
theorem rw_0 (text : List UInt8) : rwI [] 0 (splitF 10 text) = saF text := rfl
theorem curR_app (R : List Sai) (x : Sai) : curR (R ++ [x]) = if x.al = true then none else some (x.n, x.t) := by unfold curR; rw [List.getLast?_concat]
theorem aheR_cur (R : List Sai) : aheR R ++ flS (curR R) = R := by
  unfold aheR
  cases h : curR R with
  | none => simp [flS]
  | some y =>
    unfold curR at h
    cases hl : R.getLast? with
    | none => rw [hl] at h; cases h
    | some x =>
      rw [hl] at h
      dsimp only at h ⊢
      split at h
      · cases h
      · rename_i hx
        cases h
        obtain ⟨ys, rfl⟩ := List.getLast?_eq_some_iff.1 hl
        obtain ⟨n, t, al⟩ := x
        obtain rfl : al = false := by simpa using hx
        simp [flS]
theorem rw_end (R : List Sai) (i : Nat) : rwI R i [] = R := by
  unfold rwI
  rw [saG, aheR_cur]
theorem rw_pass {R : List Sai} {i : Nat} {l : List UInt8} {ls : List (List UInt8)} (h : trB (lnE l) = [] ∨ (trB (lnE l)).head? = some 35) : rwI R i (l :: ls) = rwI R (i + 1) ls := by
  unfold rwI
  rw [saG, if_pos h]
theorem rw_new {R : List Sai} {i : Nat} {l : List UInt8} {ls : List (List UInt8)} (h : ¬(trB (lnE l) = [] ∨ (trB (lnE l)).head? = some 35)) (h2 : ctB (lnE l) = false) : rwI R i (l :: ls) = rwI (R ++ [⟨i + 1, lnE l, false⟩]) (i + 1) ls := by
  unfold rwI
  rw [saG, if_neg h, if_neg (by rw [h2]; simp)]
  have e : aheR (R ++ [⟨i + 1, lnE l, false⟩]) = R := by
    unfold aheR
    rw [curR_app]
    simp
  rw [e, curR_app, ← List.append_assoc, aheR_cur]
  rfl
theorem rw_stray {R : List Sai} {i : Nat} {l : List UInt8} {ls : List (List UInt8)} (h : ¬(trB (lnE l) = [] ∨ (trB (lnE l)).head? = some 35)) (h2 : ctB (lnE l) = true) (h3 : curR R = none) : rwI R i (l :: ls) = rwI (R ++ [⟨i + 1, [], true⟩]) (i + 1) ls := by
  unfold rwI
  rw [saG, if_neg h, if_pos h2, h3]
  have e1 : curR (R ++ [⟨i + 1, [], true⟩]) = none := by rw [curR_app]; rfl
  have e : aheR (R ++ [⟨i + 1, [], true⟩]) = R ++ [⟨i + 1, [], true⟩] := by unfold aheR; rw [e1]
  have e2 : aheR R = R := by unfold aheR; rw [h3]
  rw [e, e1, e2]
  show R ++ ([⟨i + 1, [], true⟩] ++ saG (i + 1 + 1) none ls) = _
  rw [List.append_assoc]
theorem rw_on {R : List Sai} {x : Sai} {i : Nat} {l : List UInt8} {ls : List (List UInt8)} (h : ¬(trB (lnE l) = [] ∨ (trB (lnE l)).head? = some 35)) (h2 : ctB (lnE l) = true) (h3 : x.al = false) : rwI (R ++ [x]) i (l :: ls) = rwI (R ++ [⟨x.n, x.t ++ 32 :: trB (lnE l), false⟩]) (i + 1) ls := by
  have c1 : curR (R ++ [x]) = some (x.n, x.t) := by rw [curR_app, if_neg (by simp [h3])]
  have c2 : curR (R ++ [⟨x.n, x.t ++ 32 :: trB (lnE l), false⟩]) = some (x.n, x.t ++ 32 :: trB (lnE l)) := by rw [curR_app]; rfl
  have a1 : aheR (R ++ [x]) = R := by unfold aheR; rw [c1]; simp
  have a2 : aheR (R ++ [⟨x.n, x.t ++ 32 :: trB (lnE l), false⟩]) = R := by unfold aheR; rw [c2]; simp
  unfold rwI
  rw [saG, if_neg h, if_pos h2, c1, c2, a1, a2]
  rfl
end Go.Vf.S
end
section
/- Atoms. -/
namespace Go.Vf.S
open Go Go.Vf
attribute [local irreducible] wSeq wRow wp wG
set_option linter.unusedVariables false
set_option linter.unusedSimpArgs false
set_option maxRecDepth 10000

end Go.Vf.S
end
section
/- Dot-atoms; white space at both ends. -/
namespace Go.Vf.S
open Go Go.Vf
attribute [local irreducible] wSeq wRow wp wG
set_option linter.unusedVariables false
set_option linter.unusedSimpArgs false
set_option maxRecDepth 10000

/-- Off the end. -/
def dropR (l : List UInt8) : List UInt8 := (l.reverse.dropWhile wh).reverse
def trimF (l : List UInt8) : List UInt8 := dropR (l.dropWhile wh)
theorem dropR_wh {l : List UInt8} {c : UInt8} (h : wh c = true) : dropR (l ++ [c]) = dropR l := by
  unfold dropR
  rw [List.reverse_append, List.reverse_singleton, List.singleton_append, List.dropWhile_cons, if_pos h]
theorem dropR_no {l : List UInt8} {c : UInt8} (h : wh c = false) : dropR (l ++ [c]) = l ++ [c] := by
  unfold dropR
  rw [List.reverse_append, List.reverse_singleton, List.singleton_append, List.dropWhile_cons, if_neg (by simp [h])]
  simp
theorem take_last {l : List UInt8} {n : Nat} {c : UInt8} (hn : l.length = n + 1) (h : l[n]? = some c) : l = l.take n ++ [c] := by
  rw [← take_next h, List.take_of_length_le (by omega)]

theorem in_wh (c : UInt8) : inB [32, 9] c.toNat = wh c := by
  rw [Bool.eq_iff_iff]
  simp only [inB, wh, List.any_cons, List.any_nil, Bool.or_false, Bool.or_eq_true, beq_iff_eq, decide_eq_true_eq]
  have e1 : (32 : UInt8).toNat = 32 := rfl
  have e2 : (9 : UInt8).toNat = 9 := rfl
  omega

theorem dropR_cons (c : UInt8) (l : List UInt8) : dropR (c :: l) = if dropR l = [] then (if wh c then [] else [c]) else c :: dropR l := by
  unfold dropR
  rw [List.reverse_cons, List.dropWhile_append]
  by_cases h : l.reverse.dropWhile wh = []
  · rw [h]
    cases hc : wh c <;> simp [hc]
  · have h2 : (l.reverse.dropWhile wh).isEmpty = false := by cases q : l.reverse.dropWhile wh with
      | nil => exact absurd q h
      | cons a b => rfl
    rw [h2]
    simp [h]
/-- A text's ends may be taken off in either order. -/
theorem trim_comm (l : List UInt8) : trimF l = (dropR l).dropWhile wh := by
  unfold trimF
  induction l with
  | nil => rfl
  | cons c l ih =>
    rw [dropR_cons]
    cases hc : wh c with
    | true =>
      rw [List.dropWhile_cons, if_pos hc, ih]
      by_cases h : dropR l = []
      · rw [if_pos h, h]; rfl
      · rw [if_neg h, List.dropWhile_cons, if_pos hc]
    | false =>
      rw [List.dropWhile_cons, if_neg (by simp [hc]), dropR_cons, hc]
      by_cases h : dropR l = []
      · rw [if_pos h]; simp [hc]
      · rw [if_neg h, List.dropWhile_cons, if_neg (by simp [hc])]

theorem trimR_w {s : SS} {b : Nat} {g r : Bool} {l : List UInt8} (hl : l.length ≤ 1000000) (hb : lookH s.heap b = some (.cells (tab (inB [32, 9])) tA g r)) :
    CallW pr n_strings_trimRightASCII [str l, .pointer (some ⟨b, 0, none⟩)] s fun v s' => v = str (dropR l) ∧ s' = s := by
  refine CallW.run good ok_strings_trimRightASCII (by simp) rfl ?_
  (try refine pSeq ?_); (repeat refine sb ?_)
  refine pLoop (MW.head good (fun x : List UInt8 => x.length) (fun x => x.length ≤ l.length ∧ dropR x = dropR l)
    (fun x => [(0, str x), (1, .pointer (some ⟨b, 0, none⟩))]) (fun x => s) l ⟨Nat.le_refl _, rfl⟩ (Wk.same ⟨rfl, rfl, trivial⟩) ?_)
  intro x ⟨hx, h0⟩
  (repeat refine sb ?_)
  intro n hn
  (repeat refine sb ?_)
  intro q hq
  rcases Nat.eq_zero_or_pos x.length with h | h
  · have : x = [] := List.eq_nil_of_length_eq_zero h
    subst this
    obtain rfl : q = false := by rw [hq, hn]; rfl
    (repeat refine sb ?_)
    rw [← h0]
    exact ⟨rfl, rfl⟩
  · obtain ⟨k, hk⟩ : ∃ k, x.length = k + 1 := ⟨x.length - 1, by omega⟩
    obtain ⟨c, hc⟩ : ∃ c, x[k]? = some c := ⟨_, List.getElem?_eq_getElem (by omega)⟩
    have hx2 := take_last hk hc
    obtain rfl : q = true := by rw [hq, hn]; simp; omega
    (repeat refine sb ?_)
    intro n2 hn2
    (repeat refine sb ?_)
    intro z hz
    rw [i64_id (by omega)] at hz
    (repeat refine sb ?_)
    refine ⟨by omega, ?_⟩
    intro m hm
    obtain rfl : m = k := by omega
    refine ⟨c, hc, ?_⟩
    (repeat refine sb ?_)
    refine (contains_w hb).mono fun v s q => ?_
    obtain ⟨rfl, rfl⟩ := q
    rw [show inB [32, 9] c.toNat = wh c from in_wh c]
    (repeat refine sb ?_)
    intro q hq
    by_cases hf : wh c = true
    · obtain rfl : q = false := by rw [hq, hf]; rfl
      rw [hx2, dropR_wh hf] at h0
      (repeat refine sb ?_)
      intro n3 hn3
      (repeat refine sb ?_)
      intro z2 hz2
      rw [i64_id (by omega)] at hz2
      (repeat refine sb ?_)
      refine ⟨by omega, ?_⟩
      intro m2 hm2 y hy
      obtain rfl : m2 = m := by omega
      have ey : y = x.take m2 := by rw [hy]; simp
      clear hy
      subst ey
      (repeat refine sb ?_)
      exact ⟨x.take m2, ⟨by simp; omega, h0⟩, by show (x.take m2).length < x.length; simp; omega, Wk.same ⟨rfl, rfl, trivial⟩⟩
    · obtain rfl : q = true := by rw [hq]; simp [hf]
      rw [hx2, dropR_no (by simpa using hf), ← hx2] at h0
      (repeat refine sb ?_)
      rw [← h0]
      exact ⟨rfl, rfl⟩

theorem Trim_w {s : SS} {l : List UInt8} (hl : l.length ≤ 1000000) : CallW pr n_strings_Trim [str l, .string ⟨#[32, 9]⟩] s fun v s' => v = str (trimF l) ∧ Chg s s' [] := by
  refine CallW.run good ok_strings_Trim (by simp) rfl ?_
  (try refine pSeq ?_); (repeat(first|refine sb ?_|refine kNo ?_|refine gOn rfl ?_|refine gOff rfl rfl ?_|refine gTup rfl ?_))
  intro q hq
  by_cases h0 : l = []
  · subst h0
    obtain rfl : q = true := by rw [hq]; rfl
    (repeat(first|refine sb ?_|refine kNo ?_|refine gOn rfl ?_|refine gOff rfl rfl ?_|refine gTup rfl ?_))
    exact ⟨rfl, .refl _ _⟩
  · obtain rfl : q = false := by rw [hq]; simp [h0]
    (repeat(first|refine sb ?_|refine kNo ?_|refine gOn rfl ?_|refine gOff rfl rfl ?_|refine gTup rfl ?_))
    intro q hq
    obtain rfl : q = false := by rw [hq]; rfl
    (repeat(first|refine sb ?_|refine kNo ?_|refine gOn rfl ?_|refine gOff rfl rfl ?_|refine gTup rfl ?_))
    intro n hn
    (repeat(first|refine sb ?_|refine kNo ?_|refine gOn rfl ?_|refine gOff rfl rfl ?_|refine gTup rfl ?_))
    intro q hq
    obtain rfl : q = false := by rw [hq, hn]; rfl
    (repeat(first|refine sb ?_|refine kNo ?_|refine gOn rfl ?_|refine gOff rfl rfl ?_|refine gTup rfl ?_))
    refine (makeSet_w (k := [32, 9]) (by simp) (by simp)).mono fun v s1 q => ?_
    obtain ⟨rfl, c1⟩ := q
    (repeat(first|refine sb ?_|refine kNo ?_|refine gOn rfl ?_|refine gOff rfl rfl ?_|refine gTup rfl ?_))
    have n1 := c1.next
    refine st_abs (cs := tab fun _ => false) rfl rfl lkH (Nat.lt_succ_self _) (tab_all1 _) (tab_row _ _) fun s2 e2 c2 n2 => ?_
    (repeat(first|refine sb ?_|refine kNo ?_|refine gOn rfl ?_|refine gOff rfl rfl ?_|refine gTup rfl ?_))
    refine (trimR_w hl e2).mono fun v s2 q => ?_
    obtain ⟨rfl, rfl⟩ := q
    have hlen : (dropR l).length ≤ l.length := by
      unfold dropR
      have := (List.dropWhile_sublist (l := l.reverse) wh).length_le
      simp at this ⊢
      exact this
    (repeat(first|refine sb ?_|refine kNo ?_|refine gOn rfl ?_|refine gOff rfl rfl ?_|refine gTup rfl ?_))
    refine (trimL_w (by omega) e2).mono fun v s2 q => ?_
    obtain ⟨rfl, rfl⟩ := q
    (repeat(first|refine sb ?_|refine kNo ?_|refine gOn rfl ?_|refine gOff rfl rfl ?_|refine gTup rfl ?_))
    refine ⟨?_, (c1.nil (.new [])).fresh c2 (by simp; omega)⟩
    rw [trim_comm]
    show str _ = str _
    congr 4
    funext c
    exact in_wh c

end Go.Vf.S
end
section
/- A key or a value as it is told: Quote. -/
namespace Go.Vf.S
open Go Go.Vf Go.Proofs Go.RowKit
attribute [local irreducible] wSeq wRow wp wG
set_option linter.unusedVariables false
set_option linter.unusedSimpArgs false
set_option maxRecDepth 10000

theorem ws_wh : wsB = wh := by
  funext c
  unfold wsB wh
  rw [Bool.eq_iff_iff]
  simp only [Bool.or_eq_true, beq_iff_eq, decide_eq_true_eq, ← UInt8.toNat_inj]
  rfl
theorem trimF_trB (l : List UInt8) : trimF l = trB l := by
  unfold trimF dropR trB trR trL
  rw [ws_wh]
theorem dropR_trR (l : List UInt8) : dropR l = trR l := by
  unfold dropR trR
  rw [ws_wh]
theorem containsAny13_w {s : SS} {l m : List UInt8} (hl : l.length ≤ 1000000) (hm : m.length ≤ 1000000) (ha : asc l) (hb : asc m) : CallW pr 30 [str l, str m] s fun v s' => v = .bool (Lib.containsAny l m) ∧ s' = s := by
  refine CallW.kit rfl fun B w0 ρ args' w H hr => ?_
  obtain ⟨v1, v2, rfl, q1, q2⟩ := lrel_2 hr
  obtain rfl := str_inv q1
  obtain rfl := str_inv q2
  exact Any.strings_ContainsAny_laid Tryz.lays150 (by kernel_rfl) ⟨⟨l⟩⟩ ⟨⟨m⟩⟩ w (by show l.length < _; omega) (by show m.length < _; omega) (asc_at ha) (asc_at hb)
def mkB (c : UInt8) : Bool := c == 58 || c == 44 || c == 34
theorem any_mk (l : List UInt8) : Lib.containsAny l [58, 44, 34] = l.any mkB := by
  have key : ∀ l : List UInt8, (0 ≤ Lib.indexAny l [58, 44, 34]) ↔ l.any mkB = true := by
    intro l
    induction l with
    | nil => simp [Lib.indexAny]
    | cons c l ih =>
      have hc : [58, 44, 34].contains c = mkB c := by
        unfold mkB
        rw [Bool.eq_iff_iff]
        simp [or_assoc]
      have hge := Lib.indexAny_ge [58, 44, 34] l
      unfold Lib.indexAny
      rw [hc, List.any_cons, Bool.or_eq_true, ← ih]
      by_cases h : mkB c = true
      · simp [h]
      · rw [if_neg h]
        by_cases h2 : Lib.indexAny l [58, 44, 34] = -1
        · rw [h2]; simp [h]
        · rw [if_neg (by simpa using h2)]
          simp only [h, false_or]
          omega
  unfold Lib.containsAny
  rw [Bool.eq_iff_iff, decide_eq_true_eq]
  exact key l
theorem pn_is (l : List UInt8) : pnF l = (decide (l ≠ []) && !(l.any mkB) && !(decide (l.take 1 = [35])) && decide (l = trB l)) := by
  have h1 : (l.all fun c => !(c == 58 || c == 44 || c == 34)) = !(l.any mkB) := by
    rw [List.not_any_eq_all_not]
    rfl
  have h2 : l.take 1 = [35] ↔ l.head? = some 35 := by
    cases l with
    | nil => simp
    | cons c r => simp
  unfold pnF
  rw [h1, Bool.eq_iff_iff]
  simp only [Bool.and_eq_true, decide_eq_true_eq, Bool.not_eq_true', decide_eq_false_iff_not, h2]
  constructor
  · rintro ⟨⟨a, b, c⟩, d⟩; exact ⟨⟨⟨a, d⟩, c⟩, b.symm⟩
  · rintro ⟨⟨⟨a, d⟩, c⟩, b⟩; exact ⟨⟨a, b.symm, c⟩, d⟩
set_option maxHeartbeats 1000000 in
theorem quote13_w {s : SS} {l : List UInt8} (f : Fine s) (hl : l.length ≤ 100000) (ha : asc l) : CallW pr n_lines_Quote [str l] s fun v s' => v = str (qtF l) ∧ Chg s s' [] := by
  refine CallW.run good ok_lines_Quote (by simp) rfl ?_
  have hpn := pn_is l
  (try refine pSeq ?_); (repeat(first|refine sb ?_|refine gOn rfl ?_|refine gOff rfl rfl ?_|refine gTup rfl ?_))
  intro q hq
  by_cases h0 : l = []
  · obtain rfl : q = false := by rw [hq, h0]; rfl
    have hp : pnF l = false := by rw [hpn, h0]; rfl
    have c1 : Chg s s [] := .refl _ _
    (repeat(first|refine sb ?_|refine gOn rfl ?_|refine gOff rfl rfl ?_|refine gTup rfl ?_))
    refine (newrp_w (Chg.fine (c1.nil (.new [])) f) ⟨Nat.lt_succ_self _, lkH⟩).mono fun v s2 q => ?_
    obtain ⟨p, m, rfl, hR, hp2, c3⟩ := q
    have c13 := (c1.nil (.new [])).nil c3
    (repeat(first|refine sb ?_|refine gOn rfl ?_|refine gOff rfl rfl ?_|refine gTup rfl ?_))
    refine (replace13_w (c13.fine f) hR (by omega)).mono fun v s3 q => ?_
    obtain ⟨rfl, c4⟩ := q
    have es := es_len l
    have nq := nqN_len l
    (repeat(first|refine sb ?_|refine gOn rfl ?_|refine gOff rfl rfl ?_|refine gTup rfl ?_))
    refine ⟨by simp only [List.length_append, List.length_cons, List.length_nil, es]; omega, ?_⟩
    intro w hw
    subst hw
    (repeat(first|refine sb ?_|refine gOn rfl ?_|refine gOff rfl rfl ?_|refine gTup rfl ?_))
    refine ⟨by simp only [List.length_append, List.length_cons, List.length_nil, es]; omega, ?_⟩
    intro w hw
    subst hw
    (repeat(first|refine sb ?_|refine gOn rfl ?_|refine gOff rfl rfl ?_|refine gTup rfl ?_))
    refine ⟨?_, c13.fresh c4 (by simp; have := c1.next; have : _ + 1 ≤ p := hp2; omega)⟩
    unfold qtF
    rw [if_neg (by rw [hp]; simp)]
    rfl
  · obtain rfl : q = true := by rw [hq]; simp [h0]
    (repeat(first|refine sb ?_|refine gOn rfl ?_|refine gOff rfl rfl ?_|refine gTup rfl ?_))
    refine (containsAny13_w (by omega) (by decide) ha (by unfold asc; decide)).mono fun v s q => ?_
    obtain ⟨rfl, rfl⟩ := q
    rw [any_mk]
    (repeat(first|refine sb ?_|refine gOn rfl ?_|refine gOff rfl rfl ?_|refine gTup rfl ?_))
    intro q hq
    by_cases h1 : l.any mkB = true
    · obtain rfl : q = false := by rw [hq, h1]; rfl
      have hp : pnF l = false := by rw [hpn, h1]; simp
      have c1 : Chg s s [] := .refl _ _
      (repeat(first|refine sb ?_|refine gOn rfl ?_|refine gOff rfl rfl ?_|refine gTup rfl ?_))
      refine (newrp_w (Chg.fine (c1.nil (.new [])) f) ⟨Nat.lt_succ_self _, lkH⟩).mono fun v s2 q => ?_
      obtain ⟨p, m, rfl, hR, hp2, c3⟩ := q
      have c13 := (c1.nil (.new [])).nil c3
      (repeat(first|refine sb ?_|refine gOn rfl ?_|refine gOff rfl rfl ?_|refine gTup rfl ?_))
      refine (replace13_w (c13.fine f) hR (by omega)).mono fun v s3 q => ?_
      obtain ⟨rfl, c4⟩ := q
      have es := es_len l
      have nq := nqN_len l
      (repeat(first|refine sb ?_|refine gOn rfl ?_|refine gOff rfl rfl ?_|refine gTup rfl ?_))
      refine ⟨by simp only [List.length_append, List.length_cons, List.length_nil, es]; omega, ?_⟩
      intro w hw
      subst hw
      (repeat(first|refine sb ?_|refine gOn rfl ?_|refine gOff rfl rfl ?_|refine gTup rfl ?_))
      refine ⟨by simp only [List.length_append, List.length_cons, List.length_nil, es]; omega, ?_⟩
      intro w hw
      subst hw
      (repeat(first|refine sb ?_|refine gOn rfl ?_|refine gOff rfl rfl ?_|refine gTup rfl ?_))
      refine ⟨?_, c13.fresh c4 (by simp; have := c1.next; have : _ + 1 ≤ p := hp2; omega)⟩
      unfold qtF
      rw [if_neg (by rw [hp]; simp)]
      rfl
    · obtain rfl : q = true := by rw [hq]; simpa using h1
      (repeat(first|refine sb ?_|refine gOn rfl ?_|refine gOff rfl rfl ?_|refine gTup rfl ?_))
      refine prefix_w.mono fun v s q => ?_
      obtain ⟨rfl, rfl⟩ := q
      (repeat(first|refine sb ?_|refine gOn rfl ?_|refine gOff rfl rfl ?_|refine gTup rfl ?_))
      intro q hq
      by_cases h2 : l.take 1 = [35]
      · obtain rfl : q = false := by rw [hq]; simpa using h2
        have hp : pnF l = false := by rw [hpn, h2]; simp
        have c1 : Chg s s [] := .refl _ _
        (repeat(first|refine sb ?_|refine gOn rfl ?_|refine gOff rfl rfl ?_|refine gTup rfl ?_))
        refine (newrp_w (Chg.fine (c1.nil (.new [])) f) ⟨Nat.lt_succ_self _, lkH⟩).mono fun v s2 q => ?_
        obtain ⟨p, m, rfl, hR, hp2, c3⟩ := q
        have c13 := (c1.nil (.new [])).nil c3
        (repeat(first|refine sb ?_|refine gOn rfl ?_|refine gOff rfl rfl ?_|refine gTup rfl ?_))
        refine (replace13_w (c13.fine f) hR (by omega)).mono fun v s3 q => ?_
        obtain ⟨rfl, c4⟩ := q
        have es := es_len l
        have nq := nqN_len l
        (repeat(first|refine sb ?_|refine gOn rfl ?_|refine gOff rfl rfl ?_|refine gTup rfl ?_))
        refine ⟨by simp only [List.length_append, List.length_cons, List.length_nil, es]; omega, ?_⟩
        intro w hw
        subst hw
        (repeat(first|refine sb ?_|refine gOn rfl ?_|refine gOff rfl rfl ?_|refine gTup rfl ?_))
        refine ⟨by simp only [List.length_append, List.length_cons, List.length_nil, es]; omega, ?_⟩
        intro w hw
        subst hw
        (repeat(first|refine sb ?_|refine gOn rfl ?_|refine gOff rfl rfl ?_|refine gTup rfl ?_))
        refine ⟨?_, c13.fresh c4 (by simp; have := c1.next; have : _ + 1 ≤ p := hp2; omega)⟩
        unfold qtF
        rw [if_neg (by rw [hp]; simp)]
        rfl
      · obtain rfl : q = true := by rw [hq]; simpa using h2
        (repeat(first|refine sb ?_|refine gOn rfl ?_|refine gOff rfl rfl ?_|refine gTup rfl ?_))
        refine (Trim_w (by omega)).mono fun v s1 q => ?_
        obtain ⟨rfl, c1⟩ := q
        rw [trimF_trB]
        (repeat(first|refine sb ?_|refine gOn rfl ?_|refine gOff rfl rfl ?_|refine gTup rfl ?_))
        intro q hq
        by_cases h3 : l = trB l
        · obtain rfl : q = true := by rw [hq]; exact decide_eq_true h3
          (repeat(first|refine sb ?_|refine gOn rfl ?_|refine gOff rfl rfl ?_|refine gTup rfl ?_))
          refine ⟨?_, c1⟩
          unfold qtF
          rw [hpn, ← h3]
          simp [h0, h1, h2]
          rfl
        · obtain rfl : q = false := by rw [hq]; exact decide_eq_false h3
          have hp : pnF l = false := by rw [hpn]; simp [h3]
          (repeat(first|refine sb ?_|refine gOn rfl ?_|refine gOff rfl rfl ?_|refine gTup rfl ?_))
          refine (newrp_w (Chg.fine (c1.nil (.new [])) f) ⟨Nat.lt_succ_self _, lkH⟩).mono fun v s2 q => ?_
          obtain ⟨p, m, rfl, hR, hp2, c3⟩ := q
          have c13 := (c1.nil (.new [])).nil c3
          (repeat(first|refine sb ?_|refine gOn rfl ?_|refine gOff rfl rfl ?_|refine gTup rfl ?_))
          refine (replace13_w (c13.fine f) hR (by omega)).mono fun v s3 q => ?_
          obtain ⟨rfl, c4⟩ := q
          have es := es_len l
          have nq := nqN_len l
          (repeat(first|refine sb ?_|refine gOn rfl ?_|refine gOff rfl rfl ?_|refine gTup rfl ?_))
          refine ⟨by simp only [List.length_append, List.length_cons, List.length_nil, es]; omega, ?_⟩
          intro w hw
          subst hw
          (repeat(first|refine sb ?_|refine gOn rfl ?_|refine gOff rfl rfl ?_|refine gTup rfl ?_))
          refine ⟨by simp only [List.length_append, List.length_cons, List.length_nil, es]; omega, ?_⟩
          intro w hw
          subst hw
          (repeat(first|refine sb ?_|refine gOn rfl ?_|refine gOff rfl rfl ?_|refine gTup rfl ?_))
          refine ⟨?_, c13.fresh c4 (by simp; have := c1.next; have : _ + 1 ≤ p := hp2; omega)⟩
          unfold qtF
          rw [if_neg (by rw [hp]; simp)]
          rfl
end Go.Vf.S
end
section
/- Blanks at a text's end. -/
namespace Go.Vf.S
open Go Go.Vf Go.Proofs Go.RowKit
attribute [local irreducible] wSeq wRow wp wG
set_option linter.unusedVariables false
set_option linter.unusedSimpArgs false
set_option maxRecDepth 10000

theorem TrimRight_w {s : SS} {l : List UInt8} (hl : l.length ≤ 1000000) : CallW pr n_strings_TrimRight [str l, .string ⟨#[32, 9]⟩] s fun v s' => v = str (dropR l) ∧ Chg s s' [] := by
  refine CallW.run good ok_strings_TrimRight (by simp) rfl ?_
  (try refine pSeq ?_); (repeat(first|refine sb ?_|refine gOn rfl ?_|refine gOff rfl rfl ?_|refine gTup rfl ?_))
  intro q hq
  by_cases h0 : l = []
  · subst h0
    obtain rfl : q = true := by rw [hq]; rfl
    (repeat(first|refine sb ?_|refine gOn rfl ?_|refine gOff rfl rfl ?_|refine gTup rfl ?_))
    exact ⟨rfl, .refl _ _⟩
  · obtain rfl : q = false := by rw [hq]; simp [h0]
    (repeat(first|refine sb ?_|refine gOn rfl ?_|refine gOff rfl rfl ?_|refine gTup rfl ?_))
    intro q hq
    obtain rfl : q = false := by rw [hq]; rfl
    (repeat(first|refine sb ?_|refine gOn rfl ?_|refine gOff rfl rfl ?_|refine gTup rfl ?_))
    intro n hn
    (repeat(first|refine sb ?_|refine gOn rfl ?_|refine gOff rfl rfl ?_|refine gTup rfl ?_))
    intro q hq
    obtain rfl : q = false := by rw [hq, hn]; rfl
    (repeat(first|refine sb ?_|refine gOn rfl ?_|refine gOff rfl rfl ?_|refine gTup rfl ?_))
    refine (makeSet_w (k := [32, 9]) (by simp) (by simp)).mono fun v s1 q => ?_
    obtain ⟨rfl, c1⟩ := q
    (repeat(first|refine sb ?_|refine gOn rfl ?_|refine gOff rfl rfl ?_|refine gTup rfl ?_))
    have n1 := c1.next
    refine st_abs (cs := tab fun _ => false) rfl rfl lkH (Nat.lt_succ_self _) (tab_all1 _) (tab_row _ _) fun s2 e2 c2 n2 => ?_
    (repeat(first|refine sb ?_|refine gOn rfl ?_|refine gOff rfl rfl ?_|refine gTup rfl ?_))
    refine (trimR_w hl e2).mono fun v s2 q => ?_
    obtain ⟨rfl, rfl⟩ := q
    (repeat(first|refine sb ?_|refine gOn rfl ?_|refine gOff rfl rfl ?_|refine gTup rfl ?_))
    exact ⟨rfl, (c1.nil (.new [])).fresh c2 (by simp; omega)⟩

end Go.Vf.S
end
section
/- Rows read part by part: what may stand in a text; a reader. -/
namespace Go.Vf.S
open Go Go.Vf Go.Proofs Go.RowKit
attribute [local irreducible] wSeq wRow wp wG
set_option linter.unusedVariables false
set_option linter.unusedSimpArgs false
set_option maxRecDepth 10000

abbrev fPr : Nat := n_lines_printable_1
theorem prune_w {s : SS} {x : Nat} (hx : x ≤ 1114111) : CallW pr fPr [.int .i32 (x : Int)] s fun v s' => v = .bool (decide ((x < 32 ∨ 126 < x) ∧ x ≠ 9)) ∧ s' = s := by
  refine CallW.run good ok_lines_printable_1 (by simp) rfl ?_
  (repeat' (first | refine pSeq ?_ | refine pReg ?_ | refine sRaw ?_ | refine sCons ?_ | refine sNil ?_ | refine rCons ?_ | refine rNil ?_ | refine kNo ?_ | refine pRow ?_ | refine pBlock ?_ | refine pSkip ?_ | refine pExit ?_ | refine pRet ?_ | refine pCond ?_ | refine gNone ?_ | refine gOn rfl ?_ | refine gOff rfl rfl ?_ | refine gTup rfl ?_ | (intro q hq; cases q <;> simp only [true_eq_decide_iff, false_eq_decide_iff, Bool.not_true, Bool.not_false, Bool.true_eq, Bool.false_eq, decide_eq_true_eq, decide_eq_false_iff_not, reduceCtorEq] at hq)))
  all_goals (refine ⟨bool_eq ?_, rfl⟩; rw [Bool.eq_iff_iff]; simp only [decide_eq_true_eq, true_iff, false_iff, reduceCtorEq]; omega)
theorem gen_pr {T : TL} {s : SS} {K : RR → Prop} {x a : Tmp} {ts : Array TypeId} {u : Value} (hx : look T x = some (fnV fPr)) (ha : look T a = some u) (hK : K (.call fPr [u])) : wN pr (.gen (.call ⟨.value (.tmp x), #[.tmp a], ts⟩)) T s K := by
  refine ⟨.call fPr [u], ?_, hK⟩
  simp only [aOp, operand, operands, toTr_get, hx, ha]
  exact (show callV pr (fnV fPr) [u] = some (.enter fPr ([] ++ [u] ++ [])) by kernel_rfl)
theorem tx_lo {c : UInt8} (h : c.toNat < 128) : txB c = !decide ((c.toNat < 32 ∨ 126 < c.toNat) ∧ c.toNat ≠ 9) := by
  unfold txB
  rw [Bool.eq_iff_iff]
  simp only [Bool.or_eq_true, beq_iff_eq, Bool.and_eq_true, decide_eq_true_eq, Bool.not_eq_true', decide_eq_false_iff_not, ← UInt8.toNat_inj]
  have : (9 : UInt8).toNat = 9 := rfl
  omega
theorem tx_hi {c : UInt8} (h : 128 ≤ c.toNat) : txB c = false := by
  unfold txB
  rw [Bool.eq_false_iff]
  simp only [Bool.or_eq_true, beq_iff_eq, Bool.and_eq_true, decide_eq_true_eq, ne_eq, ← UInt8.toNat_inj]
  have : (9 : UInt8).toNat = 9 := rfl
  omega
theorem ixf_w {s : SS} {l : List UInt8} : CallW pr n_strings_indexFunc [str l, fnV fPr, .bool true] s fun v s' => (∃ z : Int, v = .int .i64 z ∧ decide (0 ≤ z) = !(l.all txB)) ∧ Chg s s' [] := by
  refine CallW.run good ok_strings_indexFunc (by simp) rfl ?_
  (try refine pSeq ?_); (repeat refine sb ?_)
  refine srange_W rfl un_S rfl ?_
  (repeat refine sb ?_)
  refine pLoop (MW.head good (fun x : It => l.length - x.p) (fun x => At s s.next l x ∧ (l.take x.p).all txB = true) (fun x => [(1, fnV fPr), (2, .bool true), (10, .pointer (some ⟨s.next, 0, none⟩))]) (fun x => x.s) ⟨0, _⟩ ⟨.start s l, rfl⟩ (Wk.same ⟨rfl, rfl, rfl, trivial⟩) ?_)
  intro ⟨p, s1⟩ ⟨h1, h2⟩
  dsimp only at h1 h2 ⊢
  (repeat refine sb ?_)
  refine snext_L rfl rfl h1.2.2.2 (fun he => ?_) (fun c hc h7 => ?_) (fun c r w hc h7 hr hr2 _ hw _ => ?_)
  · (repeat refine sb ?_)
    refine ⟨⟨_, rfl, ?_⟩, h1.1⟩
    rw [List.take_of_length_le he] at h2
    rw [h2]
    rfl
  · (repeat refine sb ?_)
    refine gen_pr rfl rfl ?_
    (repeat refine sb ?_)
    refine (prune_w (by omega)).mono fun v s2 q => ?_
    obtain ⟨rfl, rfl⟩ := q
    have e : decide ((c.toNat < 32 ∨ 126 < c.toNat) ∧ c.toNat ≠ 9) = !(txB c) := by rw [tx_lo h7, Bool.not_not]
    (repeat refine sb ?_)
    intro q hq
    by_cases hp : txB c = true
    · obtain rfl : q = false := by
        rw [hq, e, hp]
        rfl
      (repeat refine sb ?_)
      exact ⟨⟨p + 1, _⟩, ⟨h1.go _, by rw [take_next hc]; simp [h2, hp]⟩, by have : p < l.length := lt_of_get hc; show l.length - (p + 1) < l.length - p; omega, Wk.same ⟨rfl, rfl, rfl, trivial⟩⟩
    · obtain rfl : q = true := by
        rw [hq, e, show txB c = false by simpa using hp]
        rfl
      (repeat refine sb ?_)
      refine ⟨⟨_, rfl, ?_⟩, (h1.go _).1⟩
      rw [all_no hc (by simpa using hp)]
      exact decide_eq_true (Int.natCast_nonneg p)
  · (repeat refine sb ?_)
    refine gen_pr rfl rfl ?_
    (repeat refine sb ?_)
    refine (prune_w (by omega)).mono fun v s2 q => ?_
    obtain ⟨rfl, rfl⟩ := q
    (repeat refine sb ?_)
    intro q hq
    obtain rfl : q = true := by
      rw [hq, show decide ((r < 32 ∨ 126 < r) ∧ r ≠ 9) = true from decide_eq_true ⟨by omega, by omega⟩]
      rfl
    (repeat refine sb ?_)
    refine ⟨⟨_, rfl, ?_⟩, (h1.go _).1⟩
    rw [all_no hc (tx_hi h7)]
    exact decide_eq_true (Int.natCast_nonneg p)
theorem printable_w {s : SS} {l : List UInt8} : CallW pr n_lines_printable [str l] s fun v s' => v = .bool (l.all txB) ∧ Chg s s' [] := by
  refine CallW.run good ok_lines_printable (by simp) rfl ?_
  (try refine pSeq ?_); (repeat refine sb ?_)
  refine (show CallW pr n_strings_ContainsFunc [str l, fnV fPr] s fun v s' => v = .bool (!(l.all txB)) ∧ Chg s s' [] from ?_).mono fun v s1 q => ?_
  · refine CallW.run good ok_strings_ContainsFunc (by simp) rfl ?_
    (try refine pSeq ?_); (repeat refine sb ?_)
    refine (show CallW pr n_strings_IndexFunc [str l, fnV fPr] s fun v s' => (∃ z : Int, v = .int .i64 z ∧ decide (0 ≤ z) = !(l.all txB)) ∧ Chg s s' [] from ?_).mono fun v s1 q => ?_
    · refine CallW.run good ok_strings_IndexFunc (by simp) rfl ?_
      (try refine pSeq ?_); (repeat refine sb ?_)
      refine ixf_w.mono fun v s1 q => ?_
      obtain ⟨⟨z, rfl, hz⟩, c1⟩ := q
      (repeat refine sb ?_)
      exact ⟨⟨z, rfl, hz⟩, c1⟩
    · obtain ⟨⟨z, rfl, hz⟩, c1⟩ := q
      (repeat refine sb ?_)
      intro q hq
      (repeat refine sb ?_)
      exact ⟨by rw [hq, hz]; rfl, c1⟩
  · obtain ⟨rfl, c1⟩ := q
    (repeat refine sb ?_)
    intro q hq
    (repeat refine sb ?_)
    exact ⟨by rw [hq, Bool.not_not]; rfl, c1⟩
end Go.Vf.S
end
