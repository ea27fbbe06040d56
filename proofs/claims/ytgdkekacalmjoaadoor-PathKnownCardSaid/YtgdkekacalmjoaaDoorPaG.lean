import Derived.Test.YtgdkekacalmjoaaDoorPaF
import Derived.Test.YtgdkekacalmjoaaDoorAdG
/- Paths: routes. -/
namespace Go.Vf.S
open Go Go.Vf
attribute [local irreducible] wSeq wRow wp wG
set_option linter.unusedVariables false
set_option linter.unusedSimpArgs false
set_option maxRecDepth 10000

theorem parse_x (l : List UInt8) : (parseF (120 :: 64 :: l)).2.2 = domF l := by
  have h1 : cutF 64 (120 :: 64 :: l) = ([120], l, true) := by
    unfold cutF
    rw [if_pos (by simp)]
    rfl
  have h2 : partsF (120 :: 64 :: l) = ([120], l, true) := by
    unfold partsF
    rw [if_neg (by simp), h1]
    have : dotF [120] = true := by decide +kernel
    simp [this]
  unfold parseF
  rw [h2]
  by_cases hd : domF l = 0
  · simp [hd]
  · simp [hd]

theorem pdomErr_w {s : SS} {l : List UInt8} (hG : Gb s) (hl : l.length ≤ 900000) : CallW pr n_path_domainError [str l] s fun v s' => v = .int .i64 (domF l) ∧ Chg s s' [] := by
  refine CallW.run good ok_path_domainError (by simp) rfl ?_
  (repeat(first|refine pSeq ?_|refine pReg ?_|refine sCons ?_|refine sNil ?_|refine pRet ?_|refine gNone ?_))
  refine ⟨by simp; omega, ?_⟩
  intro w hw
  subst hw
  (repeat(first|refine pSeq ?_|refine pReg ?_|refine sCons ?_|refine sNil ?_|refine pRet ?_|refine gNone ?_))
  refine (parse_w hG (by simp; omega)).mono fun v s1 q => ?_
  obtain ⟨rfl, c1⟩ := q
  have e : (parseF ([120, 64] ++ l)).2.2 = domF l := parse_x l
  generalize parseF ([120, 64] ++ l) = Q at *
  obtain ⟨a, d, f⟩ := Q
  dsimp only at e ⊢
  subst e
  (repeat(first|refine pSeq ?_|refine pReg ?_|refine sCons ?_|refine sNil ?_|refine pRet ?_|refine gNone ?_))
  refine st_abs (cs' := [str a, str d]) rfl rfl lkH (Nat.lt_succ_self _) rfl rfl fun s2 e2 c2 n2 => ?_
  (repeat(first|refine pSeq ?_|refine pReg ?_|refine sCons ?_|refine sNil ?_|refine pRet ?_|refine gNone ?_))
  exact ⟨rfl, c1.fresh ((Chg.new []).fresh c2 (by simp)) (by simp)⟩

/-- A route's domains, told of its parts; nothing: it is none. -/
def goR : List (List UInt8) → Nat → List (List UInt8) → Option (List (List UInt8) × Nat)
  | done, w, [] => some (done, w)
  | done, w, x :: r => if x.take 1 ≠ [64] ∨ domF (atRest x) = 5 then none else goR (done ++ [atRest x]) (if domF (atRest x) = 3 ∨ 8 < done.length + 1 then 3 else w) r
def routeF (l : List UInt8) : List (List UInt8) × List UInt8 × Nat :=
  if l.take 1 ≠ [64] then ([], l, 0) else if (cutF 58 l).2.2 = false then ([], [], 5) else
    match goR [] 0 (splitF 44 (cutF 58 l).1) with
    | none => ([], [], 5)
    | some (d, w) => (d, (cutF 58 l).2.1, w)

/-- A row of texts that was put together here. -/
def RowAt6 (s : SS) (W : Option Addr) (cw : Nat) (d : List (List UInt8)) : Prop := OwnR tS s W cw d.length (strV d) ∧ (W = none ↔ d = [])

structure RtIt where
  j : Nat
  done : List (List UInt8)
  w : Nat
  W : Option Addr
  cw : Nat
  s : SS

theorem own_none {s : SS} : OwnR tS s none 0 0 (strV []) := ⟨rfl, rfl, rfl⟩

set_option maxHeartbeats 1000000 in
theorem cutRoute_w {s : SS} {l : List UInt8} (hG : Gb s) (hl : l.length ≤ 800000) : CallW pr n_path_cutRoute [str l] s fun v s' => ∃ W cw, v = .tuple ⟨[.slice W (routeF l).1.length cw, str (routeF l).2.1, .int .i64 (routeF l).2.2]⟩ ∧ RowAt6 s' W cw (routeF l).1 ∧ Chg s s' [] ∧ ∀ id ∈ blkOf W, s.next ≤ id := by
  have eF : routeF l = if l.take 1 ≠ [64] then ([], l, 0) else if (cutF 58 l).2.2 = false then ([], [], 5) else
    match goR [] 0 (splitF 44 (cutF 58 l).1) with
    | none => ([], [], 5)
    | some (d, w) => (d, (cutF 58 l).2.1, w) := rfl
  refine CallW.run good ok_path_cutRoute (by simp) rfl ?_
  (repeat(first|refine pSeq ?_|refine pReg ?_|refine sCons ?_|refine sNil ?_|refine pBlock ?_|refine pSkip ?_|refine pExit ?_|refine pRet ?_|refine pCond ?_|refine gNone ?_|refine gOn rfl ?_|refine gOff rfl rfl ?_|refine gTup rfl ?_))
  refine prefix_w.mono fun v s q => ?_
  obtain ⟨rfl, rfl⟩ := q
  have e1 : l.take [(64 : UInt8)].length = l.take 1 := rfl
  rw [e1]
  by_cases h64 : l.take 1 = [64]
  · rw [decide_eq_true h64]
    rw [if_neg (by simpa using h64)] at eF
    have hcl := cut_len 58 l
    (repeat(first|refine pSeq ?_|refine pReg ?_|refine sCons ?_|refine sNil ?_|refine pBlock ?_|refine pSkip ?_|refine pExit ?_|refine pRet ?_|refine pCond ?_|refine gNone ?_|refine gOn rfl ?_|refine gOff rfl rfl ?_|refine gTup rfl ?_))
    intro q hq
    obtain rfl : q = false := hq
    (repeat(first|refine pSeq ?_|refine pReg ?_|refine sCons ?_|refine sNil ?_|refine pBlock ?_|refine pSkip ?_|refine pExit ?_|refine pRet ?_|refine pCond ?_|refine gNone ?_|refine gOn rfl ?_|refine gOff rfl rfl ?_|refine gTup rfl ?_))
    refine (cut1_w (c := 58) (by omega)).mono fun v s q => ?_
    obtain ⟨rfl, rfl⟩ := q
    generalize cutF 58 l = C at *
    obtain ⟨ahead, rest, ended⟩ := C
    dsimp only at hcl eF ⊢
    cases ended with
    | false =>
      rw [if_pos rfl] at eF
      rw [eF]
      (repeat(first|refine pSeq ?_|refine pReg ?_|refine sCons ?_|refine sNil ?_|refine pBlock ?_|refine pSkip ?_|refine pExit ?_|refine pRet ?_|refine pCond ?_|refine gNone ?_|refine gOn rfl ?_|refine gOff rfl rfl ?_|refine gTup rfl ?_))
      intro q hq
      obtain rfl : q = true := hq
      (repeat(first|refine pSeq ?_|refine pReg ?_|refine sCons ?_|refine sNil ?_|refine pBlock ?_|refine pSkip ?_|refine pExit ?_|refine pRet ?_|refine pCond ?_|refine gNone ?_|refine gOn rfl ?_|refine gOff rfl rfl ?_|refine gTup rfl ?_))
      exact ⟨none, 0, rfl, ⟨own_none, by simp⟩, .refl _ _, by simp [blkOf]⟩
    | true =>
      rw [if_neg (by simp)] at eF
      have hcount : (splitF 44 ahead).length ≤ 800001 := by rw [split_len]; have := @List.count_le_length _ _ 44 ahead; omega
      have hparts : ∀ p ∈ splitF 44 ahead, p.length ≤ 800000 := fun p hp => by have := part_any hp; omega
      (repeat(first|refine pSeq ?_|refine pReg ?_|refine sCons ?_|refine sNil ?_|refine pBlock ?_|refine pSkip ?_|refine pExit ?_|refine pRet ?_|refine pCond ?_|refine gNone ?_|refine gOn rfl ?_|refine gOff rfl rfl ?_|refine gTup rfl ?_))
      intro q hq
      obtain rfl : q = false := hq
      (repeat(first|refine pSeq ?_|refine pReg ?_|refine sCons ?_|refine sNil ?_|refine pBlock ?_|refine pSkip ?_|refine pExit ?_|refine pRet ?_|refine pCond ?_|refine gNone ?_|refine gOn rfl ?_|refine gOff rfl rfl ?_|refine gTup rfl ?_))
      refine (Split_w (c := 44) (l := ahead) (by omega)).mono fun v s1 q => ?_
      obtain ⟨base, cap, rfl, st1, c1, hB, hcap⟩ := q
      generalize splitF 44 ahead = ls at *
      obtain ⟨b, cs, t, g, r, rfl, hlt1, hb1, hcs⟩ := st1
      have n1 := c1.next
      have hb := hB b (by simp [blkOf])
      (repeat(first|refine pSeq ?_|refine pReg ?_|refine sCons ?_|refine sNil ?_|refine pBlock ?_|refine pSkip ?_|refine pExit ?_|refine pRet ?_|refine pCond ?_|refine gNone ?_|refine gOn rfl ?_|refine gOff rfl rfl ?_|refine gTup rfl ?_))
      refine pLoop (MW.head good (fun x : RtIt => ls.length - x.j) (fun x => goR [] 0 ls = goR x.done x.w (ls.drop x.j) ∧ x.j ≤ ls.length ∧ x.done.length = x.j ∧ Chg s1 x.s [] ∧ RowAt6 x.s x.W x.cw x.done ∧ ∀ i ∈ blkOf x.W, s1.next ≤ i)
        (fun x => [(2, .slice x.W x.done.length x.cw), (3, str rest), (4, .int .i64 x.w), (25, .slice (some ⟨b, 0, none⟩) ls.length cap), (26, .int .i64 (ls.length : Nat)), (27, .int .i64 x.j)]) (fun x => x.s)
        ⟨0, [], 0, none, 0, s1⟩ ⟨by simp, Nat.zero_le _, rfl, .refl _ _, ⟨own_none, by simp⟩, by simp [blkOf]⟩ (Wk.same ⟨rfl, rfl, rfl, rfl, rfl, rfl, trivial⟩) ?_)
      intro ⟨j, done, w, W, cw, s2⟩ ⟨i1, i2, i3, c12, o2, hW⟩
      dsimp only at i1 i2 i3 c12 o2 hW ⊢
      (repeat(first|refine pSeq ?_|refine pReg ?_|refine sCons ?_|refine sNil ?_|refine pBlock ?_|refine pSkip ?_|refine pExit ?_|refine pRet ?_|refine pCond ?_|refine gNone ?_|refine gOn rfl ?_|refine gOff rfl rfl ?_|refine gTup rfl ?_))
      intro q hq
      by_cases hj : j < ls.length
      · obtain rfl : q = true := by rw [hq]; simp <;> omega
        obtain ⟨x, hx⟩ : ∃ x, ls[j]? = some x := ⟨_, List.getElem?_eq_getElem hj⟩
        have hxl : x.length ≤ 800000 := hparts x (List.mem_of_getElem? hx)
        rw [drop_next hx, goR] at i1
        (repeat(first|refine pSeq ?_|refine pReg ?_|refine sCons ?_|refine sNil ?_|refine pBlock ?_|refine pSkip ?_|refine pExit ?_|refine pRet ?_|refine pCond ?_|refine gNone ?_|refine gOn rfl ?_|refine gOff rfl rfl ?_|refine gTup rfl ?_))
        refine ⟨by omega, ?_⟩
        intro m hm o ho
        obtain rfl : m = j := by omega
        obtain rfl : o = m := by omega
        (repeat(first|refine pSeq ?_|refine pReg ?_|refine sCons ?_|refine sNil ?_|refine pBlock ?_|refine pSkip ?_|refine pExit ?_|refine pRet ?_|refine pCond ?_|refine gNone ?_|refine gOn rfl ?_|refine gOff rfl rfl ?_|refine gTup rfl ?_))
        refine ldS_is rfl (c12.blk _ _ hlt1 (by simp) hb1) (hcs o x hx) ?_
        (repeat(first|refine pSeq ?_|refine pReg ?_|refine sCons ?_|refine sNil ?_|refine pBlock ?_|refine pSkip ?_|refine pExit ?_|refine pRet ?_|refine pCond ?_|refine gNone ?_|refine gOn rfl ?_|refine gOff rfl rfl ?_|refine gTup rfl ?_))
        refine cutP_w.mono fun v s2 q => ?_
        obtain ⟨rfl, rfl⟩ := q
        have e2 : (if x.take [(64 : UInt8)].length = [64] then x.drop [(64 : UInt8)].length else x) = atRest x := rfl
        have e3 : x.take [(64 : UInt8)].length = x.take 1 := rfl
        rw [e2, e3]
        have hal : (atRest x).length ≤ 800000 := by unfold atRest; split <;> (try rw [List.length_drop]) <;> omega
        (repeat(first|refine pSeq ?_|refine pReg ?_|refine sCons ?_|refine sNil ?_|refine pBlock ?_|refine pSkip ?_|refine pExit ?_|refine pRet ?_|refine pCond ?_|refine gNone ?_|refine gOn rfl ?_|refine gOff rfl rfl ?_|refine gTup rfl ?_))
        refine (pdomErr_w ((hG.chg c1 (by simp)).chg c12 (by simp)) (by omega)).mono fun v s3 q => ?_
        obtain ⟨rfl, c23⟩ := q
        have hd := dom_vals (atRest x)
        generalize domF (atRest x) = e at *
        generalize atRest x = y at *
        have c13 : Chg s1 s3 [] := c12.nil c23
        have o3 := o2.1.chg c23 (by simp)
        have n3 := c13.next
        by_cases h1 : x.take 1 = [64]
        · rw [decide_eq_true h1]
          (repeat(first|refine pSeq ?_|refine pReg ?_|refine sCons ?_|refine sNil ?_|refine pBlock ?_|refine pSkip ?_|refine pExit ?_|refine pRet ?_|refine pCond ?_|refine gNone ?_|refine gOn rfl ?_|refine gOff rfl rfl ?_|refine gTup rfl ?_))
          intro q hq
          obtain rfl : q = false := hq
          (repeat(first|refine pSeq ?_|refine pReg ?_|refine sCons ?_|refine sNil ?_|refine pBlock ?_|refine pSkip ?_|refine pExit ?_|refine pRet ?_|refine pCond ?_|refine gNone ?_|refine gOn rfl ?_|refine gOff rfl rfl ?_|refine gTup rfl ?_))
          intro q hq
          by_cases h5 : e = 5
          · obtain rfl : q = true := by rw [hq, h5]; rfl
            rw [if_pos (.inr h5)] at i1
            rw [i1] at eF
            simp only at eF
            rw [eF]
            (repeat(first|refine pSeq ?_|refine pReg ?_|refine sCons ?_|refine sNil ?_|refine pBlock ?_|refine pSkip ?_|refine pExit ?_|refine pRet ?_|refine pCond ?_|refine gNone ?_|refine gOn rfl ?_|refine gOff rfl rfl ?_|refine gTup rfl ?_))
            (repeat (first | with_reducible refine sqRet ?_ | with_reducible refine bkRet ?_ | with_reducible refine hdRet ?_))
            exact ⟨none, 0, rfl, ⟨own_none, by simp⟩, c1.nil c13, by simp [blkOf]⟩
          · obtain rfl : q = false := by rw [hq]; simp; omega
            rw [if_neg (by simp [h1, h5])] at i1
            (repeat(first|refine pSeq ?_|refine pReg ?_|refine sCons ?_|refine sNil ?_|refine pBlock ?_|refine pSkip ?_|refine pExit ?_|refine pRet ?_|refine pCond ?_|refine gNone ?_|refine gOn rfl ?_|refine gOff rfl rfl ?_|refine gTup rfl ?_))
            refine appR (h := OwnR.chg (c := Chg.new []) o3 (by simp)) (size := 1) (by rw [strV_len, Nat.mul_one]) (by omega) rfl rfl lkH rfl rfl fun s4 o4 c34 n4 => ?_
            have c14 : Chg s1 s4 [] := c13.fresh ((Chg.new []).nil c34) hW
            have hlen : (done ++ [y]).length = done.length + 1 := by simp
            have o4' : RowAt6 s4 (some ⟨s3.next + 1, 0, none⟩) 0 (done ++ [y]) := by
              refine ⟨?_, by simp⟩
              rw [hlen]
              simp only [strV, List.map_append]
              exact o4
            (repeat(first|refine pSeq ?_|refine pReg ?_|refine sCons ?_|refine sNil ?_|refine pBlock ?_|refine pSkip ?_|refine pExit ?_|refine pRet ?_|refine pCond ?_|refine gNone ?_|refine gOn rfl ?_|refine gOff rfl rfl ?_|refine gTup rfl ?_))
            intro q hq
            by_cases h3 : e = 3
            · obtain rfl : q = true := by rw [hq, h3]; rfl
              rw [if_pos (.inl h3)] at i1
              (repeat(first|refine pSeq ?_|refine pReg ?_|refine sCons ?_|refine sNil ?_|refine pBlock ?_|refine pSkip ?_|refine pExit ?_|refine pRet ?_|refine pCond ?_|refine gNone ?_|refine gOn rfl ?_|refine gOff rfl rfl ?_|refine gTup rfl ?_))
              intro z hz
              rw [i64_id (by omega)] at hz
              obtain rfl : z = ((o + 1 : Nat) : Int) := by omega
              (repeat(first|refine pSeq ?_|refine pReg ?_|refine sCons ?_|refine sNil ?_|refine pBlock ?_|refine pSkip ?_|refine pExit ?_|refine pRet ?_|refine pCond ?_|refine gNone ?_|refine gOn rfl ?_|refine gOff rfl rfl ?_|refine gTup rfl ?_))
              exact ⟨⟨o + 1, done ++ [y], 3, some ⟨s3.next + 1, 0, none⟩, 0, s4⟩, ⟨i1, (by show o + 1 ≤ ls.length; omega), (by show (done ++ [y]).length = o + 1; omega), c14, o4', by intro i hi; simp only [blkOf, List.mem_singleton] at hi; omega⟩, (by show ls.length - (o + 1) < ls.length - o; omega), Wk.same ⟨by rw [hlen]; rfl, rfl, rfl, rfl, rfl, rfl, trivial⟩⟩
            · obtain rfl : q = false := by rw [hq]; simp; omega
              (repeat(first|refine pSeq ?_|refine pReg ?_|refine sCons ?_|refine sNil ?_|refine pBlock ?_|refine pSkip ?_|refine pExit ?_|refine pRet ?_|refine pCond ?_|refine gNone ?_|refine gOn rfl ?_|refine gOff rfl rfl ?_|refine gTup rfl ?_))
              intro q hq
              by_cases h8 : 8 < done.length + 1
              · obtain rfl : q = true := by rw [hq]; simp <;> omega
                rw [if_pos (.inr h8)] at i1
                (repeat(first|refine pSeq ?_|refine pReg ?_|refine sCons ?_|refine sNil ?_|refine pBlock ?_|refine pSkip ?_|refine pExit ?_|refine pRet ?_|refine pCond ?_|refine gNone ?_|refine gOn rfl ?_|refine gOff rfl rfl ?_|refine gTup rfl ?_))
                intro z hz
                rw [i64_id (by omega)] at hz
                obtain rfl : z = ((o + 1 : Nat) : Int) := by omega
                (repeat(first|refine pSeq ?_|refine pReg ?_|refine sCons ?_|refine sNil ?_|refine pBlock ?_|refine pSkip ?_|refine pExit ?_|refine pRet ?_|refine pCond ?_|refine gNone ?_|refine gOn rfl ?_|refine gOff rfl rfl ?_|refine gTup rfl ?_))
                exact ⟨⟨o + 1, done ++ [y], 3, some ⟨s3.next + 1, 0, none⟩, 0, s4⟩, ⟨i1, (by show o + 1 ≤ ls.length; omega), (by show (done ++ [y]).length = o + 1; omega), c14, o4', by intro i hi; simp only [blkOf, List.mem_singleton] at hi; omega⟩, (by show ls.length - (o + 1) < ls.length - o; omega), Wk.same ⟨by rw [hlen]; rfl, rfl, rfl, rfl, rfl, rfl, trivial⟩⟩
              · obtain rfl : q = false := by rw [hq]; simp <;> omega
                rw [if_neg (by simp [h3]; omega)] at i1
                (repeat(first|refine pSeq ?_|refine pReg ?_|refine sCons ?_|refine sNil ?_|refine pBlock ?_|refine pSkip ?_|refine pExit ?_|refine pRet ?_|refine pCond ?_|refine gNone ?_|refine gOn rfl ?_|refine gOff rfl rfl ?_|refine gTup rfl ?_))
                intro z hz
                rw [i64_id (by omega)] at hz
                obtain rfl : z = ((o + 1 : Nat) : Int) := by omega
                (repeat(first|refine pSeq ?_|refine pReg ?_|refine sCons ?_|refine sNil ?_|refine pBlock ?_|refine pSkip ?_|refine pExit ?_|refine pRet ?_|refine pCond ?_|refine gNone ?_|refine gOn rfl ?_|refine gOff rfl rfl ?_|refine gTup rfl ?_))
                exact ⟨⟨o + 1, done ++ [y], w, some ⟨s3.next + 1, 0, none⟩, 0, s4⟩, ⟨i1, (by show o + 1 ≤ ls.length; omega), (by show (done ++ [y]).length = o + 1; omega), c14, o4', by intro i hi; simp only [blkOf, List.mem_singleton] at hi; omega⟩, (by show ls.length - (o + 1) < ls.length - o; omega), Wk.same ⟨by rw [hlen]; rfl, rfl, rfl, rfl, rfl, rfl, trivial⟩⟩
        · rw [decide_eq_false h1]
          (repeat(first|refine pSeq ?_|refine pReg ?_|refine sCons ?_|refine sNil ?_|refine pBlock ?_|refine pSkip ?_|refine pExit ?_|refine pRet ?_|refine pCond ?_|refine gNone ?_|refine gOn rfl ?_|refine gOff rfl rfl ?_|refine gTup rfl ?_))
          intro q hq
          obtain rfl : q = true := hq
          (repeat(first|refine pSeq ?_|refine pReg ?_|refine sCons ?_|refine sNil ?_|refine pBlock ?_|refine pSkip ?_|refine pExit ?_|refine pRet ?_|refine pCond ?_|refine gNone ?_|refine gOn rfl ?_|refine gOff rfl rfl ?_|refine gTup rfl ?_))
          rw [if_pos (.inl h1)] at i1
          rw [i1] at eF
          simp only at eF
          rw [eF]
          (repeat(first|refine pSeq ?_|refine pReg ?_|refine sCons ?_|refine sNil ?_|refine pBlock ?_|refine pSkip ?_|refine pExit ?_|refine pRet ?_|refine pCond ?_|refine gNone ?_|refine gOn rfl ?_|refine gOff rfl rfl ?_|refine gTup rfl ?_))
          (repeat (first | with_reducible refine sqRet ?_ | with_reducible refine bkRet ?_ | with_reducible refine hdRet ?_))
          exact ⟨none, 0, rfl, ⟨own_none, by simp⟩, c1.nil c13, by simp [blkOf]⟩
      · obtain rfl : q = false := by rw [hq]; simp <;> omega
        rw [List.drop_of_length_le (by omega), goR] at i1
        rw [i1] at eF
        simp only at eF
        rw [eF]
        (repeat(first|refine pSeq ?_|refine pReg ?_|refine sCons ?_|refine sNil ?_|refine pBlock ?_|refine pSkip ?_|refine pExit ?_|refine pRet ?_|refine pCond ?_|refine gNone ?_|refine gOn rfl ?_|refine gOff rfl rfl ?_|refine gTup rfl ?_))
        exact ⟨W, cw, rfl, o2, c1.nil c12, fun id hid => Nat.le_trans n1 (hW id hid)⟩
  · rw [decide_eq_false h64]
    rw [if_pos h64] at eF
    rw [eF]
    (repeat(first|refine pSeq ?_|refine pReg ?_|refine sCons ?_|refine sNil ?_|refine pBlock ?_|refine pSkip ?_|refine pExit ?_|refine pRet ?_|refine pCond ?_|refine gNone ?_|refine gOn rfl ?_|refine gOff rfl rfl ?_|refine gTup rfl ?_))
    intro q hq
    obtain rfl : q = true := hq
    (repeat(first|refine pSeq ?_|refine pReg ?_|refine sCons ?_|refine sNil ?_|refine pBlock ?_|refine pSkip ?_|refine pExit ?_|refine pRet ?_|refine pCond ?_|refine gNone ?_|refine gOn rfl ?_|refine gOff rfl rfl ?_|refine gTup rfl ?_))
    exact ⟨none, 0, rfl, ⟨own_none, by simp⟩, .refl _ _, by simp [blkOf]⟩
end Go.Vf.S
