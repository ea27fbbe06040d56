import Derived.Test.YthhcngkblihliaaDoorHdLe
import Derived.Test.YthhcngkblihliaaDoorHdLd
import Derived.Test.YthhcngkblihliaaDoorFnMD
/- A message's text that is made: its body. -/
namespace Go.Vf.S
open Go Go.Vf Go.Proofs Go.RowKit
attribute [local irreducible] wSeq wRow wp wG
set_option linter.unusedVariables false
set_option linter.unusedSimpArgs false
set_option maxRecDepth 10000

def bsF (body : List UInt8) : List (List UInt8) := (aftF 120 (body.take 800)).map fun p => p.map plainC
theorem plain_ok (c : UInt8) : okB (plainC c) = true ∧ plainC c ≠ 9 := by
  have h := plainC_nat c
  have := Nat.mod_lt c.toNat (show 0 < 95 by omega)
  refine ⟨?_, fun e => ?_⟩
  · unfold okB
    exact decide_eq_true (by omega)
  · rw [e] at h
    have : (9 : UInt8).toNat = 9 := rfl
    omega
theorem plain_all (l : List UInt8) : (l.map plainC).all okB = true := by
  rw [List.all_eq_true]
  intro c hc
  obtain ⟨d, -, rfl⟩ := List.mem_map.1 hc
  exact (plain_ok d).1
theorem plain_9 (l : List UInt8) : (9 : UInt8) ∉ l.map plainC := fun h => by
  obtain ⟨d, -, e⟩ := List.mem_map.1 h
  exact (plain_ok d).2 e
theorem okl_bs (body : List UInt8) : Okl (bsF body) := fun a ha => by
  obtain ⟨p, -, rfl⟩ := List.mem_map.1 ha
  exact plain_all p
theorem parts_len (P : List (List UInt8)) (i : Nat) : (jn ((P.take i).map fun p => p.map plainC)).length ≤ P.flatten.length + 2 * P.length := by
  have h1 := jn_len ((P.take i).map fun p => p.map plainC)
  have h2 : ((P.take i).map fun p => p.map plainC).flatten.length = (P.take i).flatten.length := by
    rw [← List.map_flatten, List.length_map]
  have h3 := congrArg (fun x => x.flatten.length) (List.take_append_drop i P)
  simp only [List.flatten_append, List.length_append] at h3
  rw [List.length_map, List.length_take] at h1
  omega
theorem bs_len (body : List UInt8) : (jn (bsF body)).length ≤ 2402 := by
  have h := parts_len (aftF 120 (body.take 800)) (aftF 120 (body.take 800)).length
  rw [List.take_length, aft_flat, aft_len] at h
  have h2 : (body.take 800).count 120 ≤ (body.take 800).length := List.count_le_length
  have h3 : (body.take 800).length ≤ 800 := by rw [List.length_take]; omega
  unfold bsF
  omega

structure TlI where
  i : Nat
  W : Option Addr
  s : SS
structure ByI where
  i : Nat
  s : SS

set_option maxHeartbeats 4000000 in
theorem made_tail {s : SS} {k b cv n : Nat} {Wa V : Option Addr} {L : List (List UInt8)} {body : List UInt8} {ea : Bool} {cs : List Value} {K : Value → SS → Prop} (hB : Bld s b Wa (jn L)) (hV : OwnR tS s V cv n cs) (hl : (jn L).length ≤ 100000)
    (hK : ∀ s', OwnR tS s' V cv n cs → Chg s s' (b :: blkOf Wa) → K (.tuple ⟨[str (jn (L ++ if ea = true then [] else [] :: bsF body)), .slice V n cv]⟩) s') :
    W pr 151 k code_MD_TL [(1, str body), (2, .bool ea), (8, .pointer (some ⟨b, 0, none⟩)), (9, .slice V n cv)] s (runQ pr [.tmp 6, .tmp 7] K) := by
  have hoff : ∀ (s1 : SS) (W1 : Option Addr) (l1 : List UInt8), Bld s1 b W1 l1 → OwnR tS s1 V cv n cs → ∀ id ∈ blkOf V, id ∉ b :: blkOf W1 := by
    intro s1 W1 l1 h1 h2 id hid q
    obtain ⟨g, hg⟩ := h2.at id hid
    rcases List.mem_cons.1 q with rfl | q
    · obtain ⟨p, h3, -⟩ := h1.cell
      exact tyNe hg h3 (by decide) rfl
    · have ho := h1.own
      cases W1 with
      | none => simp [blkOf] at q
      | some a =>
        obtain ⟨g', off, sp⟩ := a
        obtain ⟨-, -, -, gr, h4, -⟩ := ho
        simp only [blkOf, List.mem_singleton] at q
        subst q
        exact tyNe hg h4 (by decide) rfl
  refine comp_ok good ok_MD_TL (Box.out (p := wp pr 151 k _ _ _ _) ?_)
  (repeat(first|refine pSeq ?_|refine pReg ?_|refine sCons ?_|refine sNil ?_|refine pBlock ?_|refine pSkip ?_|refine pExit ?_|refine pRet ?_|refine pCond ?_|refine gNone ?_))
  cases ea with
  | true =>
    obtain ⟨R, hR⟩ : ∃ R, R = jn L := ⟨_, rfl⟩
    have e : jn (L ++ if true = true then [] else [] :: bsF body) = R := by rw [hR]; simp
    rw [← hR] at hB hl
    rw [e] at hK
    (repeat(first|refine pSeq ?_|refine pReg ?_|refine sCons ?_|refine sNil ?_|refine pBlock ?_|refine pSkip ?_|refine pExit ?_|refine pRet ?_|refine pCond ?_|refine gNone ?_))
    refine (bString_w hB (by omega)).mono fun u s1 q => ?_
    obtain ⟨rfl, c1, n1⟩ := q
    (repeat(first|refine pSeq ?_|refine pReg ?_|refine sCons ?_|refine sNil ?_|refine pBlock ?_|refine pSkip ?_|refine pExit ?_|refine pRet ?_|refine pCond ?_|refine gNone ?_))
    exact hK _ (hV.chg c1 (fun id hid q => hoff _ _ _ hB hV id hid (by simp [q]))) (c1.sub (fun id q _ => by simp [q]))
  | false =>
    (repeat(first|refine pSeq ?_|refine pReg ?_|refine sCons ?_|refine sNil ?_|refine pBlock ?_|refine pSkip ?_|refine pExit ?_|refine pRet ?_|refine pCond ?_|refine gNone ?_))
    refine (bWrite_w (m := [13, 10]) hB (by simp; omega)).mono fun u s1 q => ?_
    obtain ⟨W1, rfl, b1, c1, w1⟩ := q
    have v1 := hV.chg c1 (fun id hid q => hoff _ _ _ hB hV id hid q)
    (repeat(first|refine pSeq ?_|refine pReg ?_|refine sCons ?_|refine sNil ?_|refine pBlock ?_|refine pSkip ?_|refine pExit ?_|refine pRet ?_|refine pCond ?_|refine gNone ?_))
    intro z hz
    (repeat(first|refine pSeq ?_|refine pReg ?_|refine sCons ?_|refine sNil ?_|refine pBlock ?_|refine pSkip ?_|refine pExit ?_|refine pRet ?_|refine pCond ?_|refine gNone ?_))
    intro z2 hz2
    (repeat(first|refine pSeq ?_|refine pReg ?_|refine sCons ?_|refine sNil ?_|refine pBlock ?_|refine pSkip ?_|refine pExit ?_|refine pRet ?_|refine pCond ?_|refine gNone ?_))
    refine ⟨by omega, ?_⟩
    intro m hm g hg
    have eg : g = body.take 800 := take_min hg hz hz2 hm
    clear hg hm hz hz2
    subst eg
    have hbl : (body.take 800).length ≤ 800 := by rw [List.length_take]; omega
    (repeat(first|refine pSeq ?_|refine pReg ?_|refine sCons ?_|refine sNil ?_|refine pBlock ?_|refine pSkip ?_|refine pExit ?_|refine pRet ?_|refine pCond ?_|refine gNone ?_))
    refine (splitAfter_w (l := body.take 800) (c := 120) (by omega)).mono fun u s2 q => ?_
    obtain ⟨base, cap, rfl, hP, c2, hbase⟩ := q
    have hPl : (aftF 120 (body.take 800)).flatten.length + 2 * (aftF 120 (body.take 800)).length ≤ 2402 := by
      rw [aft_flat, aft_len]
      have : (body.take 800).count 120 ≤ (body.take 800).length := List.count_le_length
      omega
    have hbs : bsF body = (aftF 120 (body.take 800)).map fun p => p.map plainC := rfl
    have hpe : ∀ p ∈ aftF 120 (body.take 800), p.length ≤ 2402 := fun p hp => by
      have := (List.sublist_flatten_of_mem hp).length_le
      omega
    rw [hbs] at hK
    generalize aftF 120 (body.take 800) = P at *
    obtain ⟨bb, rfl, -⟩ := hP.at
    have hbb := hbase bb (by simp [blkOf])
    have b1l := b1.lt
    have w1l := b1.own.lt
    have n2 := c2.next
    have hbb2 : bb < s2.next := by
      obtain ⟨b', cs', t', g', r', e, h, -⟩ := hP
      have e2 : bb = b' := by injection e with e; injection e
      omega
    have b2 : Bld s2 b W1 (jn (L ++ [[]])) := by rw [jn_snoc, List.append_nil]; exact b1.chg c2 (by simp) (by simp)
    have v2 := v1.chg c2 (by simp)
    have c02 : Chg s s2 (b :: blkOf Wa) := c1.trans' c2 (fun id q _ => q) (fun id q _ => by simp at q)
    (repeat(first|refine pSeq ?_|refine pReg ?_|refine sCons ?_|refine sNil ?_|refine pBlock ?_|refine pSkip ?_|refine pExit ?_|refine pRet ?_|refine pCond ?_|refine gNone ?_))
    refine pLoop (MW.head good (fun x : TlI => P.length - x.i) (fun x => x.i ≤ P.length ∧ Bld x.s b x.W (jn (L ++ [] :: (P.take x.i).map fun p => p.map plainC)) ∧ Chg s2 x.s (b :: blkOf W1) ∧ (∀ id ∈ blkOf x.W, id ∈ blkOf W1 ∨ s2.next ≤ id))
      (fun x => [(8, .pointer (some ⟨b, 0, none⟩)), (9, .slice V n cv), (122, .slice (some ⟨bb, 0, none⟩) P.length cap), (123, .int .i64 P.length), (124, .int .i64 x.i)]) (fun x => x.s) ⟨0, W1, s2⟩ ⟨Nat.zero_le _, b2, .refl _ _, fun id q => .inl q⟩ (Wk.same ⟨rfl, rfl, rfl, rfl, rfl, trivial⟩) ?_)
    rintro ⟨i, W3, s3⟩ ⟨i1, b3, c3, w3⟩
    dsimp only at i1 b3 c3 w3 ⊢
    have n3 := c3.next
    (repeat(first|refine pSeq ?_|refine pReg ?_|refine sCons ?_|refine sNil ?_|refine pBlock ?_|refine pSkip ?_|refine pExit ?_|refine pRet ?_|refine pCond ?_|refine gNone ?_))
    intro q hq
    by_cases hlt : i < P.length
    · obtain rfl : q = true := by rw [hq]; simp; omega
      obtain ⟨p, hp⟩ : ∃ p, P[i]? = some p := ⟨_, List.getElem?_eq_getElem hlt⟩
      have hpl := hpe p (List.mem_of_getElem? hp)
      have hP3 := hP.chg c3 (fun id hid q => by
        simp only [blkOf, List.mem_singleton] at hid
        subst hid
        rcases List.mem_cons.1 q with q | q
        · omega
        · have := w1l _ q; omega)
      obtain ⟨b', e, cs2, t2, g2, r2, hcell, hget⟩ := hP3.at
      cases e
      have hjl := parts_len P i
      have hjl2 : (jn (L ++ [] :: (P.take i).map fun p => p.map plainC)).length ≤ 110000 := by
        rw [jn_app, jn_cons]
        simp only [List.length_append, List.length_cons, List.length_nil]
        omega
      have hnx : jn (L ++ [] :: (P.take (i + 1)).map fun p => p.map plainC) = jn (L ++ [] :: (P.take i).map fun p => p.map plainC) ++ p.map plainC ++ [13, 10] := by
        rw [take_next hp, List.map_append, ← jn_snoc]
        simp
      (repeat(first|refine pSeq ?_|refine pReg ?_|refine sCons ?_|refine sNil ?_|refine pBlock ?_|refine pSkip ?_|refine pExit ?_|refine pRet ?_|refine pCond ?_|refine gNone ?_))
      refine ⟨by omega, ?_⟩
      intro m hm o ho
      obtain rfl : m = i := by omega
      (repeat(first|refine pSeq ?_|refine pReg ?_|refine sCons ?_|refine sNil ?_|refine pBlock ?_|refine pSkip ?_|refine pExit ?_|refine pRet ?_|refine pCond ?_|refine gNone ?_))
      refine ldS_is (l := p) rfl hcell (by rw [ho, Nat.zero_add, Nat.mul_one]; exact hget m p hp) ?_
      (repeat(first|refine pSeq ?_|refine pReg ?_|refine sCons ?_|refine sNil ?_|refine pBlock ?_|refine pSkip ?_|refine pExit ?_|refine pRet ?_|refine pCond ?_|refine gNone ?_))
      refine ⟨by omega, ?_⟩
      obtain ⟨s4, hs4⟩ : ∃ s4 : SS, s4 = { s3 with heap := (s3.next, some (.cells (bytesV p) tB true false)) :: s3.heap, next := s3.next + 1 } := ⟨_, rfl⟩
      have c34 : Chg s3 s4 [] := by rw [hs4]; exact .new _
      have k4 : lookH s4.heap s3.next = some (.cells (bytesV p) tB true false) := by rw [hs4]; exact lkH
      have n4 : s4.next = s3.next + 1 := by rw [hs4]
      (repeat(first|refine pSeq ?_|refine pReg ?_|refine sCons ?_|refine sNil ?_|refine pBlock ?_|refine pSkip ?_|refine pExit ?_|refine pRet ?_|refine pCond ?_|refine gNone ?_))
      refine pLoop (MW.head good (fun x : ByI => p.length - x.i) (fun x => x.i ≤ p.length ∧ Chg s4 x.s [s3.next] ∧ lookH x.s.heap s3.next = some (.cells (bytesV (mixI (fun _ => plainC) p x.i)) tB true false))
        (fun x => [(8, .pointer (some ⟨b, 0, none⟩)), (9, .slice V n cv), (19, .slice (some ⟨s3.next, 0, none⟩) p.length 0), (122, .slice (some ⟨bb, 0, none⟩) P.length cap), (123, .int .i64 P.length), (124, .int .i64 m), (131, .int .i64 p.length), (132, .int .i64 x.i)]) (fun x => x.s) ⟨0, s4⟩ ⟨Nat.zero_le _, .refl _ _, by rw [mixI_0]; exact k4⟩ (by subst hs4; exact Wk.same ⟨rfl, rfl, rfl, rfl, rfl, rfl, rfl, rfl, trivial⟩) ?_)
      clear hs4
      rintro ⟨j, s5⟩ ⟨j1, c5, k5⟩
      dsimp only at j1 c5 k5 ⊢
      have n5 := c5.next
      (repeat(first|refine pSeq ?_|refine pReg ?_|refine sCons ?_|refine sNil ?_|refine pBlock ?_|refine pSkip ?_|refine pExit ?_|refine pRet ?_|refine pCond ?_|refine gNone ?_))
      intro q hq
      by_cases hlj : j < p.length
      · obtain rfl : q = true := by rw [hq]; simp; omega
        obtain ⟨c, hc⟩ : ∃ c, p[j]? = some c := ⟨_, List.getElem?_eq_getElem hlj⟩
        have c95 := Nat.mod_lt c.toNat (show 0 < 95 by omega)
        (repeat(first|refine pSeq ?_|refine pReg ?_|refine sCons ?_|refine sNil ?_|refine pBlock ?_|refine pSkip ?_|refine pExit ?_|refine pRet ?_|refine pCond ?_|refine gNone ?_))
        refine ⟨by omega, ?_⟩
        intro m1 hm1 o1 ho1
        obtain rfl : m1 = j := by omega
        (repeat(first|refine pSeq ?_|refine pReg ?_|refine sCons ?_|refine sNil ?_|refine pBlock ?_|refine pSkip ?_|refine pExit ?_|refine pRet ?_|refine pCond ?_|refine gNone ?_))
        refine ldI_is rfl k5 (by rw [ho1, Nat.zero_add, Nat.mul_one]; exact bytes_get (mixI_at hc)) ?_
        (repeat(first|refine pSeq ?_|refine pReg ?_|refine sCons ?_|refine sNil ?_|refine pBlock ?_|refine pSkip ?_|refine pExit ?_|refine pRet ?_|refine pCond ?_|refine gNone ?_))
        refine ⟨by omega, ?_⟩
        intro z hz
        have hz : z = ((c.toNat % 95 : Nat) : Int) := hz
        (repeat(first|refine pSeq ?_|refine pReg ?_|refine sCons ?_|refine sNil ?_|refine pBlock ?_|refine pSkip ?_|refine pExit ?_|refine pRet ?_|refine pCond ?_|refine gNone ?_))
        intro z2 hz2
        rw [u8_id (by omega)] at hz2
        obtain rfl : z2 = ((plainC c).toNat : Int) := by rw [plainC_nat]; omega
        (repeat(first|refine pSeq ?_|refine pReg ?_|refine sCons ?_|refine sNil ?_|refine pBlock ?_|refine pSkip ?_|refine pExit ?_|refine pRet ?_|refine pCond ?_|refine gNone ?_))
        refine ⟨by omega, ?_⟩
        intro m2 hm2 o2 ho2
        obtain rfl : m2 = m1 := by omega
        (repeat(first|refine pSeq ?_|refine pReg ?_|refine sCons ?_|refine sNil ?_|refine pBlock ?_|refine pSkip ?_|refine pExit ?_|refine pRet ?_|refine pCond ?_|refine gNone ?_))
        refine st_abs (cs' := bytesV (mixI (fun _ => plainC) p (m2 + 1))) rfl rfl k5 (by omega) rfl (by
          rw [ho2, Nat.zero_add, Nat.mul_one, mixI_next hc]
          exact bytes_set (by rw [mixI_len]; exact hlj) _) fun s6 e6 c6 n6 => ?_
        (repeat(first|refine pSeq ?_|refine pReg ?_|refine sCons ?_|refine sNil ?_|refine pBlock ?_|refine pSkip ?_|refine pExit ?_|refine pRet ?_|refine pCond ?_|refine gNone ?_))
        intro z3 hz3
        rw [i64_id (by omega)] at hz3
        obtain rfl : z3 = ((m2 + 1 : Nat) : Int) := by omega
        (repeat(first|refine pSeq ?_|refine pReg ?_|refine sCons ?_|refine sNil ?_|refine pBlock ?_|refine pSkip ?_|refine pExit ?_|refine pRet ?_|refine pCond ?_|refine gNone ?_))
        exact ⟨⟨m2 + 1, s6⟩, ⟨hlj, c5.trans' c6 (fun id q _ => q) (fun id q _ => q), e6⟩, by show p.length - (m2 + 1) < p.length - m2; omega, Wk.same ⟨rfl, rfl, rfl, rfl, rfl, rfl, rfl, rfl, trivial⟩⟩
      · obtain rfl : q = false := by rw [hq]; simp; omega
        rw [mixI_end (by omega), mapIdx_const] at k5
        have c35 : Chg s3 s5 [] := c34.fresh c5 (by simp)
        have r5 : Rdb s5 (some ⟨s3.next, 0, none⟩) (p.map plainC).length (p.map plainC) := rdb_lit k5 (by omega)
        have b5 := b3.chg c35 (by simp) (by simp)
        have b3l := b3.lt
        have hml : (p.map plainC).length = p.length := List.length_map ..
        have c25 : Chg s2 s5 (b :: blkOf W1) := c3.trans' c35 (fun id q _ => q) (fun id q _ => by simp at q)
        (repeat(first|refine pSeq ?_|refine pReg ?_|refine sCons ?_|refine sNil ?_|refine pBlock ?_|refine pSkip ?_|refine pExit ?_|refine pRet ?_|refine pCond ?_|refine gNone ?_))
        refine (show CallW pr n_strings_Builder_Write [.pointer (some ⟨b, 0, none⟩), .slice (some ⟨s3.next, 0, none⟩) p.length 0] s5 _ from (hml ▸ bWriteB_w (c := 0) b5 r5 (by simp [blkOf]; omega) (by omega))).mono fun u s6 q => ?_
        obtain ⟨W6, rfl, b6, c6, w6⟩ := q
        (repeat(first|refine pSeq ?_|refine pReg ?_|refine sCons ?_|refine sNil ?_|refine pBlock ?_|refine pSkip ?_|refine pExit ?_|refine pRet ?_|refine pCond ?_|refine gNone ?_))
        refine (bWrite_w (m := [13, 10]) b6 (by rw [List.length_append, hml]; show _ + 2 ≤ _; omega)).mono fun u s7 q => ?_
        obtain ⟨W7, rfl, b7, c7, w7⟩ := q
        rw [← hnx] at b7
        have n6 := c6.next
        (repeat(first|refine pSeq ?_|refine pReg ?_|refine sCons ?_|refine sNil ?_|refine pBlock ?_|refine pSkip ?_|refine pExit ?_|refine pRet ?_|refine pCond ?_|refine gNone ?_))
        intro z3 hz3
        rw [i64_id (by omega)] at hz3
        obtain rfl : z3 = ((m + 1 : Nat) : Int) := by omega
        (repeat(first|refine pSeq ?_|refine pReg ?_|refine sCons ?_|refine sNil ?_|refine pBlock ?_|refine pSkip ?_|refine pExit ?_|refine pRet ?_|refine pCond ?_|refine gNone ?_))
        have w26 : ∀ id ∈ blkOf W6, id ∈ blkOf W1 ∨ s2.next ≤ id := fun id hid => by
          rcases w6 id hid with q | q
          · exact w3 id q
          · exact .inr (by omega)
        have w27 : ∀ id ∈ blkOf W7, id ∈ blkOf W1 ∨ s2.next ≤ id := fun id hid => by
          rcases w7 id hid with q | q
          · exact w26 id q
          · exact .inr (by omega)
        refine ⟨⟨m + 1, W7, s7⟩, ⟨hlt, b7, (c25.trans' c6 (C := b :: blkOf W1) (fun id q _ => q) (fun id q hl => ?_)).trans' c7 (fun id q _ => q) (fun id q hl => ?_), w27⟩, by show P.length - (m + 1) < P.length - m; omega, Wk.same ⟨rfl, rfl, rfl, rfl, rfl, trivial⟩⟩
        · rcases List.mem_cons.1 q with rfl | q
          · simp
          · rcases w3 id q with q | q
            · simp [q]
            · omega
        · rcases List.mem_cons.1 q with rfl | q
          · simp
          · rcases w26 id q with q | q
            · simp [q]
            · omega
    · obtain rfl : q = false := by rw [hq]; simp; omega
      have hall : P.take i = P := List.take_of_length_le (by omega)
      rw [hall] at b3
      have hjl := parts_len P P.length
      rw [List.take_length] at hjl
      obtain ⟨R, hR⟩ : ∃ R, R = jn (L ++ [] :: P.map fun p => p.map plainC) := ⟨_, rfl⟩
      have hRl : R.length ≤ 110000 := by
        rw [hR, jn_app, jn_cons]
        simp only [List.length_append, List.length_cons, List.length_nil]
        omega
      have e : jn (L ++ if false = true then [] else [] :: P.map fun p => p.map plainC) = R := by rw [hR]; simp
      rw [e] at hK
      rw [← hR] at b3
      have v3 := v2.chg c3 (hoff _ _ _ b2 v2)
      (repeat(first|refine pSeq ?_|refine pReg ?_|refine sCons ?_|refine sNil ?_|refine pBlock ?_|refine pSkip ?_|refine pExit ?_|refine pRet ?_|refine pCond ?_|refine gNone ?_))
      refine (bString_w b3 (by omega)).mono fun u s4 q => ?_
      obtain ⟨rfl, c4, n4⟩ := q
      (repeat(first|refine pSeq ?_|refine pReg ?_|refine sCons ?_|refine sNil ?_|refine pBlock ?_|refine pSkip ?_|refine pExit ?_|refine pRet ?_|refine pCond ?_|refine gNone ?_))
      refine hK _ (v3.chg c4 (fun id hid q => hoff _ _ _ b3 v3 id hid (by simp [q]))) ((c02.trans' c3 (C := b :: blkOf Wa) (fun id q _ => q) (fun id q hl => ?_)).trans' c4 (fun id q _ => q) (fun id q hl => ?_))
      · rcases List.mem_cons.1 q with rfl | q
        · simp
        · rcases w1 id q with q | q
          · simp [q]
          · omega
      · rcases w3 id q with q | q
        · rcases w1 id q with q | q
          · simp [q]
          · omega
        · have := c02.next; omega
end Go.Vf.S
