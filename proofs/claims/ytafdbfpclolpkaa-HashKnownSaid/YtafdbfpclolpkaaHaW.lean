import Derived.Test.YtafdbfpclolpkaaHaV
import Derived.Test.YtafdbfpclolpkaaEngBf
/- HashKnown: from any state. By gen_haw.py. -/
namespace Go.Vf.S
open Go Go.Vf Go.Proofs Go.RowKit
attribute [local irreducible] wSeq wRow wp wG schd rnds blks blk5 sha fillF hmac
set_option linter.unusedVariables false
set_option linter.unusedSimpArgs false
set_option maxRecDepth 10000

theorem umSS : pr.underlying 33 = some (.map 9 9) := by kernel_rfl
def kL0 : List UInt8 := []
def kV0 : List UInt8 := [100, 97, 51, 57, 97, 51, 101, 101, 53, 101, 54, 98, 52, 98, 48, 100, 51, 50, 53, 53, 98, 102, 101, 102, 57, 53, 54, 48, 49, 56, 57, 48, 97, 102, 100, 56, 48, 55, 48, 57]
theorem kS0 : sha kL0 = [218, 57, 163, 238, 94, 107, 75, 13, 50, 85, 191, 239, 149, 96, 24, 144, 175, 216, 7, 9] := sha_of (by kernel_rfl)
theorem kH0 : hexF (sha kL0) = kV0 := by rw [kS0]; kernel_rfl
def kL1 : List UInt8 := [97]
def kV1 : List UInt8 := [56, 54, 102, 55, 101, 52, 51, 55, 102, 97, 97, 53, 97, 55, 102, 99, 101, 49, 53, 100, 49, 100, 100, 99, 98, 57, 101, 97, 101, 97, 101, 97, 51, 55, 55, 54, 54, 55, 98, 56]
theorem kS1 : sha kL1 = [134, 247, 228, 55, 250, 165, 167, 252, 225, 93, 29, 220, 185, 234, 234, 234, 55, 118, 103, 184] := sha_of (by kernel_rfl)
theorem kH1 : hexF (sha kL1) = kV1 := by rw [kS1]; kernel_rfl
def kL2 : List UInt8 := [97, 98, 99, 100, 98, 99, 100, 101, 99, 100, 101, 102, 100, 101, 102, 103, 101, 102, 103, 104, 102, 103, 104, 105, 103, 104, 105, 106, 104, 105, 106, 107, 105, 106, 107, 108, 106, 107, 108, 109, 107, 108, 109, 110, 108, 109, 110, 111, 109, 110, 111, 112, 110, 111, 112, 113]
def kV2 : List UInt8 := [56, 52, 57, 56, 51, 101, 52, 52, 49, 99, 51, 98, 100, 50, 54, 101, 98, 97, 97, 101, 52, 97, 97, 49, 102, 57, 53, 49, 50, 57, 101, 53, 101, 53, 52, 54, 55, 48, 102, 49]
theorem kS2 : sha kL2 = [132, 152, 62, 68, 28, 59, 210, 110, 186, 174, 74, 161, 249, 81, 41, 229, 229, 70, 112, 241] := sha_of (by kernel_rfl)
theorem kH2 : hexF (sha kL2) = kV2 := by rw [kS2]; kernel_rfl
def kL3 : List UInt8 := [84, 104, 101, 32, 113, 117, 105, 99, 107, 32, 98, 114, 111, 119, 110, 32, 102, 111, 120, 32, 106, 117, 109, 112, 115, 32, 111, 118, 101, 114, 32, 116, 104, 101, 32, 108, 97, 122, 121, 32, 100, 111, 103]
def kV3 : List UInt8 := [50, 102, 100, 52, 101, 49, 99, 54, 55, 97, 50, 100, 50, 56, 102, 99, 101, 100, 56, 52, 57, 101, 101, 49, 98, 98, 55, 54, 101, 55, 51, 57, 49, 98, 57, 51, 101, 98, 49, 50]
theorem kS3 : sha kL3 = [47, 212, 225, 198, 122, 45, 40, 252, 237, 132, 158, 225, 187, 118, 231, 57, 27, 147, 235, 18] := sha_of (by kernel_rfl)
theorem kH3 : hexF (sha kL3) = kV3 := by rw [kS3]; kernel_rfl
def mM1 : List UInt8 := [72, 105, 32, 84, 104, 101, 114, 101]
def mV1 : List UInt8 := [98, 54, 49, 55, 51, 49, 56, 54, 53, 53, 48, 53, 55, 50, 54, 52, 101, 50, 56, 98, 99, 48, 98, 54, 102, 98, 51, 55, 56, 99, 56, 101, 102, 49, 52, 54, 98, 101, 48, 48]
theorem mS1 : hmac (List.replicate 20 11) mM1 = [182, 23, 49, 134, 85, 5, 114, 100, 226, 139, 192, 182, 251, 55, 140, 142, 241, 70, 190, 0] := hmac_of (by kernel_rfl)
theorem mH1 : hexF (hmac (List.replicate 20 11) mM1) = mV1 := by rw [mS1]; kernel_rfl
def mM2 : List UInt8 := List.replicate 50 221
def mV2 : List UInt8 := [49, 50, 53, 100, 55, 51, 52, 50, 98, 57, 97, 99, 49, 49, 99, 100, 57, 49, 97, 51, 57, 97, 102, 52, 56, 97, 97, 49, 55, 98, 52, 102, 54, 51, 102, 49, 55, 53, 100, 51]
theorem mS2 : hmac (List.replicate 20 170) mM2 = [18, 93, 115, 66, 185, 172, 17, 205, 145, 163, 154, 244, 138, 161, 123, 79, 99, 241, 117, 211] := hmac_of (by kernel_rfl)
theorem mH2 : hexF (hmac (List.replicate 20 170) mM2) = mV2 := by rw [mS2]; kernel_rfl
def mM3 : List UInt8 := [84, 101, 115, 116, 32, 85, 115, 105, 110, 103, 32, 76, 97, 114, 103, 101, 114, 32, 84, 104, 97, 110, 32, 66, 108, 111, 99, 107, 45, 83, 105, 122, 101, 32, 75, 101, 121, 32, 45, 32, 72, 97, 115, 104, 32, 75, 101, 121, 32, 70, 105, 114, 115, 116]
def mV3 : List UInt8 := [97, 97, 52, 97, 101, 53, 101, 49, 53, 50, 55, 50, 100, 48, 48, 101, 57, 53, 55, 48, 53, 54, 51, 55, 99, 101, 56, 97, 51, 98, 53, 53, 101, 100, 52, 48, 50, 49, 49, 50]
theorem mS3 : hmac (List.replicate 80 170) mM3 = [170, 74, 229, 225, 82, 114, 208, 14, 149, 112, 86, 55, 206, 138, 59, 85, 237, 64, 33, 18] := hmac_of (by kernel_rfl)
theorem mH3 : hexF (hmac (List.replicate 80 170) mM3) = mV3 := by rw [mS3]; kernel_rfl
def aV : List UInt8 := [50, 57, 49, 101, 57, 97, 54, 99, 54, 54, 57, 57, 52, 57, 52, 57, 98, 53, 55, 98, 97, 53, 101, 54, 53, 48, 51, 54, 49, 101, 57, 56, 102, 99, 51, 54, 98, 49, 98, 97]
theorem aS : sha (List.replicate 1000 97) = [41, 30, 154, 108, 102, 153, 73, 73, 181, 123, 165, 230, 80, 54, 30, 152, 252, 54, 177, 186] := sha_of (by kernel_rfl)
theorem aH : hexF (sha (List.replicate 1000 97)) = aV := by rw [aS]; kernel_rfl
def esKn : List MapEntry := [⟨str kL0, str kV0, 0⟩, ⟨str kL1, str kV1, 1⟩, ⟨str kL2, str kV2, 2⟩, ⟨str kL3, str kV3, 3⟩]
theorem esKn_is {e : MapEntry} (h : e ∈ esKn) : ∃ l, e.key = str l ∧ e.val = str (hexF (sha l)) ∧ l.length ≤ 1000 ∧ e.born < 4 := by
  simp only [esKn, List.mem_cons, List.not_mem_nil, or_false] at h
  rcases h with rfl | rfl | rfl | rfl
  · exact ⟨kL0, rfl, by rw [kH0], by decide, by decide⟩
  · exact ⟨kL1, rfl, by rw [kH1], by decide, by decide⟩
  · exact ⟨kL2, rfl, by rw [kH2], by decide, by decide⟩
  · exact ⟨kL3, rfl, by rw [kH3], by decide, by decide⟩
theorem esKn_born : (esKn.map (·.born)).Nodup := by decide
theorem open_slc {s : SS} (l : List UInt8) : Slc pr { s with heap := (s.next, some (.cells (bytesV l) tB true false)) :: s.heap, next := s.next + 1 } (some ⟨s.next, 0, none⟩) l.length 0 l :=
  ⟨⟨rfl, rfl, Nat.lt_succ_self _, bytesV l, tB, true, false, lkH, bytes_take rfl, bytesV_plain _⟩, bytesV l, tB, true, false, lkH, fun _ => sz_B, fun q => (by cases q)⟩
/-- A function without what it has caught, asked for one thing. -/
theorem gen_hex {T : TL} {s : SS} {K : RR → Prop} {x a : Tmp} {ts : Array TypeId} {u : Value} (hx : look T x = some (fnV n_law10_HashKnown_1)) (ha : look T a = some u) (hK : K (.call n_law10_HashKnown_1 [u])) : wN pr (.gen (.call ⟨.value (.tmp x), #[.tmp a], ts⟩)) T s K := by
  refine ⟨.call n_law10_HashKnown_1 [u], ?_, hK⟩
  simp only [aOp, operand, operands, toTr_get, hx, ha]
  exact (show callV pr (fnV n_law10_HashKnown_1) [u] = some (.enter n_law10_HashKnown_1 ([] ++ [u] ++ [])) by kernel_rfl)
theorem gen_many {T : TL} {s : SS} {K : RR → Prop} {x : Tmp} {ts : Array TypeId} {c n : Nat} (hx : look T x = some (fnV n_law10_HashKnown_2)) (hK : K (.call n_law10_HashKnown_2 [.int .u8 (c : Int), .int .i64 (n : Int)])) : wN pr (.gen (.call ⟨.value (.tmp x), #[.const (.int .u8 (c : Int)), .const (.int .i64 (n : Int))], ts⟩)) T s K := by
  refine ⟨.call n_law10_HashKnown_2 [.int .u8 (c : Int), .int .i64 (n : Int)], ?_, hK⟩
  simp only [aOp, operand, operands, toTr_get, hx]
  exact (show callV pr (fnV n_law10_HashKnown_2) [.int .u8 (c : Int), .int .i64 (n : Int)] = some (.enter n_law10_HashKnown_2 ([] ++ [.int .u8 (c : Int), .int .i64 (n : Int)] ++ [])) by kernel_rfl)

set_option maxHeartbeats 4000000 in
theorem hknown_w {s : SS} (hF : Fine s) : CallW pr n_law10_HashKnown [] s fun v s' => v = .bool true := by
  refine CallW.run good ok_law10_HashKnown (by simp) rfl ?_
  (repeat(first|refine pSeq ?_|refine pReg ?_|refine sRaw ?_|refine sCons ?_|refine sNil ?_|refine pBlock ?_|refine pSkip ?_|refine pExit ?_|refine pRet ?_|refine pCond ?_|refine gNone ?_|refine gOn rfl ?_|refine gOff rfl rfl ?_|refine gTup rfl ?_))
  refine ⟨.new (.map [] 0) fun id => .map (some id), rfl, ?_⟩
  (repeat(first|refine pSeq ?_|refine pReg ?_|refine sRaw ?_|refine sCons ?_|refine sNil ?_|refine pBlock ?_|refine pSkip ?_|refine pExit ?_|refine pRet ?_|refine pCond ?_|refine gNone ?_|refine gOn rfl ?_|refine gOff rfl rfl ?_|refine gTup rfl ?_))
  have hm0 : lookH (({ s with heap := (s.next, some (.map [] 0)) :: s.heap, next := s.next + 1 } : SS)).heap s.next = some (.map [] 0) := lkH
  have cc0 : Chg s ({ s with heap := (s.next, some (.map [] 0)) :: s.heap, next := s.next + 1 } : SS) [] := Chg.new []
  have nx0 : (({ s with heap := (s.next, some (.map [] 0)) :: s.heap, next := s.next + 1 } : SS)).next = s.next + 1 := rfl
  generalize ({ s with heap := (s.next, some (.map [] 0)) :: s.heap, next := s.next + 1 } : SS) = a0 at hm0 cc0 nx0 ⊢
  refine insert_abs rfl umSS un_S rfl rfl rfl hm0 (by omega) (by decide) (by decide) fun a1 hm1 c1 n1 => ?_
  (repeat(first|refine pSeq ?_|refine pReg ?_|refine sRaw ?_|refine sCons ?_|refine sNil ?_|refine pBlock ?_|refine pSkip ?_|refine pExit ?_|refine pRet ?_|refine pCond ?_|refine gNone ?_|refine gOn rfl ?_|refine gOff rfl rfl ?_|refine gTup rfl ?_))
  have cc1 := cc0.fresh c1 (by simp <;> omega)
  have nx1 : a1.next = s.next + 1 := by omega
  refine insert_abs rfl umSS un_S rfl rfl rfl hm1 (by omega) (by decide) (by decide) fun a2 hm2 c2 n2 => ?_
  (repeat(first|refine pSeq ?_|refine pReg ?_|refine sRaw ?_|refine sCons ?_|refine sNil ?_|refine pBlock ?_|refine pSkip ?_|refine pExit ?_|refine pRet ?_|refine pCond ?_|refine gNone ?_|refine gOn rfl ?_|refine gOff rfl rfl ?_|refine gTup rfl ?_))
  have cc2 := cc1.fresh c2 (by simp <;> omega)
  have nx2 : a2.next = s.next + 1 := by omega
  refine insert_abs rfl umSS un_S rfl rfl rfl hm2 (by omega) (by decide) (by decide) fun a3 hm3 c3 n3 => ?_
  (repeat(first|refine pSeq ?_|refine pReg ?_|refine sRaw ?_|refine sCons ?_|refine sNil ?_|refine pBlock ?_|refine pSkip ?_|refine pExit ?_|refine pRet ?_|refine pCond ?_|refine gNone ?_|refine gOn rfl ?_|refine gOff rfl rfl ?_|refine gTup rfl ?_))
  have cc3 := cc2.fresh c3 (by simp <;> omega)
  have nx3 : a3.next = s.next + 1 := by omega
  refine insert_abs rfl umSS un_S rfl rfl rfl hm3 (by omega) (by decide) (by decide) fun a4 hm4 c4 n4 => ?_
  (repeat(first|refine pSeq ?_|refine pReg ?_|refine sRaw ?_|refine sCons ?_|refine sNil ?_|refine pBlock ?_|refine pSkip ?_|refine pExit ?_|refine pRet ?_|refine pCond ?_|refine gNone ?_|refine gOn rfl ?_|refine gOff rfl rfl ?_|refine gTup rfl ?_))
  have cc4 := cc3.fresh c4 (by simp <;> omega)
  have nx4 : a4.next = s.next + 1 := by omega
  have hmE : lookH a4.heap s.next = some (.map esKn 4) := hm4
  have hfE : Fine a4 := cc4.fine hF
  refine range_W rfl umSS rfl hmE ?_
  (repeat(first|refine pSeq ?_|refine pReg ?_|refine sRaw ?_|refine sCons ?_|refine sNil ?_|refine pBlock ?_|refine pSkip ?_|refine pExit ?_|refine pRet ?_|refine pCond ?_|refine gNone ?_|refine gOn rfl ?_|refine gOff rfl rfl ?_|refine gTup rfl ?_))
  refine pLoop (MW.maps good (id0 := 0) (g := ⟨a4, a4.next, s.next, 4, esKn, [(1, fnV n_law10_HashKnown_1), (2, fnV n_law10_HashKnown_2), (10, .pointer (some ⟨a4.next, 0, none⟩))]⟩) rfl (Wk.same ⟨rfl, rfl, rfl, trivial⟩) rfl hmE (by show a4.next ≠ s.next; omega) (fun e he => by obtain ⟨_, _, _, _, h⟩ := esKn_is he; exact h) ?_ ?_ ?_)
  · intro n seen hn e he hs
    have hn' : a4.next < n := hn
    obtain ⟨l, hk, hv, hl, hb⟩ := esKn_is he
    rw [hk, hv]
    (repeat(first|refine pSeq ?_|refine pReg ?_|refine sRaw ?_|refine sCons ?_|refine sNil ?_|refine pBlock ?_|refine pSkip ?_|refine pExit ?_|refine pRet ?_|refine pCond ?_|refine gNone ?_|refine gOn rfl ?_|refine gOff rfl rfl ?_|refine gTup rfl ?_))
    refine entry_W (e := e) rfl rfl lkH (lkT (show a4.next ≠ s.next by omega) hmE) he esKn_born ?_
    rw [hk, hv]
    (repeat(first|refine pSeq ?_|refine pReg ?_|refine sRaw ?_|refine sCons ?_|refine sNil ?_|refine pBlock ?_|refine pSkip ?_|refine pExit ?_|refine pRet ?_|refine pCond ?_|refine gNone ?_|refine gOn rfl ?_|refine gOff rfl rfl ?_|refine gTup rfl ?_))
    have c0 : Chg s (MapL.at ⟨a4, a4.next, s.next, 4, esKn, [(1, fnV n_law10_HashKnown_1), (2, fnV n_law10_HashKnown_2), (10, .pointer (some ⟨a4.next, 0, none⟩))]⟩ n (seen ++ [e.born])) [] := cc4.nil (MapL.at_chg ⟨a4, a4.next, s.next, 4, esKn, [(1, fnV n_law10_HashKnown_1), (2, fnV n_law10_HashKnown_2), (10, .pointer (some ⟨a4.next, 0, none⟩))]⟩ hfE rfl hn')
    have f0 := c0.fine hF
    refine ⟨by omega, ?_⟩
    (repeat(first|refine pSeq ?_|refine pReg ?_|refine sRaw ?_|refine sCons ?_|refine sNil ?_|refine pBlock ?_|refine pSkip ?_|refine pExit ?_|refine pRet ?_|refine pCond ?_|refine gNone ?_|refine gOn rfl ?_|refine gOff rfl rfl ?_|refine gTup rfl ?_))
    obtain ⟨q0, q1, q2⟩ := new1_at f0 (.cells (bytesV l) tB true false)
    refine (sha1_w q2 (open_slc l) (by omega)).mono fun v s3 q => ?_
    obtain ⟨rfl, c3⟩ := q
    have f3 := c3.fine q2
    (repeat(first|refine pSeq ?_|refine pReg ?_|refine sRaw ?_|refine sCons ?_|refine sNil ?_|refine pBlock ?_|refine pSkip ?_|refine pExit ?_|refine pRet ?_|refine pCond ?_|refine gNone ?_|refine gOn rfl ?_|refine gOff rfl rfl ?_|refine gTup rfl ?_))
    refine gen_hex rfl rfl ?_
    (repeat(first|refine pSeq ?_|refine pReg ?_|refine sRaw ?_|refine sCons ?_|refine sNil ?_|refine pBlock ?_|refine pSkip ?_|refine pExit ?_|refine pRet ?_|refine pCond ?_|refine gNone ?_|refine gOn rfl ?_|refine gOff rfl rfl ?_|refine gTup rfl ?_))
    refine (hex_w f3 (sha_len l)).mono fun v s4 q => ?_
    obtain ⟨rfl, c4⟩ := q
    (repeat(first|refine pSeq ?_|refine pReg ?_|refine sRaw ?_|refine sCons ?_|refine sNil ?_|refine pBlock ?_|refine pSkip ?_|refine pExit ?_|refine pRet ?_|refine pCond ?_|refine gNone ?_|refine gOn rfl ?_|refine gOff rfl rfl ?_|refine gTup rfl ?_))
    intro q hq
    obtain rfl : q = false := by rw [hq]; simp
    (repeat(first|refine pSeq ?_|refine pReg ?_|refine sRaw ?_|refine sCons ?_|refine sNil ?_|refine pBlock ?_|refine pSkip ?_|refine pExit ?_|refine pRet ?_|refine pCond ?_|refine gNone ?_|refine gOn rfl ?_|refine gOff rfl rfl ?_|refine gTup rfl ?_))
    exact ⟨rfl, MapL.back ⟨rfl, rfl, rfl, trivial⟩ hfE rfl hn' ((q1.nil c3).nil c4)⟩
  · intro n seen hn
    (repeat(first|refine pSeq ?_|refine pReg ?_|refine sRaw ?_|refine sCons ?_|refine sNil ?_|refine pBlock ?_|refine pSkip ?_|refine pExit ?_|refine pRet ?_|refine pCond ?_|refine gNone ?_|refine gOn rfl ?_|refine gOff rfl rfl ?_|refine gTup rfl ?_))
    exact ⟨rfl, MapL.over ⟨rfl, rfl, rfl, trivial⟩ hfE rfl⟩
  intro N hN
  have cf := cc4.nil ((MapL.fin_chg ⟨a4, a4.next, s.next, 4, esKn, [(1, fnV n_law10_HashKnown_1), (2, fnV n_law10_HashKnown_2), (10, .pointer (some ⟨a4.next, 0, none⟩))]⟩ (n := N) (Nat.le_of_succ_le hN)))
  dsimp only [MapL.fin] at cf ⊢
  generalize hst : ({ heap := a4.heap, next := N, gl := a4.gl } : SS) = f at cf ⊢
  have ff := cf.fine hF
  (repeat(first|refine pSeq ?_|refine pReg ?_|refine sRaw ?_|refine sCons ?_|refine sNil ?_|refine pBlock ?_|refine pSkip ?_|refine pExit ?_|refine pRet ?_|refine pCond ?_|refine gNone ?_|refine gOn rfl ?_|refine gOff rfl rfl ?_|refine gTup rfl ?_))
  refine gen_many (c := 11) (n := 20) rfl ?_
  (repeat(first|refine pSeq ?_|refine pReg ?_|refine sRaw ?_|refine sCons ?_|refine sNil ?_|refine pBlock ?_|refine pSkip ?_|refine pExit ?_|refine pRet ?_|refine pCond ?_|refine gNone ?_|refine gOn rfl ?_|refine gOff rfl rfl ?_|refine gTup rfl ?_))
  refine (many_w (c := 11) (n := 20) ff (by omega)).mono fun v s1 q => ?_
  obtain ⟨bs1, rfl, os1, ds1⟩ := q
  have fs1 := ds1.fine ff
  (repeat(first|refine pSeq ?_|refine pReg ?_|refine sRaw ?_|refine sCons ?_|refine sNil ?_|refine pBlock ?_|refine pSkip ?_|refine pExit ?_|refine pRet ?_|refine pCond ?_|refine gNone ?_|refine gOn rfl ?_|refine gOff rfl rfl ?_|refine gTup rfl ?_))
  obtain ⟨w0, w1, w2⟩ := new1_at fs1 (.cells (bytesV mM1) tB false false)
  refine mark_is10 rfl w0 ?_
  (repeat(first|refine pSeq ?_|refine pReg ?_|refine sRaw ?_|refine sCons ?_|refine sNil ?_|refine pBlock ?_|refine pSkip ?_|refine pExit ?_|refine pRet ?_|refine pCond ?_|refine gNone ?_|refine gOn rfl ?_|refine gOff rfl rfl ?_|refine gTup rfl ?_))
  refine (hmac_w w2 (os1.chg w1 (by simp)) (cell_slc w0 (Nat.lt_succ_self _) (show mM1.length = 8 from rfl)) (by omega) (by omega)).mono fun v s2 q => ?_
  obtain ⟨rfl, d2⟩ := q
  have f2 := d2.fine w2
  (repeat(first|refine pSeq ?_|refine pReg ?_|refine sRaw ?_|refine sCons ?_|refine sNil ?_|refine pBlock ?_|refine pSkip ?_|refine pExit ?_|refine pRet ?_|refine pCond ?_|refine gNone ?_|refine gOn rfl ?_|refine gOff rfl rfl ?_|refine gTup rfl ?_))
  obtain ⟨w0, w1, w2⟩ := new1_at f2 (.cells (bytesV zs20) tA20 false false)
  refine st_abs (cs' := bytesV (hmac (List.replicate 20 11) mM1)) rfl rfl w0 (Nat.lt_succ_self _) (agB_fl (hmac_len _ _)) (agB_lay (a := zs20) (hmac_len _ _).symm) fun s3 es3 ds3 ns3 => ?_
  replace ns3 : s3.next = s2.next + 1 := ns3
  replace ds3 := w1.fresh ds3 (by simp)
  have fs3 := ds3.fine f2
  (repeat(first|refine pSeq ?_|refine pReg ?_|refine sRaw ?_|refine sCons ?_|refine sNil ?_|refine pBlock ?_|refine pSkip ?_|refine pExit ?_|refine pRet ?_|refine pCond ?_|refine gNone ?_|refine gOn rfl ?_|refine gOff rfl rfl ?_|refine gTup rfl ?_))
  refine gen_many (c := 170) (n := 20) rfl ?_
  (repeat(first|refine pSeq ?_|refine pReg ?_|refine sRaw ?_|refine sCons ?_|refine sNil ?_|refine pBlock ?_|refine pSkip ?_|refine pExit ?_|refine pRet ?_|refine pCond ?_|refine gNone ?_|refine gOn rfl ?_|refine gOff rfl rfl ?_|refine gTup rfl ?_))
  refine (many_w (c := 170) (n := 20) fs3 (by omega)).mono fun v s4 q => ?_
  obtain ⟨bs4, rfl, os4, ds4⟩ := q
  have fs4 := ds4.fine fs3
  (repeat(first|refine pSeq ?_|refine pReg ?_|refine sRaw ?_|refine sCons ?_|refine sNil ?_|refine pBlock ?_|refine pSkip ?_|refine pExit ?_|refine pRet ?_|refine pCond ?_|refine gNone ?_|refine gOn rfl ?_|refine gOff rfl rfl ?_|refine gTup rfl ?_))
  refine gen_many (c := 221) (n := 50) rfl ?_
  (repeat(first|refine pSeq ?_|refine pReg ?_|refine sRaw ?_|refine sCons ?_|refine sNil ?_|refine pBlock ?_|refine pSkip ?_|refine pExit ?_|refine pRet ?_|refine pCond ?_|refine gNone ?_|refine gOn rfl ?_|refine gOff rfl rfl ?_|refine gTup rfl ?_))
  refine (many_w (c := 221) (n := 50) fs4 (by omega)).mono fun v s5 q => ?_
  obtain ⟨bs5, rfl, os5, ds5⟩ := q
  have fs5 := ds5.fine fs4
  (repeat(first|refine pSeq ?_|refine pReg ?_|refine sRaw ?_|refine sCons ?_|refine sNil ?_|refine pBlock ?_|refine pSkip ?_|refine pExit ?_|refine pRet ?_|refine pCond ?_|refine gNone ?_|refine gOn rfl ?_|refine gOff rfl rfl ?_|refine gTup rfl ?_))
  have ns4 := ds4.next
  have ns5 := ds5.next
  replace es3 := (ds4.nil ds5).blk _ _ (show s2.next < s3.next by omega) (by simp) es3
  refine (hmac_w fs5 (os4.chg ds5 (by simp)) os5 (by omega) (by omega)).mono fun v s6 q => ?_
  obtain ⟨rfl, d6⟩ := q
  have f6 := d6.fine fs5
  have n6 := d6.next
  replace es3 := d6.blk _ _ (show s2.next < s5.next by omega) (by simp) es3
  (repeat(first|refine pSeq ?_|refine pReg ?_|refine sRaw ?_|refine sCons ?_|refine sNil ?_|refine pBlock ?_|refine pSkip ?_|refine pExit ?_|refine pRet ?_|refine pCond ?_|refine gNone ?_|refine gOn rfl ?_|refine gOff rfl rfl ?_|refine gTup rfl ?_))
  obtain ⟨w0, w1, w2⟩ := new1_at f6 (.cells (bytesV zs20) tA20 false false)
  refine st_abs (cs' := bytesV (hmac (List.replicate 20 170) mM2)) rfl rfl w0 (Nat.lt_succ_self _) (agB_fl (hmac_len _ _)) (agB_lay (a := zs20) (hmac_len _ _).symm) fun s7 es7 ds7 ns7 => ?_
  replace ns7 : s7.next = s6.next + 1 := ns7
  replace es3 := ds7.blk _ _ (show s2.next < s6.next + 1 by omega) (by simp; omega) (w1.blk _ _ (show s2.next < s6.next by omega) (by simp) es3)
  replace ds7 := w1.fresh ds7 (by simp)
  have fs7 := ds7.fine f6
  (repeat(first|refine pSeq ?_|refine pReg ?_|refine sRaw ?_|refine sCons ?_|refine sNil ?_|refine pBlock ?_|refine pSkip ?_|refine pExit ?_|refine pRet ?_|refine pCond ?_|refine gNone ?_|refine gOn rfl ?_|refine gOff rfl rfl ?_|refine gTup rfl ?_))
  refine gen_many (c := 170) (n := 80) rfl ?_
  (repeat(first|refine pSeq ?_|refine pReg ?_|refine sRaw ?_|refine sCons ?_|refine sNil ?_|refine pBlock ?_|refine pSkip ?_|refine pExit ?_|refine pRet ?_|refine pCond ?_|refine gNone ?_|refine gOn rfl ?_|refine gOff rfl rfl ?_|refine gTup rfl ?_))
  refine (many_w (c := 170) (n := 80) fs7 (by omega)).mono fun v s8 q => ?_
  obtain ⟨bs8, rfl, os8, ds8⟩ := q
  have fs8 := ds8.fine fs7
  (repeat(first|refine pSeq ?_|refine pReg ?_|refine sRaw ?_|refine sCons ?_|refine sNil ?_|refine pBlock ?_|refine pSkip ?_|refine pExit ?_|refine pRet ?_|refine pCond ?_|refine gNone ?_|refine gOn rfl ?_|refine gOff rfl rfl ?_|refine gTup rfl ?_))
  have ns8 := ds8.next
  replace es3 := ds8.blk _ _ (show s2.next < s7.next by omega) (by simp) es3
  replace es7 := ds8.blk _ _ (show s6.next < s7.next by omega) (by simp) es7
  obtain ⟨w0, w1, w2⟩ := new1_at fs8 (.cells (bytesV mM3) tB false false)
  refine mark_is10 rfl w0 ?_
  (repeat(first|refine pSeq ?_|refine pReg ?_|refine sRaw ?_|refine sCons ?_|refine sNil ?_|refine pBlock ?_|refine pSkip ?_|refine pExit ?_|refine pRet ?_|refine pCond ?_|refine gNone ?_|refine gOn rfl ?_|refine gOff rfl rfl ?_|refine gTup rfl ?_))
  refine (hmac_w w2 (os8.chg w1 (by simp)) (cell_slc w0 (Nat.lt_succ_self _) (show mM3.length = 54 from rfl)) (by omega) (by omega)).mono fun v s9 q => ?_
  obtain ⟨rfl, d9⟩ := q
  have f9 := d9.fine w2
  have n9 := d9.next
  replace n9 : s8.next + 1 ≤ s9.next := n9
  replace es3 := d9.blk _ _ (show s2.next < s8.next + 1 by omega) (by simp) (w1.blk _ _ (show s2.next < s8.next by omega) (by simp) es3)
  replace es7 := d9.blk _ _ (show s6.next < s8.next + 1 by omega) (by simp) (w1.blk _ _ (show s6.next < s8.next by omega) (by simp) es7)
  (repeat(first|refine pSeq ?_|refine pReg ?_|refine sRaw ?_|refine sCons ?_|refine sNil ?_|refine pBlock ?_|refine pSkip ?_|refine pExit ?_|refine pRet ?_|refine pCond ?_|refine gNone ?_|refine gOn rfl ?_|refine gOff rfl rfl ?_|refine gTup rfl ?_))
  obtain ⟨w0, w1, w2⟩ := new1_at f9 (.cells (bytesV zs20) tA20 false false)
  refine st_abs (cs' := bytesV (hmac (List.replicate 80 170) mM3)) rfl rfl w0 (Nat.lt_succ_self _) (agB_fl (hmac_len _ _)) (agB_lay (a := zs20) (hmac_len _ _).symm) fun t0 et0 dt0 nt0 => ?_
  replace nt0 : t0.next = s9.next + 1 := nt0
  replace es3 := dt0.blk _ _ (show s2.next < s9.next + 1 by omega) (by simp; omega) (w1.blk _ _ (show s2.next < s9.next by omega) (by simp) es3)
  replace es7 := dt0.blk _ _ (show s6.next < s9.next + 1 by omega) (by simp; omega) (w1.blk _ _ (show s6.next < s9.next by omega) (by simp) es7)
  replace dt0 := w1.fresh dt0 (by simp)
  have ft0 := dt0.fine f9
  (repeat(first|refine pSeq ?_|refine pReg ?_|refine sRaw ?_|refine sCons ?_|refine sNil ?_|refine pBlock ?_|refine pSkip ?_|refine pExit ?_|refine pRet ?_|refine pCond ?_|refine gNone ?_|refine gOn rfl ?_|refine gOff rfl rfl ?_|refine gTup rfl ?_))
  refine ldN_is rfl es3 (bytes_take (hmac_len _ _)) ?_
  (repeat(first|refine pSeq ?_|refine pReg ?_|refine sRaw ?_|refine sCons ?_|refine sNil ?_|refine pBlock ?_|refine pSkip ?_|refine pExit ?_|refine pRet ?_|refine pCond ?_|refine gNone ?_|refine gOn rfl ?_|refine gOff rfl rfl ?_|refine gTup rfl ?_))
  refine gen_hex rfl rfl ?_
  (repeat(first|refine pSeq ?_|refine pReg ?_|refine sRaw ?_|refine sCons ?_|refine sNil ?_|refine pBlock ?_|refine pSkip ?_|refine pExit ?_|refine pRet ?_|refine pCond ?_|refine gNone ?_|refine gOn rfl ?_|refine gOff rfl rfl ?_|refine gTup rfl ?_))
  refine (hex_w ft0 (hmac_len _ _)).mono fun v t1 q => ?_
  obtain ⟨rfl, dt1⟩ := q
  have ft1 := dt1.fine ft0
  have nt1 := dt1.next
  rw [mH1]
  replace es7 := dt1.blk _ _ (show s6.next < t0.next by omega) (by simp) es7
  replace et0 := dt1.blk _ _ (show s9.next < t0.next by omega) (by simp) et0
  (repeat(first|refine pSeq ?_|refine pReg ?_|refine sRaw ?_|refine sCons ?_|refine sNil ?_|refine pBlock ?_|refine pSkip ?_|refine pExit ?_|refine pRet ?_|refine pCond ?_|refine gNone ?_|refine gOn rfl ?_|refine gOff rfl rfl ?_|refine gTup rfl ?_))
  intro q hq
  obtain rfl : q = true := by rw [hq]; exact decide_eq_true rfl
  (repeat(first|refine pSeq ?_|refine pReg ?_|refine sRaw ?_|refine sCons ?_|refine sNil ?_|refine pBlock ?_|refine pSkip ?_|refine pExit ?_|refine pRet ?_|refine pCond ?_|refine gNone ?_|refine gOn rfl ?_|refine gOff rfl rfl ?_|refine gTup rfl ?_))
  refine ldN_is rfl es7 (bytes_take (hmac_len _ _)) ?_
  (repeat(first|refine pSeq ?_|refine pReg ?_|refine sRaw ?_|refine sCons ?_|refine sNil ?_|refine pBlock ?_|refine pSkip ?_|refine pExit ?_|refine pRet ?_|refine pCond ?_|refine gNone ?_|refine gOn rfl ?_|refine gOff rfl rfl ?_|refine gTup rfl ?_))
  refine gen_hex rfl rfl ?_
  (repeat(first|refine pSeq ?_|refine pReg ?_|refine sRaw ?_|refine sCons ?_|refine sNil ?_|refine pBlock ?_|refine pSkip ?_|refine pExit ?_|refine pRet ?_|refine pCond ?_|refine gNone ?_|refine gOn rfl ?_|refine gOff rfl rfl ?_|refine gTup rfl ?_))
  refine (hex_w ft1 (hmac_len _ _)).mono fun v t2 q => ?_
  obtain ⟨rfl, dt2⟩ := q
  have ft2 := dt2.fine ft1
  have nt2 := dt2.next
  rw [mH2]
  replace et0 := dt2.blk _ _ (show s9.next < t1.next by omega) (by simp) et0
  (repeat(first|refine pSeq ?_|refine pReg ?_|refine sRaw ?_|refine sCons ?_|refine sNil ?_|refine pBlock ?_|refine pSkip ?_|refine pExit ?_|refine pRet ?_|refine pCond ?_|refine gNone ?_|refine gOn rfl ?_|refine gOff rfl rfl ?_|refine gTup rfl ?_))
  intro q hq
  obtain rfl : q = true := by rw [hq]; exact decide_eq_true rfl
  (repeat(first|refine pSeq ?_|refine pReg ?_|refine sRaw ?_|refine sCons ?_|refine sNil ?_|refine pBlock ?_|refine pSkip ?_|refine pExit ?_|refine pRet ?_|refine pCond ?_|refine gNone ?_|refine gOn rfl ?_|refine gOff rfl rfl ?_|refine gTup rfl ?_))
  refine ldN_is rfl et0 (bytes_take (hmac_len _ _)) ?_
  (repeat(first|refine pSeq ?_|refine pReg ?_|refine sRaw ?_|refine sCons ?_|refine sNil ?_|refine pBlock ?_|refine pSkip ?_|refine pExit ?_|refine pRet ?_|refine pCond ?_|refine gNone ?_|refine gOn rfl ?_|refine gOff rfl rfl ?_|refine gTup rfl ?_))
  refine gen_hex rfl rfl ?_
  (repeat(first|refine pSeq ?_|refine pReg ?_|refine sRaw ?_|refine sCons ?_|refine sNil ?_|refine pBlock ?_|refine pSkip ?_|refine pExit ?_|refine pRet ?_|refine pCond ?_|refine gNone ?_|refine gOn rfl ?_|refine gOff rfl rfl ?_|refine gTup rfl ?_))
  refine (hex_w ft2 (hmac_len _ _)).mono fun v t3 q => ?_
  obtain ⟨rfl, dt3⟩ := q
  have ft3 := dt3.fine ft2
  have nt3 := dt3.next
  rw [mH3]
  (repeat(first|refine pSeq ?_|refine pReg ?_|refine sRaw ?_|refine sCons ?_|refine sNil ?_|refine pBlock ?_|refine pSkip ?_|refine pExit ?_|refine pRet ?_|refine pCond ?_|refine gNone ?_|refine gOn rfl ?_|refine gOff rfl rfl ?_|refine gTup rfl ?_))
  intro q hq
  obtain rfl : q = true := by rw [hq]; exact decide_eq_true rfl
  (repeat(first|refine pSeq ?_|refine pReg ?_|refine sRaw ?_|refine sCons ?_|refine sNil ?_|refine pBlock ?_|refine pSkip ?_|refine pExit ?_|refine pRet ?_|refine pCond ?_|refine gNone ?_|refine gOn rfl ?_|refine gOff rfl rfl ?_|refine gTup rfl ?_))
  refine gen_many (c := 97) (n := 1000) rfl ?_
  (repeat(first|refine pSeq ?_|refine pReg ?_|refine sRaw ?_|refine sCons ?_|refine sNil ?_|refine pBlock ?_|refine pSkip ?_|refine pExit ?_|refine pRet ?_|refine pCond ?_|refine gNone ?_|refine gOn rfl ?_|refine gOff rfl rfl ?_|refine gTup rfl ?_))
  refine (many_w (c := 97) (n := 1000) ft3 (by omega)).mono fun v t4 q => ?_
  obtain ⟨bt4, rfl, ot4, dt4⟩ := q
  have ft4 := dt4.fine ft3
  (repeat(first|refine pSeq ?_|refine pReg ?_|refine sRaw ?_|refine sCons ?_|refine sNil ?_|refine pBlock ?_|refine pSkip ?_|refine pExit ?_|refine pRet ?_|refine pCond ?_|refine gNone ?_|refine gOn rfl ?_|refine gOff rfl rfl ?_|refine gTup rfl ?_))
  refine (sha1_w ft4 ot4 (by omega)).mono fun v t5 q => ?_
  obtain ⟨rfl, dt5⟩ := q
  have ft5 := dt5.fine ft4
  (repeat(first|refine pSeq ?_|refine pReg ?_|refine sRaw ?_|refine sCons ?_|refine sNil ?_|refine pBlock ?_|refine pSkip ?_|refine pExit ?_|refine pRet ?_|refine pCond ?_|refine gNone ?_|refine gOn rfl ?_|refine gOff rfl rfl ?_|refine gTup rfl ?_))
  refine gen_hex rfl rfl ?_
  (repeat(first|refine pSeq ?_|refine pReg ?_|refine sRaw ?_|refine sCons ?_|refine sNil ?_|refine pBlock ?_|refine pSkip ?_|refine pExit ?_|refine pRet ?_|refine pCond ?_|refine gNone ?_|refine gOn rfl ?_|refine gOff rfl rfl ?_|refine gTup rfl ?_))
  refine (hex_w ft5 (sha_len _)).mono fun v t6 q => ?_
  obtain ⟨rfl, dt6⟩ := q
  have ft6 := dt6.fine ft5
  rw [show (List.replicate 1000 (97 : UInt8)) = List.replicate 1000 97 from rfl, aH]
  (repeat(first|refine pSeq ?_|refine pReg ?_|refine sRaw ?_|refine sCons ?_|refine sNil ?_|refine pBlock ?_|refine pSkip ?_|refine pExit ?_|refine pRet ?_|refine pCond ?_|refine gNone ?_|refine gOn rfl ?_|refine gOff rfl rfl ?_|refine gTup rfl ?_))
  intro q hq
  obtain rfl : q = true := by rw [hq]; exact decide_eq_true rfl
  (repeat(first|refine pSeq ?_|refine pReg ?_|refine sRaw ?_|refine sCons ?_|refine sNil ?_|refine pBlock ?_|refine pSkip ?_|refine pExit ?_|refine pRet ?_|refine pCond ?_|refine gNone ?_|refine gOn rfl ?_|refine gOff rfl rfl ?_|refine gTup rfl ?_))
  refine (tells10_w ft6).mono fun v t7 q => ?_
  obtain ⟨rfl, dt7⟩ := q
  (repeat(first|refine pSeq ?_|refine pReg ?_|refine sRaw ?_|refine sCons ?_|refine sNil ?_|refine pBlock ?_|refine pSkip ?_|refine pExit ?_|refine pRet ?_|refine pCond ?_|refine gNone ?_|refine gOn rfl ?_|refine gOff rfl rfl ?_|refine gTup rfl ?_))
  rfl
end Go.Vf.S
