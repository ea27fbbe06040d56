import Derived.Test.YtgnhkclddahdnaaGreatDoorAdSr
import Derived.Test.YtgnhkclddahdnaaGreatDoorLjF
import Derived.Test.YtgnhkclddahdnaaGreatDoorEngBf
/- Lists of addresses: the chapter's examples: the law. By gen_lik.py. -/
namespace Go.Vf.S
open Go Go.Vf Go.Proofs Go.RowKit
attribute [local irreducible] wSeq wRow wp wG
attribute [local irreducible] findF putF
set_option linter.unusedVariables false
set_option linter.unusedSimpArgs false
set_option maxRecDepth 10000

theorem repeat8_w {s : SS} {l : List UInt8} {n : Nat} (hn : n ≤ 1000) (hl : l.length ≤ 1000) : CallW pr 14 [str l, .int .i64 n] s fun v s' => v = str (Lib.repeatL l n) ∧ s' = s := by
  refine CallW.kit rfl fun B w0 ρ args' w H hr => ?_
  obtain ⟨v1, v2, rfl, q1, q2⟩ := lrel_2 hr
  obtain rfl := str_inv q1
  obtain rfl := int_inv q2
  exact Any.strings_Repeat Tryz.lays105 Tryz.Builder_Extra_105 ⟨⟨l⟩⟩ n w (by omega) (by
    show l.length * n ≤ _
    have : l.length * n ≤ 1000 * 1000 := Nat.mul_le_mul hl hn
    omega)

theorem um8 : pr.underlying 44 = some (.map 9 3) := by kernel_rfl
def tLn (n : Nat) : MapEntry → Bool
  | ⟨.string b, .int .i64 v, k⟩ => decide ((findF b.data.toList).2 = 0) && decide (((findF b.data.toList).1.length : Int) = v) && Nat.ble b.data.toList.length 1000 && Nat.blt k n
  | _ => false
def esK8 : List MapEntry := [⟨str [], .int .i64 0, 0⟩, ⟨str [44], .int .i64 0, 1⟩, ⟨str [44, 44, 97, 64, 98, 44, 44], .int .i64 1, 2⟩, ⟨str [97, 64, 98], .int .i64 1, 3⟩, ⟨str [60, 97, 64, 98, 62], .int .i64 1, 4⟩, ⟨str [65, 32, 66, 32, 60, 97, 64, 98, 62], .int .i64 1, 5⟩, ⟨str [97, 46, 98, 32, 60, 97, 64, 98, 62], .int .i64 1, 6⟩, ⟨str [34, 97, 34, 64, 98], .int .i64 1, 7⟩, ⟨str [97, 64, 91, 49, 46, 50, 46, 51, 46, 52, 93], .int .i64 1, 8⟩, ⟨str [103, 58, 59], .int .i64 0, 9⟩, ⟨str [103, 58, 97, 64, 98, 59], .int .i64 1, 10⟩, ⟨str [103, 58, 97, 64, 98, 44, 60, 99, 64, 100, 62, 44, 59, 44, 101, 64, 102], .int .i64 3, 11⟩, ⟨str [32, 40, 32, 41, 32], .int .i64 0, 12⟩, ⟨str [60, 64, 97, 58, 98, 64, 99, 62], .int .i64 1, 13⟩, ⟨str [60, 64, 97, 44, 64, 98, 58, 32, 40, 120, 41, 32, 98, 64, 99, 32, 40, 121, 41, 32, 62], .int .i64 1, 14⟩, ⟨str [34, 113, 34, 32, 34, 114, 34, 32, 40, 115, 41, 32, 60, 97, 64, 98, 62, 32, 40, 116, 41], .int .i64 1, 15⟩, ⟨str [97, 32, 98, 58, 32, 99, 64, 100, 59], .int .i64 1, 16⟩]
theorem esK8_all : esK8.all (tLn 17) = true := by kernel_rfl
theorem esK8_is {e : MapEntry} (h : e ∈ esK8) : ∃ l, e.key = str l ∧ (findF l).2 = 0 ∧ e.val = .int .i64 ((findF l).1.length : Nat) ∧ l.length ≤ 1000 ∧ e.born < 17 := by
  have h1 := List.all_eq_true.1 esK8_all e h
  unfold tLn at h1
  split at h1
  · rename_i b v k
    simp only [Bool.and_eq_true, decide_eq_true_eq, Nat.ble_eq, Nat.blt_eq] at h1
    obtain ⟨⟨⟨h2, h3⟩, h4⟩, h5⟩ := h1
    obtain ⟨⟨l⟩⟩ := b
    exact ⟨l, rfl, h2, by rw [← h3], h4, h5⟩
  · cases h1
theorem esK8_born : (esK8.map (·.born)).Nodup := by decide
def bad8 : List (List UInt8) := [[97], [97, 32, 98], [97, 64], [64, 98], [97, 64, 98, 32, 99], [97, 64, 98, 64, 99], [97, 32, 98, 64, 99], [97, 32, 64, 98], [97, 64, 32, 98], [60, 97, 62], [60, 97, 64, 98], [97, 64, 98, 62], [60, 62], [103, 58], [103, 58, 97, 64, 98], [103, 58, 104, 58, 97, 64, 98, 59, 59], [58, 97, 64, 98, 59], [103, 58, 97, 64, 98, 59, 32, 99, 64, 100], [59], [40], [34, 97], [60, 64, 97, 32, 98, 64, 99, 62], [60, 64, 97, 58, 62], [60, 64, 45, 58, 97, 64, 98, 62], [60, 64, 97, 44, 58, 98, 64, 99, 62], [97, 64, 45], [97, 46, 46, 98, 64, 99], [46, 97, 64, 98], [97, 64, 98, 46], [97, 64, 91, 49, 46, 50, 46, 51, 93], [97, 64, 91, 49, 46, 50, 46, 51, 46, 52], [60, 97, 64, 98, 62, 60, 99, 64, 100, 62], [97, 0, 64, 98], [97, 60, 98, 60, 99, 64, 100, 62]]
theorem bad8_all : bad8.all (fun l => decide ((findF l).2 = 5) && decide ((findF l).1.length = 0) && Nat.ble l.length 1000) = true := by kernel_rfl
theorem bad8_is {l : List UInt8} (h : l ∈ bad8) : (findF l).2 = 5 ∧ (findF l).1.length = 0 ∧ l.length ≤ 1000 := by
  have h1 := List.all_eq_true.1 bad8_all l h
  simp only [Bool.and_eq_true, decide_eq_true_eq, Nat.ble_eq] at h1
  exact ⟨h1.1.1, h1.1.2, h1.2⟩
def ab8 : List UInt8 := [97, 64, 98]
def r64 : List UInt8 := Lib.repeatL [97, 64, 98, 44] 64
def r65 : List UInt8 := Lib.repeatL [120] 65
def X8 : List UInt8 := [88, 32, 60, 65, 64, 66, 62, 44, 32, 112, 111, 115, 116, 77, 65, 83, 84, 69, 82, 64, 99, 32, 40, 100, 41]
def X9 : List UInt8 := [88, 32, 60, 65, 64, 66, 62, 44, 32, 101, 64, 99, 32, 40, 100, 41]
theorem f64 : (findF r64).1.length = 64 ∧ (findF r64).2 = 0 := ⟨by kernel_rfl, by kernel_rfl⟩
theorem f65 : (findF (r64 ++ ab8)).2 = 7 := by kernel_rfl
theorem f66 : (findF (r65 ++ [64, 98])).2 = 3 := by kernel_rfl
theorem p1 : (putF ab8 []).2 = 1 := by kernel_rfl
theorem p2 : (putF ab8 [([], [])]).2 = 1 := by kernel_rfl
theorem p3 : (putF [97] [([], [])]).2 = 5 := by kernel_rfl
theorem p4 : (putF (r64 ++ ab8) []).2 = 7 := by kernel_rfl
theorem p5 : putF X8 [([65], [98]), ([112, 111, 115, 116, 109, 97, 115, 116, 101, 114], [67])] = (X8, 0) := by kernel_rfl
theorem p6 : putF X9 [([97], [98]), ([102, 32, 103], [67])] = ([88, 32, 60, 97, 64, 98, 62, 44, 32, 34, 102, 32, 103, 34, 64, 67, 32, 40, 100, 41], 0) := by kernel_rfl
theorem r64_len : r64.length = 256 := by kernel_rfl
theorem r65_len : r65.length = 65 := by kernel_rfl

set_option maxHeartbeats 4000000 in
theorem lknown_w {s : SS} (hG : Gb s) (hF : Fine s) : CallW pr n_law08_ListKnown [] s fun v s' => v = .bool true := by
  refine CallW.run good ok_law08_ListKnown (by simp) rfl ?_
  (repeat(first|refine pSeq ?_|refine pReg ?_|refine sRaw ?_|refine sCons ?_|refine sNil ?_|refine pBlock ?_|refine pSkip ?_|refine pExit ?_|refine pRet ?_|refine pCond ?_|refine gNone ?_|refine gOn rfl ?_|refine gOff rfl rfl ?_|refine gTup rfl ?_))
  refine ⟨.new (.map [] 0) fun id => .map (some id), rfl, ?_⟩
  (repeat(first|refine pSeq ?_|refine pReg ?_|refine sRaw ?_|refine sCons ?_|refine sNil ?_|refine pBlock ?_|refine pSkip ?_|refine pExit ?_|refine pRet ?_|refine pCond ?_|refine gNone ?_|refine gOn rfl ?_|refine gOff rfl rfl ?_|refine gTup rfl ?_))
  have hm0 : lookH (({ s with heap := (s.next, some (.map [] 0)) :: s.heap, next := s.next + 1 } : SS)).heap s.next = some (.map [] 0) := lkH
  have cc0 : Chg s ({ s with heap := (s.next, some (.map [] 0)) :: s.heap, next := s.next + 1 } : SS) [] := Chg.new []
  have nx0 : (({ s with heap := (s.next, some (.map [] 0)) :: s.heap, next := s.next + 1 } : SS)).next = s.next + 1 := rfl
  generalize ({ s with heap := (s.next, some (.map [] 0)) :: s.heap, next := s.next + 1 } : SS) = a0 at hm0 cc0 nx0 ⊢
  refine insert_abs rfl um8 un_S rfl rfl rfl hm0 (by omega) (by decide) (by decide) fun a1 hm1 c1 n1 => ?_
  (repeat(first|refine pSeq ?_|refine pReg ?_|refine sRaw ?_|refine sCons ?_|refine sNil ?_|refine pBlock ?_|refine pSkip ?_|refine pExit ?_|refine pRet ?_|refine pCond ?_|refine gNone ?_|refine gOn rfl ?_|refine gOff rfl rfl ?_|refine gTup rfl ?_))
  have cc1 := cc0.fresh c1 (by simp <;> omega)
  have nx1 : a1.next = s.next + 1 := by omega
  refine insert_abs rfl um8 un_S rfl rfl rfl hm1 (by omega) (by decide) (by decide) fun a2 hm2 c2 n2 => ?_
  (repeat(first|refine pSeq ?_|refine pReg ?_|refine sRaw ?_|refine sCons ?_|refine sNil ?_|refine pBlock ?_|refine pSkip ?_|refine pExit ?_|refine pRet ?_|refine pCond ?_|refine gNone ?_|refine gOn rfl ?_|refine gOff rfl rfl ?_|refine gTup rfl ?_))
  have cc2 := cc1.fresh c2 (by simp <;> omega)
  have nx2 : a2.next = s.next + 1 := by omega
  refine insert_abs rfl um8 un_S rfl rfl rfl hm2 (by omega) (by decide) (by decide) fun a3 hm3 c3 n3 => ?_
  (repeat(first|refine pSeq ?_|refine pReg ?_|refine sRaw ?_|refine sCons ?_|refine sNil ?_|refine pBlock ?_|refine pSkip ?_|refine pExit ?_|refine pRet ?_|refine pCond ?_|refine gNone ?_|refine gOn rfl ?_|refine gOff rfl rfl ?_|refine gTup rfl ?_))
  have cc3 := cc2.fresh c3 (by simp <;> omega)
  have nx3 : a3.next = s.next + 1 := by omega
  refine insert_abs rfl um8 un_S rfl rfl rfl hm3 (by omega) (by decide) (by decide) fun a4 hm4 c4 n4 => ?_
  (repeat(first|refine pSeq ?_|refine pReg ?_|refine sRaw ?_|refine sCons ?_|refine sNil ?_|refine pBlock ?_|refine pSkip ?_|refine pExit ?_|refine pRet ?_|refine pCond ?_|refine gNone ?_|refine gOn rfl ?_|refine gOff rfl rfl ?_|refine gTup rfl ?_))
  have cc4 := cc3.fresh c4 (by simp <;> omega)
  have nx4 : a4.next = s.next + 1 := by omega
  refine insert_abs rfl um8 un_S rfl rfl rfl hm4 (by omega) (by decide) (by decide) fun a5 hm5 c5 n5 => ?_
  (repeat(first|refine pSeq ?_|refine pReg ?_|refine sRaw ?_|refine sCons ?_|refine sNil ?_|refine pBlock ?_|refine pSkip ?_|refine pExit ?_|refine pRet ?_|refine pCond ?_|refine gNone ?_|refine gOn rfl ?_|refine gOff rfl rfl ?_|refine gTup rfl ?_))
  have cc5 := cc4.fresh c5 (by simp <;> omega)
  have nx5 : a5.next = s.next + 1 := by omega
  refine insert_abs rfl um8 un_S rfl rfl rfl hm5 (by omega) (by decide) (by decide) fun a6 hm6 c6 n6 => ?_
  (repeat(first|refine pSeq ?_|refine pReg ?_|refine sRaw ?_|refine sCons ?_|refine sNil ?_|refine pBlock ?_|refine pSkip ?_|refine pExit ?_|refine pRet ?_|refine pCond ?_|refine gNone ?_|refine gOn rfl ?_|refine gOff rfl rfl ?_|refine gTup rfl ?_))
  have cc6 := cc5.fresh c6 (by simp <;> omega)
  have nx6 : a6.next = s.next + 1 := by omega
  refine insert_abs rfl um8 un_S rfl rfl rfl hm6 (by omega) (by decide) (by decide) fun a7 hm7 c7 n7 => ?_
  (repeat(first|refine pSeq ?_|refine pReg ?_|refine sRaw ?_|refine sCons ?_|refine sNil ?_|refine pBlock ?_|refine pSkip ?_|refine pExit ?_|refine pRet ?_|refine pCond ?_|refine gNone ?_|refine gOn rfl ?_|refine gOff rfl rfl ?_|refine gTup rfl ?_))
  have cc7 := cc6.fresh c7 (by simp <;> omega)
  have nx7 : a7.next = s.next + 1 := by omega
  refine insert_abs rfl um8 un_S rfl rfl rfl hm7 (by omega) (by decide) (by decide) fun a8 hm8 c8 n8 => ?_
  (repeat(first|refine pSeq ?_|refine pReg ?_|refine sRaw ?_|refine sCons ?_|refine sNil ?_|refine pBlock ?_|refine pSkip ?_|refine pExit ?_|refine pRet ?_|refine pCond ?_|refine gNone ?_|refine gOn rfl ?_|refine gOff rfl rfl ?_|refine gTup rfl ?_))
  have cc8 := cc7.fresh c8 (by simp <;> omega)
  have nx8 : a8.next = s.next + 1 := by omega
  refine insert_abs rfl um8 un_S rfl rfl rfl hm8 (by omega) (by decide) (by decide) fun a9 hm9 c9 n9 => ?_
  (repeat(first|refine pSeq ?_|refine pReg ?_|refine sRaw ?_|refine sCons ?_|refine sNil ?_|refine pBlock ?_|refine pSkip ?_|refine pExit ?_|refine pRet ?_|refine pCond ?_|refine gNone ?_|refine gOn rfl ?_|refine gOff rfl rfl ?_|refine gTup rfl ?_))
  have cc9 := cc8.fresh c9 (by simp <;> omega)
  have nx9 : a9.next = s.next + 1 := by omega
  refine insert_abs rfl um8 un_S rfl rfl rfl hm9 (by omega) (by decide) (by decide) fun a10 hm10 c10 n10 => ?_
  (repeat(first|refine pSeq ?_|refine pReg ?_|refine sRaw ?_|refine sCons ?_|refine sNil ?_|refine pBlock ?_|refine pSkip ?_|refine pExit ?_|refine pRet ?_|refine pCond ?_|refine gNone ?_|refine gOn rfl ?_|refine gOff rfl rfl ?_|refine gTup rfl ?_))
  have cc10 := cc9.fresh c10 (by simp <;> omega)
  have nx10 : a10.next = s.next + 1 := by omega
  refine insert_abs rfl um8 un_S rfl rfl rfl hm10 (by omega) (by decide) (by decide) fun a11 hm11 c11 n11 => ?_
  (repeat(first|refine pSeq ?_|refine pReg ?_|refine sRaw ?_|refine sCons ?_|refine sNil ?_|refine pBlock ?_|refine pSkip ?_|refine pExit ?_|refine pRet ?_|refine pCond ?_|refine gNone ?_|refine gOn rfl ?_|refine gOff rfl rfl ?_|refine gTup rfl ?_))
  have cc11 := cc10.fresh c11 (by simp <;> omega)
  have nx11 : a11.next = s.next + 1 := by omega
  refine insert_abs rfl um8 un_S rfl rfl rfl hm11 (by omega) (by decide) (by decide) fun a12 hm12 c12 n12 => ?_
  (repeat(first|refine pSeq ?_|refine pReg ?_|refine sRaw ?_|refine sCons ?_|refine sNil ?_|refine pBlock ?_|refine pSkip ?_|refine pExit ?_|refine pRet ?_|refine pCond ?_|refine gNone ?_|refine gOn rfl ?_|refine gOff rfl rfl ?_|refine gTup rfl ?_))
  have cc12 := cc11.fresh c12 (by simp <;> omega)
  have nx12 : a12.next = s.next + 1 := by omega
  refine insert_abs rfl um8 un_S rfl rfl rfl hm12 (by omega) (by decide) (by decide) fun a13 hm13 c13 n13 => ?_
  (repeat(first|refine pSeq ?_|refine pReg ?_|refine sRaw ?_|refine sCons ?_|refine sNil ?_|refine pBlock ?_|refine pSkip ?_|refine pExit ?_|refine pRet ?_|refine pCond ?_|refine gNone ?_|refine gOn rfl ?_|refine gOff rfl rfl ?_|refine gTup rfl ?_))
  have cc13 := cc12.fresh c13 (by simp <;> omega)
  have nx13 : a13.next = s.next + 1 := by omega
  refine insert_abs rfl um8 un_S rfl rfl rfl hm13 (by omega) (by decide) (by decide) fun a14 hm14 c14 n14 => ?_
  (repeat(first|refine pSeq ?_|refine pReg ?_|refine sRaw ?_|refine sCons ?_|refine sNil ?_|refine pBlock ?_|refine pSkip ?_|refine pExit ?_|refine pRet ?_|refine pCond ?_|refine gNone ?_|refine gOn rfl ?_|refine gOff rfl rfl ?_|refine gTup rfl ?_))
  have cc14 := cc13.fresh c14 (by simp <;> omega)
  have nx14 : a14.next = s.next + 1 := by omega
  refine insert_abs rfl um8 un_S rfl rfl rfl hm14 (by omega) (by decide) (by decide) fun a15 hm15 c15 n15 => ?_
  (repeat(first|refine pSeq ?_|refine pReg ?_|refine sRaw ?_|refine sCons ?_|refine sNil ?_|refine pBlock ?_|refine pSkip ?_|refine pExit ?_|refine pRet ?_|refine pCond ?_|refine gNone ?_|refine gOn rfl ?_|refine gOff rfl rfl ?_|refine gTup rfl ?_))
  have cc15 := cc14.fresh c15 (by simp <;> omega)
  have nx15 : a15.next = s.next + 1 := by omega
  refine insert_abs rfl um8 un_S rfl rfl rfl hm15 (by omega) (by decide) (by decide) fun a16 hm16 c16 n16 => ?_
  (repeat(first|refine pSeq ?_|refine pReg ?_|refine sRaw ?_|refine sCons ?_|refine sNil ?_|refine pBlock ?_|refine pSkip ?_|refine pExit ?_|refine pRet ?_|refine pCond ?_|refine gNone ?_|refine gOn rfl ?_|refine gOff rfl rfl ?_|refine gTup rfl ?_))
  have cc16 := cc15.fresh c16 (by simp <;> omega)
  have nx16 : a16.next = s.next + 1 := by omega
  refine insert_abs rfl um8 un_S rfl rfl rfl hm16 (by omega) (by decide) (by decide) fun a17 hm17 c17 n17 => ?_
  (repeat(first|refine pSeq ?_|refine pReg ?_|refine sRaw ?_|refine sCons ?_|refine sNil ?_|refine pBlock ?_|refine pSkip ?_|refine pExit ?_|refine pRet ?_|refine pCond ?_|refine gNone ?_|refine gOn rfl ?_|refine gOff rfl rfl ?_|refine gTup rfl ?_))
  have cc17 := cc16.fresh c17 (by simp <;> omega)
  have nx17 : a17.next = s.next + 1 := by omega
  have hmE : lookH a17.heap s.next = some (.map esK8 17) := hm17
  have hfE : Fine a17 := cc17.fine hF
  refine range_W rfl um8 rfl hmE ?_
  (repeat(first|refine pSeq ?_|refine pReg ?_|refine sRaw ?_|refine sCons ?_|refine sNil ?_|refine pBlock ?_|refine pSkip ?_|refine pExit ?_|refine pRet ?_|refine pCond ?_|refine gNone ?_|refine gOn rfl ?_|refine gOff rfl rfl ?_|refine gTup rfl ?_))
  refine pLoop (MW.maps good (id0 := 0) (g := ⟨a17, a17.next, s.next, 17, esK8, [(30, .pointer (some ⟨a17.next, 0, none⟩))]⟩) rfl (Wk.same ⟨rfl, trivial⟩) rfl hmE (by show a17.next ≠ s.next; omega) (fun e he => by obtain ⟨_, _, _, _, _, h⟩ := esK8_is he; exact h) ?_ ?_ ?_)
  · intro n seen hn e he hs
    have hn' : a17.next < n := hn
    obtain ⟨l, hk, hf, hv, hl, hb⟩ := esK8_is he
    rw [hk, hv]
    (repeat(first|refine pSeq ?_|refine pReg ?_|refine sRaw ?_|refine sCons ?_|refine sNil ?_|refine pBlock ?_|refine pSkip ?_|refine pExit ?_|refine pRet ?_|refine pCond ?_|refine gNone ?_|refine gOn rfl ?_|refine gOff rfl rfl ?_|refine gTup rfl ?_))
    refine entry_W (e := e) rfl rfl lkH (lkT (show a17.next ≠ s.next by omega) hmE) he esK8_born ?_
    rw [hk, hv]
    (repeat(first|refine pSeq ?_|refine pReg ?_|refine sRaw ?_|refine sCons ?_|refine sNil ?_|refine pBlock ?_|refine pSkip ?_|refine pExit ?_|refine pRet ?_|refine pCond ?_|refine gNone ?_|refine gOn rfl ?_|refine gOff rfl rfl ?_|refine gTup rfl ?_))
    have c0 : Chg s (MapL.at ⟨a17, a17.next, s.next, 17, esK8, [(30, .pointer (some ⟨a17.next, 0, none⟩))]⟩ n (seen ++ [e.born])) [] := cc17.nil (MapL.at_chg ⟨a17, a17.next, s.next, 17, esK8, [(30, .pointer (some ⟨a17.next, 0, none⟩))]⟩ hfE rfl hn')
    refine (find_w (l := l) (c0.fine hF) (hG.chg c0 (by simp)) (by omega)).mono fun v s3 q => ?_
    obtain ⟨W3, cw3, rfl, o3, c3, -⟩ := q
    rw [hf]
    (repeat(first|refine pSeq ?_|refine pReg ?_|refine sRaw ?_|refine sCons ?_|refine sNil ?_|refine pBlock ?_|refine pSkip ?_|refine pExit ?_|refine pRet ?_|refine pCond ?_|refine gNone ?_|refine gOn rfl ?_|refine gOff rfl rfl ?_|refine gTup rfl ?_))
    intro q hq; obtain rfl : q = false := (by rw [hq]; simp <;> omega); (repeat(first|refine pSeq ?_|refine pReg ?_|refine sRaw ?_|refine sCons ?_|refine sNil ?_|refine pBlock ?_|refine pSkip ?_|refine pExit ?_|refine pRet ?_|refine pCond ?_|refine gNone ?_|refine gOn rfl ?_|refine gOff rfl rfl ?_|refine gTup rfl ?_))
    intro q hq; obtain rfl : q = false := (by rw [hq]; simp <;> omega); (repeat(first|refine pSeq ?_|refine pReg ?_|refine sRaw ?_|refine sCons ?_|refine sNil ?_|refine pBlock ?_|refine pSkip ?_|refine pExit ?_|refine pRet ?_|refine pCond ?_|refine gNone ?_|refine gOn rfl ?_|refine gOff rfl rfl ?_|refine gTup rfl ?_))
    exact ⟨rfl, MapL.back ⟨rfl, trivial⟩ hfE rfl hn' c3⟩
  · intro n seen hn
    (repeat(first|refine pSeq ?_|refine pReg ?_|refine sRaw ?_|refine sCons ?_|refine sNil ?_|refine pBlock ?_|refine pSkip ?_|refine pExit ?_|refine pRet ?_|refine pCond ?_|refine gNone ?_|refine gOn rfl ?_|refine gOff rfl rfl ?_|refine gTup rfl ?_))
    exact ⟨rfl, MapL.over ⟨rfl, trivial⟩ hfE rfl⟩
  intro N hN
  have cf := cc17.nil ((MapL.fin_chg ⟨a17, a17.next, s.next, 17, esK8, [(30, .pointer (some ⟨a17.next, 0, none⟩))]⟩ (n := N) (Nat.le_of_succ_le hN)))
  dsimp only [MapL.fin] at cf ⊢
  generalize hst : ({ heap := a17.heap, next := N, gl := a17.gl } : SS) = f at cf ⊢
  (repeat(first|refine pSeq ?_|refine pReg ?_|refine sRaw ?_|refine sCons ?_|refine sNil ?_|refine pBlock ?_|refine pSkip ?_|refine pExit ?_|refine pRet ?_|refine pCond ?_|refine gNone ?_|refine gOn rfl ?_|refine gOff rfl rfl ?_|refine gTup rfl ?_))
  have e0 : Chg s ({ f with heap := (f.next, some (.cells (bad8.map str) 9 false false)) :: f.heap, next := f.next + 1 } : SS) [] := cf.nil (.new [])
  have kb : lookH (({ f with heap := (f.next, some (.cells (bad8.map str) 9 false false)) :: f.heap, next := f.next + 1 } : SS)).heap f.next = some (.cells (bad8.map str) 9 false false) := lkH
  refine pLoop (MW.head good (fun x : Nat × SS => 34 - x.1) (fun x => x.1 ≤ 34 ∧ Chg s x.2 [] ∧ lookH x.2.heap f.next = some (.cells (bad8.map str) 9 false false) ∧ f.next < x.2.next) (fun x => [(49, .slice (some ⟨f.next, 0, none⟩) 34 34), (50, .int .i64 34), (51, .int .i64 x.1)]) (fun x => x.2) (0, _) ⟨Nat.zero_le _, e0, kb, Nat.lt_succ_self _⟩ (Wk.same ⟨rfl, rfl, rfl, trivial⟩) ?_)
  intro ⟨i, s1⟩ ⟨hi, c1, kb, lt1⟩
  dsimp only at hi c1 kb lt1 ⊢
  (repeat(first|refine pSeq ?_|refine pReg ?_|refine sRaw ?_|refine sCons ?_|refine sNil ?_|refine pBlock ?_|refine pSkip ?_|refine pExit ?_|refine pRet ?_|refine pCond ?_|refine gNone ?_|refine gOn rfl ?_|refine gOff rfl rfl ?_|refine gTup rfl ?_))
  intro q hq
  by_cases hlt : i < 34
  · obtain rfl : q = true := by rw [hq]; simp <;> omega
    obtain ⟨l, hxx⟩ : ∃ l, bad8[i]? = some l := ⟨_, List.getElem?_eq_getElem (show i < bad8.length from hlt)⟩
    obtain ⟨b1, b2, b3⟩ := bad8_is (List.mem_of_getElem? hxx)
    (repeat(first|refine pSeq ?_|refine pReg ?_|refine sRaw ?_|refine sCons ?_|refine sNil ?_|refine pBlock ?_|refine pSkip ?_|refine pExit ?_|refine pRet ?_|refine pCond ?_|refine gNone ?_|refine gOn rfl ?_|refine gOff rfl rfl ?_|refine gTup rfl ?_))
    refine ⟨by omega, ?_⟩
    intro m hm o ho
    obtain rfl : m = i := by omega
    rw [Nat.zero_add, Nat.mul_one] at ho
    subst ho
    (repeat(first|refine pSeq ?_|refine pReg ?_|refine sRaw ?_|refine sCons ?_|refine sNil ?_|refine pBlock ?_|refine pSkip ?_|refine pExit ?_|refine pRet ?_|refine pCond ?_|refine gNone ?_|refine gOn rfl ?_|refine gOff rfl rfl ?_|refine gTup rfl ?_))
    refine ldS_is (l := l) rfl kb (by rw [List.getElem?_map, hxx]; rfl) ?_
    (repeat(first|refine pSeq ?_|refine pReg ?_|refine sRaw ?_|refine sCons ?_|refine sNil ?_|refine pBlock ?_|refine pSkip ?_|refine pExit ?_|refine pRet ?_|refine pCond ?_|refine gNone ?_|refine gOn rfl ?_|refine gOff rfl rfl ?_|refine gTup rfl ?_))
    refine (find_w (l := l) (c1.fine hF) (hG.chg c1 (by simp)) (by omega)).mono fun v s3 q => ?_
    obtain ⟨W3, cw3, rfl, o3, c3, -⟩ := q
    rw [b1, b2]
    (repeat(first|refine pSeq ?_|refine pReg ?_|refine sRaw ?_|refine sCons ?_|refine sNil ?_|refine pBlock ?_|refine pSkip ?_|refine pExit ?_|refine pRet ?_|refine pCond ?_|refine gNone ?_|refine gOn rfl ?_|refine gOff rfl rfl ?_|refine gTup rfl ?_))
    intro q hq; obtain rfl : q = false := (by rw [hq]; simp <;> omega); (repeat(first|refine pSeq ?_|refine pReg ?_|refine sRaw ?_|refine sCons ?_|refine sNil ?_|refine pBlock ?_|refine pSkip ?_|refine pExit ?_|refine pRet ?_|refine pCond ?_|refine gNone ?_|refine gOn rfl ?_|refine gOff rfl rfl ?_|refine gTup rfl ?_))
    intro q hq; obtain rfl : q = false := (by rw [hq]; simp <;> omega); (repeat(first|refine pSeq ?_|refine pReg ?_|refine sRaw ?_|refine sCons ?_|refine sNil ?_|refine pBlock ?_|refine pSkip ?_|refine pExit ?_|refine pRet ?_|refine pCond ?_|refine gNone ?_|refine gOn rfl ?_|refine gOff rfl rfl ?_|refine gTup rfl ?_))
    intro z hz
    rw [i64_id (by omega)] at hz
    obtain rfl : z = ((o + 1 : Nat) : Int) := by omega
    (repeat(first|refine pSeq ?_|refine pReg ?_|refine sRaw ?_|refine sCons ?_|refine sNil ?_|refine pBlock ?_|refine pSkip ?_|refine pExit ?_|refine pRet ?_|refine pCond ?_|refine gNone ?_|refine gOn rfl ?_|refine gOff rfl rfl ?_|refine gTup rfl ?_))
    exact ⟨(o + 1, s3), ⟨hlt, c1.nil c3, c3.blk _ _ lt1 (by simp) kb, Nat.lt_of_lt_of_le lt1 c3.next⟩, by show 34 - (o + 1) < 34 - o; omega, Wk.same ⟨rfl, rfl, rfl, trivial⟩⟩
  obtain rfl : q = false := by rw [hq]; simp <;> omega
  clear hlt hq hi
  (repeat(first|refine pSeq ?_|refine pReg ?_|refine sRaw ?_|refine sCons ?_|refine sNil ?_|refine pBlock ?_|refine pSkip ?_|refine pExit ?_|refine pRet ?_|refine pCond ?_|refine gNone ?_|refine gOn rfl ?_|refine gOff rfl rfl ?_|refine gTup rfl ?_))
  refine (repeat8_w (l := [97, 64, 98, 44]) (n := 64) (by decide) (by decide)).mono fun v w q => ?_
  obtain ⟨rfl, rfl⟩ := q
  rw [show Lib.repeatL [97, 64, 98, 44] 64 = r64 from rfl]
  (repeat(first|refine pSeq ?_|refine pReg ?_|refine sRaw ?_|refine sCons ?_|refine sNil ?_|refine pBlock ?_|refine pSkip ?_|refine pExit ?_|refine pRet ?_|refine pCond ?_|refine gNone ?_|refine gOn rfl ?_|refine gOff rfl rfl ?_|refine gTup rfl ?_))
  refine (find_w (l := r64) (c1.fine hF) (hG.chg c1 (by simp)) (by simp [r64_len, r65_len, ab8])).mono fun v s2 q => ?_
  obtain ⟨W2, cw2, rfl, -, d2, -⟩ := q
  have c2 := c1.nil d2
  rw [f64.1, f64.2]
  (repeat(first|refine pSeq ?_|refine pReg ?_|refine sRaw ?_|refine sCons ?_|refine sNil ?_|refine pBlock ?_|refine pSkip ?_|refine pExit ?_|refine pRet ?_|refine pCond ?_|refine gNone ?_|refine gOn rfl ?_|refine gOff rfl rfl ?_|refine gTup rfl ?_))
  refine ⟨by simp [r64_len, r65_len], ?_⟩
  intro x hx
  obtain rfl : x = r64 ++ ab8 := hx
  (repeat(first|refine pSeq ?_|refine pReg ?_|refine sRaw ?_|refine sCons ?_|refine sNil ?_|refine pBlock ?_|refine pSkip ?_|refine pExit ?_|refine pRet ?_|refine pCond ?_|refine gNone ?_|refine gOn rfl ?_|refine gOff rfl rfl ?_|refine gTup rfl ?_))
  refine (find_w (l := r64 ++ ab8) (c2.fine hF) (hG.chg c2 (by simp)) (by simp [r64_len, r65_len, ab8])).mono fun v s3 q => ?_
  obtain ⟨W3, cw3, rfl, -, d3, -⟩ := q
  have c3 := c2.nil d3
  rw [f65]
  (repeat(first|refine pSeq ?_|refine pReg ?_|refine sRaw ?_|refine sCons ?_|refine sNil ?_|refine pBlock ?_|refine pSkip ?_|refine pExit ?_|refine pRet ?_|refine pCond ?_|refine gNone ?_|refine gOn rfl ?_|refine gOff rfl rfl ?_|refine gTup rfl ?_))
  refine (repeat8_w (l := [120]) (n := 65) (by decide) (by decide)).mono fun v w q => ?_
  obtain ⟨rfl, rfl⟩ := q
  rw [show Lib.repeatL [120] 65 = r65 from rfl]
  (repeat(first|refine pSeq ?_|refine pReg ?_|refine sRaw ?_|refine sCons ?_|refine sNil ?_|refine pBlock ?_|refine pSkip ?_|refine pExit ?_|refine pRet ?_|refine pCond ?_|refine gNone ?_|refine gOn rfl ?_|refine gOff rfl rfl ?_|refine gTup rfl ?_))
  refine ⟨by simp [r64_len, r65_len], ?_⟩
  intro x hx
  obtain rfl : x = r65 ++ [64, 98] := hx
  (repeat(first|refine pSeq ?_|refine pReg ?_|refine sRaw ?_|refine sCons ?_|refine sNil ?_|refine pBlock ?_|refine pSkip ?_|refine pExit ?_|refine pRet ?_|refine pCond ?_|refine gNone ?_|refine gOn rfl ?_|refine gOff rfl rfl ?_|refine gTup rfl ?_))
  refine (find_w (l := r65 ++ [64, 98]) (c3.fine hF) (hG.chg c3 (by simp)) (by simp [r64_len, r65_len, ab8])).mono fun v s4 q => ?_
  obtain ⟨W4, cw4, rfl, -, d4, -⟩ := q
  have c4 := c3.nil d4
  rw [f66]
  (repeat(first|refine pSeq ?_|refine pReg ?_|refine sRaw ?_|refine sCons ?_|refine sNil ?_|refine pBlock ?_|refine pSkip ?_|refine pExit ?_|refine pRet ?_|refine pCond ?_|refine gNone ?_|refine gOn rfl ?_|refine gOff rfl rfl ?_|refine gTup rfl ?_))
  refine (put_w (l := ab8) (ys := []) (A := none) (ca := 0) (hG.chg (c4) (by simp)) (c4.fine hF) (by simp [r64_len, ab8, X8, X9]) rfl (by simp) (by simp)).mono fun v s5 q => ?_
  obtain ⟨rfl, d5⟩ := q
  have c5 := c4.nil d5
  rw [p1]
  (repeat(first|refine pSeq ?_|refine pReg ?_|refine sRaw ?_|refine sCons ?_|refine sNil ?_|refine pBlock ?_|refine pSkip ?_|refine pExit ?_|refine pRet ?_|refine pCond ?_|refine gNone ?_|refine gOn rfl ?_|refine gOff rfl rfl ?_|refine gTup rfl ?_))
  refine (put_w (l := ab8) (ys := [([], [])]) (A := some ⟨_, 0, none⟩) (ca := 1) (hG.chg (c5.nil (.new [])) (by simp)) ((c5.nil (.new [])).fine hF) (by simp [r64_len, ab8, X8, X9]) ⟨rfl, rfl, Nat.lt_succ_self _, _, _, _, lkH⟩ (by simp) (by simp)).mono fun v s6 q => ?_
  obtain ⟨rfl, d6⟩ := q
  have c6 := (c5.nil (.new [])).nil d6
  rw [p2]
  (repeat(first|refine pSeq ?_|refine pReg ?_|refine sRaw ?_|refine sCons ?_|refine sNil ?_|refine pBlock ?_|refine pSkip ?_|refine pExit ?_|refine pRet ?_|refine pCond ?_|refine gNone ?_|refine gOn rfl ?_|refine gOff rfl rfl ?_|refine gTup rfl ?_))
  refine (put_w (l := [97]) (ys := [([], [])]) (A := some ⟨_, 0, none⟩) (ca := 1) (hG.chg (c6.nil (.new [])) (by simp)) ((c6.nil (.new [])).fine hF) (by simp [r64_len, ab8, X8, X9]) ⟨rfl, rfl, Nat.lt_succ_self _, _, _, _, lkH⟩ (by simp) (by simp)).mono fun v s7 q => ?_
  obtain ⟨rfl, d7⟩ := q
  have c7 := (c6.nil (.new [])).nil d7
  rw [p3]
  (repeat(first|refine pSeq ?_|refine pReg ?_|refine sRaw ?_|refine sCons ?_|refine sNil ?_|refine pBlock ?_|refine pSkip ?_|refine pExit ?_|refine pRet ?_|refine pCond ?_|refine gNone ?_|refine gOn rfl ?_|refine gOff rfl rfl ?_|refine gTup rfl ?_))
  refine ⟨by simp [r64_len, r65_len], ?_⟩
  intro x hx
  obtain rfl : x = r64 ++ ab8 := hx
  (repeat(first|refine pSeq ?_|refine pReg ?_|refine sRaw ?_|refine sCons ?_|refine sNil ?_|refine pBlock ?_|refine pSkip ?_|refine pExit ?_|refine pRet ?_|refine pCond ?_|refine gNone ?_|refine gOn rfl ?_|refine gOff rfl rfl ?_|refine gTup rfl ?_))
  refine (put_w (l := r64 ++ ab8) (ys := []) (A := none) (ca := 0) (hG.chg (c7) (by simp)) (c7.fine hF) (by simp [r64_len, ab8, X8, X9]) rfl (by simp) (by simp)).mono fun v s8 q => ?_
  obtain ⟨rfl, d8⟩ := q
  have c8 := c7.nil d8
  rw [p4]
  (repeat(first|refine pSeq ?_|refine pReg ?_|refine sRaw ?_|refine sCons ?_|refine sNil ?_|refine pBlock ?_|refine pSkip ?_|refine pExit ?_|refine pRet ?_|refine pCond ?_|refine gNone ?_|refine gOn rfl ?_|refine gOff rfl rfl ?_|refine gTup rfl ?_))
  refine (put_w (l := X8) (ys := [([65], [98]), ([112, 111, 115, 116, 109, 97, 115, 116, 101, 114], [67])]) (A := some ⟨_, 0, none⟩) (ca := 2) (hG.chg (c8.nil (.new [])) (by simp)) ((c8.nil (.new [])).fine hF) (by simp [r64_len, ab8, X8, X9]) ⟨rfl, rfl, Nat.lt_succ_self _, _, _, _, lkH⟩ (by simp) (by simp)).mono fun v s9 q => ?_
  obtain ⟨rfl, d9⟩ := q
  have c9 := (c8.nil (.new [])).nil d9
  rw [p5]
  (repeat(first|refine pSeq ?_|refine pReg ?_|refine sRaw ?_|refine sCons ?_|refine sNil ?_|refine pBlock ?_|refine pSkip ?_|refine pExit ?_|refine pRet ?_|refine pCond ?_|refine gNone ?_|refine gOn rfl ?_|refine gOff rfl rfl ?_|refine gTup rfl ?_))
  refine (put_w (l := X9) (ys := [([97], [98]), ([102, 32, 103], [67])]) (A := some ⟨_, 0, none⟩) (ca := 2) (hG.chg (c9.nil (.new [])) (by simp)) ((c9.nil (.new [])).fine hF) (by simp [r64_len, ab8, X8, X9]) ⟨rfl, rfl, Nat.lt_succ_self _, _, _, _, lkH⟩ (by simp) (by simp)).mono fun v s10 q => ?_
  obtain ⟨rfl, d10⟩ := q
  have c10 := (c9.nil (.new [])).nil d10
  rw [p6]
  (repeat(first|refine pSeq ?_|refine pReg ?_|refine sRaw ?_|refine sCons ?_|refine sNil ?_|refine pBlock ?_|refine pSkip ?_|refine pExit ?_|refine pRet ?_|refine pCond ?_|refine gNone ?_|refine gOn rfl ?_|refine gOff rfl rfl ?_|refine gTup rfl ?_))
  intro q hq
  obtain rfl : q = true := by rw [hq]; first | rfl | exact decide_eq_true rfl
  (repeat(first|refine pSeq ?_|refine pReg ?_|refine sRaw ?_|refine sCons ?_|refine sNil ?_|refine pBlock ?_|refine pSkip ?_|refine pExit ?_|refine pRet ?_|refine pCond ?_|refine gNone ?_|refine gOn rfl ?_|refine gOff rfl rfl ?_|refine gTup rfl ?_))
  intro q hq
  obtain rfl : q = true := by rw [hq]; first | rfl | exact decide_eq_true rfl
  (repeat(first|refine pSeq ?_|refine pReg ?_|refine sRaw ?_|refine sCons ?_|refine sNil ?_|refine pBlock ?_|refine pSkip ?_|refine pExit ?_|refine pRet ?_|refine pCond ?_|refine gNone ?_|refine gOn rfl ?_|refine gOff rfl rfl ?_|refine gTup rfl ?_))
  intro q hq
  obtain rfl : q = true := by rw [hq]; first | rfl | exact decide_eq_true rfl
  (repeat(first|refine pSeq ?_|refine pReg ?_|refine sRaw ?_|refine sCons ?_|refine sNil ?_|refine pBlock ?_|refine pSkip ?_|refine pExit ?_|refine pRet ?_|refine pCond ?_|refine gNone ?_|refine gOn rfl ?_|refine gOff rfl rfl ?_|refine gTup rfl ?_))
  intro q hq
  obtain rfl : q = true := by rw [hq]; first | rfl | exact decide_eq_true rfl
  (repeat(first|refine pSeq ?_|refine pReg ?_|refine sRaw ?_|refine sCons ?_|refine sNil ?_|refine pBlock ?_|refine pSkip ?_|refine pExit ?_|refine pRet ?_|refine pCond ?_|refine gNone ?_|refine gOn rfl ?_|refine gOff rfl rfl ?_|refine gTup rfl ?_))
  intro q hq
  obtain rfl : q = true := by rw [hq]; first | rfl | exact decide_eq_true rfl
  (repeat(first|refine pSeq ?_|refine pReg ?_|refine sRaw ?_|refine sCons ?_|refine sNil ?_|refine pBlock ?_|refine pSkip ?_|refine pExit ?_|refine pRet ?_|refine pCond ?_|refine gNone ?_|refine gOn rfl ?_|refine gOff rfl rfl ?_|refine gTup rfl ?_))
  intro q hq
  obtain rfl : q = true := by rw [hq]; first | rfl | exact decide_eq_true rfl
  (repeat(first|refine pSeq ?_|refine pReg ?_|refine sRaw ?_|refine sCons ?_|refine sNil ?_|refine pBlock ?_|refine pSkip ?_|refine pExit ?_|refine pRet ?_|refine pCond ?_|refine gNone ?_|refine gOn rfl ?_|refine gOff rfl rfl ?_|refine gTup rfl ?_))
  intro q hq
  obtain rfl : q = true := by rw [hq]; first | rfl | exact decide_eq_true rfl
  (repeat(first|refine pSeq ?_|refine pReg ?_|refine sRaw ?_|refine sCons ?_|refine sNil ?_|refine pBlock ?_|refine pSkip ?_|refine pExit ?_|refine pRet ?_|refine pCond ?_|refine gNone ?_|refine gOn rfl ?_|refine gOff rfl rfl ?_|refine gTup rfl ?_))
  intro q hq
  obtain rfl : q = true := by rw [hq]; first | rfl | exact decide_eq_true rfl
  (repeat(first|refine pSeq ?_|refine pReg ?_|refine sRaw ?_|refine sCons ?_|refine sNil ?_|refine pBlock ?_|refine pSkip ?_|refine pExit ?_|refine pRet ?_|refine pCond ?_|refine gNone ?_|refine gOn rfl ?_|refine gOff rfl rfl ?_|refine gTup rfl ?_))
  intro q hq
  obtain rfl : q = true := by rw [hq]; first | rfl | exact decide_eq_true rfl
  (repeat(first|refine pSeq ?_|refine pReg ?_|refine sRaw ?_|refine sCons ?_|refine sNil ?_|refine pBlock ?_|refine pSkip ?_|refine pExit ?_|refine pRet ?_|refine pCond ?_|refine gNone ?_|refine gOn rfl ?_|refine gOff rfl rfl ?_|refine gTup rfl ?_))
  intro q hq
  obtain rfl : q = true := by rw [hq]; first | rfl | exact decide_eq_true rfl
  (repeat(first|refine pSeq ?_|refine pReg ?_|refine sRaw ?_|refine sCons ?_|refine sNil ?_|refine pBlock ?_|refine pSkip ?_|refine pExit ?_|refine pRet ?_|refine pCond ?_|refine gNone ?_|refine gOn rfl ?_|refine gOff rfl rfl ?_|refine gTup rfl ?_))
  intro q hq
  obtain rfl : q = true := by rw [hq]; first | rfl | exact decide_eq_true rfl
  (repeat(first|refine pSeq ?_|refine pReg ?_|refine sRaw ?_|refine sCons ?_|refine sNil ?_|refine pBlock ?_|refine pSkip ?_|refine pExit ?_|refine pRet ?_|refine pCond ?_|refine gNone ?_|refine gOn rfl ?_|refine gOff rfl rfl ?_|refine gTup rfl ?_))
  intro q hq
  obtain rfl : q = true := by rw [hq]; first | rfl | exact decide_eq_true rfl
  (repeat(first|refine pSeq ?_|refine pReg ?_|refine sRaw ?_|refine sCons ?_|refine sNil ?_|refine pBlock ?_|refine pSkip ?_|refine pExit ?_|refine pRet ?_|refine pCond ?_|refine gNone ?_|refine gOn rfl ?_|refine gOff rfl rfl ?_|refine gTup rfl ?_))
  refine (ltells_w (hG.chg c10 (by simp)) (c10.fine hF)).mono fun v w q => ?_
  obtain ⟨rfl, _⟩ := q
  (repeat(first|refine pSeq ?_|refine pReg ?_|refine sRaw ?_|refine sCons ?_|refine sNil ?_|refine pBlock ?_|refine pSkip ?_|refine pExit ?_|refine pRet ?_|refine pCond ?_|refine gNone ?_|refine gOn rfl ?_|refine gOff rfl rfl ?_|refine gTup rfl ?_))
  rfl
end Go.Vf.S
