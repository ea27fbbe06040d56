import Derived.Test.YtgnhkclddahdnaaGreatDoorLjE
/- Lists of addresses: the law ListPuts, from any state. -/
namespace Go.Vf.S
open Go Go.Vf Go.Proofs Go.RowKit
attribute [local irreducible] wSeq wRow wp wG
attribute [local irreducible] parseF domF sameF textF mayF putF
set_option linter.unusedVariables false
set_option linter.unusedSimpArgs false
set_option maxRecDepth 10000

theorem rd_ownR {t : TypeId} {s : SS} {W : Option Addr} {cw n : Nat} {xs : List AA} (h : OwnR t s W cw n (adsC xs)) : AdRd s W xs := by
  cases W with
  | none =>
    obtain ⟨h1, h2, h3⟩ := h
    exact ads_nil h1
  | some a =>
    obtain ⟨b, off, sp⟩ := a
    obtain ⟨rfl, rfl, h3, g, h4, h5⟩ := h
    exact ⟨rfl, rfl, h3, _, _, _, h4⟩

end Go.Vf.S
