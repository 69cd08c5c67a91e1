/- The first list that has a number, list by list, in plain lists. No program in it. -/
import Derived.Test.YtfbocionnjliladClassMath
namespace Go.Proofs.Ytfbocionnjlilad
open Go.RowKit
set_option linter.unusedVariables false

theorem ixG_take {α : Type} {q : α → Bool} {L : List α} {k : Nat} (h : 0 ≤ ixG q (L.take k)) : ixG q L = ixG q (L.take k) := by
  obtain ⟨h1, h2⟩ := ixG_lt h
  have h3 := h2 h1
  have hl : (ixG q (L.take k)).toNat < L.length := by
    rw [List.length_take] at h1
    omega
  have e : (((ixG q (L.take k)).toNat : Nat) : Int) = ixG q (L.take k) := by omega
  rw [List.getElem_take] at h3
  rw [← e]
  refine ixG_hit hl ?_ h3
  rw [List.any_eq_false]
  intro x hx hq
  obtain ⟨j, hj, rfl⟩ := List.getElem_of_mem hx
  rw [List.length_take] at hj
  rw [List.getElem_take] at hq
  have hjk : j < (L.take k).length := by omega
  have : (L.take k)[j] = L[j] := List.getElem_take
  have h4 : ¬ j < (L.take k).findIdx q := by
    intro h5
    have := List.not_of_lt_findIdx h5
    rw [List.getElem_take] at this
    rw [hq] at this; cases this
  have h5 : ixG q (L.take k) = ((L.take k).findIdx q : Int) := by
    unfold ixG at h ⊢
    cases e2 : (L.take k).any q
    · rw [e2] at h; simp at h
    · simp
  omega
theorem rp_none {Ls : List (List Int)} {h : Int} (h1 : rpN Ls h ≠ 0) : rpI Ls h < 0 ∧ rpN Ls h = 5 ∧ rpV Ls h = 0 := by
  unfold rpN at h1 ⊢
  unfold rpV
  by_cases hn : rpI Ls h < 0
  · rw [if_pos hn, if_pos hn]; exact ⟨hn, rfl, rfl⟩
  · rw [if_neg hn] at h1; exact absurd rfl h1
theorem rp_nil (h : Int) : rpN [] h = 5 ∧ rpV [] h = 0 := by
  unfold rpN rpV rpI ixG
  simp
theorem rp_any {Ls : List (List Int)} {h : Int} (h1 : rpN Ls h = 5) : Ls.any (hasL h) = false := by
  unfold rpN at h1
  by_cases hn : rpI Ls h < 0
  · rw [List.any_eq_false]
    intro x hx
    rw [ixG_neg hn x hx]
    simp
  · rw [if_neg hn] at h1; cases h1
theorem rp_of_any {Ls : List (List Int)} {h : Int} (h1 : Ls.any (hasL h) = false) : rpN Ls h = 5 ∧ rpV Ls h = 0 := by
  have : rpI Ls h < 0 := by
    unfold rpI
    rw [ixG_no h1]
    omega
  unfold rpN rpV
  rw [if_pos this, if_pos this]
  exact ⟨rfl, rfl⟩
theorem rp_no {Ls : List (List Int)} {h : Int} {k : Nat} (hk : k < Ls.length) (h1 : rpN (Ls.take k) h = 5) (h2 : hasL h (Ls.getD k []) = false) : rpN (Ls.take (k + 1)) h = 5 ∧ rpV (Ls.take (k + 1)) h = 0 := by
  refine rp_of_any ?_
  rw [show Ls.getD k [] = Ls[k] by simp [List.getD, hk]] at h2
  exact any_nextG hk (rp_any h1) h2
theorem rp_yes {Ls : List (List Int)} {h : Int} {k : Nat} (hk : k < Ls.length) (h1 : rpN (Ls.take k) h = 5) (h2 : hasL h (Ls.getD k []) = true) : rpN (Ls.take (k + 1)) h = 0 ∧ rpV (Ls.take (k + 1)) h = mnTo (Ls.getD k []) (Ls.getD k []).length := by
  rw [show Ls.getD k [] = Ls[k] by simp [List.getD, hk]] at h2 ⊢
  have hl : k < (Ls.take (k + 1)).length := by rw [List.length_take]; omega
  have e : rpI (Ls.take (k + 1)) h = (k : Int) := by
    unfold rpI
    refine ixG_hit hl ?_ (by rw [List.getElem_take]; exact h2)
    rw [List.take_take, Nat.min_eq_left (by omega)]
    exact rp_any h1
  unfold rpN rpV
  rw [e, if_neg (by omega), if_neg (by omega)]
  refine ⟨rfl, ?_⟩
  have : (Ls.take (k + 1)).getD (k : Int).toNat [] = Ls[k] := by
    simp [List.getD, hk]
  rw [this]
theorem rp_found {Ls : List (List Int)} {h : Int} {k : Nat} (h1 : rpN (Ls.take k) h = 0) : rpN Ls h = 0 ∧ rpV Ls h = rpV (Ls.take k) h := by
  have hn : ¬ rpI (Ls.take k) h < 0 := by
    intro hn
    unfold rpN at h1
    rw [if_pos hn] at h1
    cases h1
  have e : rpI Ls h = rpI (Ls.take k) h := ixG_take (Int.not_lt.1 hn)
  unfold rpN rpV
  rw [e, if_neg hn, if_neg hn, if_neg hn]
  refine ⟨rfl, ?_⟩
  have hlt := (ixG_lt (Int.not_lt.1 hn)).1
  have : (Ls.take k).getD (rpI (Ls.take k) h).toNat [] = Ls.getD (rpI (Ls.take k) h).toNat [] := by
    have h3 : (rpI (Ls.take k) h).toNat < (Ls.take k).length := hlt
    have h4 : (rpI (Ls.take k) h).toNat < k := by rw [List.length_take] at h3; omega
    rw [List.getD, List.getD, List.getElem?_take, if_pos h4]
  rw [this]
theorem has_next {L : List Int} {h : Int} {k : Nat} (hk : k < L.length) : hasL h (L.take (k + 1)) = (hasL h (L.take k) || (L[k] == h)) := by
  unfold hasL
  rw [List.take_succ_eq_append_getElem hk, List.any_append]
  simp
end Go.Proofs.Ytfbocionnjlilad
