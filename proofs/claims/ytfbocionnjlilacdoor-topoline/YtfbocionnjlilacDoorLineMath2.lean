/- A line of switches: what is asked of one, as TopoLine asks it. No program in it. -/
import Derived.Test.YtfbocionnjlilacDoorLineMath
namespace Go.Proofs.YtfbocionnjlilacDoor
open Go.RowKit
set_option linter.unusedVariables false

theorem ln_bad {n : Nat} {a b : Int} (h1 : 1 ≤ n) (h6 : n ≤ 6) (h : ¬ (1 ≤ a ∧ a ≤ n ∧ 1 ≤ b ∧ b ≤ n)) : fsN n (lnTo (n - 1)) (lnH n) a b = 1 := by
  have e : cwN n (lnTo (n - 1)) (lnH n) [a, b] = 1 := by
    unfold cwN
    rw [if_pos (ln_ok n h1 h6)]
    refine if_pos ?_
    simp only [List.any_cons, List.any_nil, Bool.or_false, Bool.or_eq_true, Bool.not_eq_true']
    by_cases ha : swB n a = true
    · right
      cases hb : swB n b
      · rfl
      · have h2 := sw_of.1 ha
        have h3 := sw_of.1 hb
        exact absurd ⟨h2.1, h2.2, h3.1, h3.2⟩ h
    · left
      simpa using ha
  unfold fsN
  rw [e]
  rfl
theorem ln_good {n a b : Nat} (h1 : 1 ≤ n) (h6 : n ≤ 6) (a1 : 1 ≤ a) (a2 : a ≤ n) (b1 : 1 ≤ b) (b2 : b ≤ n) :
    fsN n (lnTo (n - 1)) (lnH n) a b = 0 ∧ fsV n (lnTo (n - 1)) (lnH n) a b = (if a < b then (b : Int) - a else (a : Int) - b) ∧ cwN n (lnTo (n - 1)) (lnH n) [(a : Int)] = 0 ∧ ((neL n (lnTo (n - 1)) (lnH n) a).length : Int) = 2 - (if a = 1 then 1 else 0) - (if a = n then 1 else 0) := by
  have hall := ln_all n a b h1 h6 a1 a2 b1 b2
  simp only [lnAll, Bool.and_eq_true, decide_eq_true_eq] at hall
  obtain ⟨hf, hn⟩ := hall
  have hok := ln_ok n h1 h6
  have c2 : cwN n (lnTo (n - 1)) (lnH n) [(a : Int), (b : Int)] = 0 := cw_0.2 ⟨hok, by
    intro x hx
    simp at hx
    rcases hx with rfl | rfl <;> omega⟩
  have c1 : cwN n (lnTo (n - 1)) (lnH n) [(a : Int)] = 0 := cw_0.2 ⟨hok, by
    intro x hx
    simp at hx
    subst hx
    omega⟩
  have hp : 0 ≤ faN n (lnTo (n - 1)) a b := by
    rw [hf]
    split <;> omega
  have e1 : fsN n (lnTo (n - 1)) (lnH n) a b = 0 := by
    unfold fsN
    rw [if_pos c2, if_pos hp]
  refine ⟨e1, ?_, c1, ?_⟩
  · unfold fsV
    rw [if_pos e1, hf]
  · unfold neL
    rw [if_pos c1]
    exact hn
end Go.Proofs.YtfbocionnjlilacDoor
