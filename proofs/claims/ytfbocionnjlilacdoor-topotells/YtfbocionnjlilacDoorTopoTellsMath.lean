/- What TopoTells holds against one another, in plain numbers. No program in it. -/
import Derived.Test.YtfbocionnjlilacDoorTopoMath2
namespace Go.Proofs.YtfbocionnjlilacDoor
open Go.RowKit
set_option linter.unusedVariables false

section
variable {S : Int} {Ls : List ((Int × Int) × (Int × Int))} {Hs : List (ByteArray × (Int × Int))} {s : Int × Int} {m : ByteArray} {a b : Int}
theorem join_in (ht : tpN S Ls Hs = 0) {y : Int} (h : joinB Ls a y = true) : y ≤ S := by
  obtain ⟨l, hl, h2⟩ := List.any_eq_true.1 h
  have hs := (tp_0 ht).2.2.1
  have m1 : l.1 ∈ spsL Ls := by
    unfold spsL
    rw [List.mem_flatMap]
    exact ⟨l, hl, by simp⟩
  have m2 : l.2 ∈ spsL Ls := by
    unfold spsL
    rw [List.mem_flatMap]
    exact ⟨l, hl, by simp⟩
  have s1 := sp_of (hs _ m1)
  have s2 := sp_of (hs _ m2)
  simp only [Bool.or_eq_true, Bool.and_eq_true, beq_iff_eq] at h2
  rcases h2 with ⟨_, h3⟩ | ⟨h3, _⟩ <;> omega
theorem nr_more (ht : tpN S Ls Hs = 0) : ∀ d : Nat, nrTo Ls a (S.toNat + d) = nrL S Ls a
  | 0 => nr_to S Ls a
  | d + 1 => by
    rw [← Nat.add_assoc, nr_next, nr_more ht d]
    have hS := (tp_0 ht).1
    cases hj : joinB Ls a (((S.toNat + d : Nat) : Int) + 1)
    · simp
    · have := join_in ht hj
      omega
theorem nr_six (ht : tpN S Ls Hs = 0) : nrTo Ls a 6 = nrL S Ls a := by
  have hS := (tp_0 ht).1
  have := nr_more (a := a) ht (6 - S.toNat)
  rw [show S.toNat + (6 - S.toNat) = 6 by omega] at this
  exact this
theorem neL_len : (neL S Ls Hs a).length ≤ 6 := by
  unfold neL
  by_cases h : cwN S Ls Hs [a] = 0
  · rw [if_pos h, ← nr_six (cw_0.1 h).1]
    exact nrTo_len _ _ 6
  · rw [if_neg h]
    simp
theorem cs_T (h : tpN S Ls Hs ≠ 0) : csN S Ls Hs s = tpN S Ls Hs := if_neg h
theorem cs_1 (h : tpN S Ls Hs = 0) (h2 : spB S s = false) : csN S Ls Hs s = 1 := by
  rw [csN, if_pos h, h2]
  rfl
theorem cs_0 (h : tpN S Ls Hs = 0) (h2 : spB S s = true) : csN S Ls Hs s = 0 := by
  rw [csN, if_pos h, h2]
  rfl
theorem cs_tp (h : csN S Ls Hs s = 0) : tpN S Ls Hs = 0 := by
  unfold csN at h
  by_cases e : tpN S Ls Hs = 0
  · exact e
  · rw [if_neg e] at h; exact absurd h e
theorem pe_no (h : csN S Ls Hs s ≠ 0) : peN S Ls Hs s = csN S Ls Hs s ∧ peV S Ls Hs s = (0, 0) := by
  have e : peN S Ls Hs s = csN S Ls Hs s := if_neg h
  exact ⟨e, by rw [peV, e, if_neg h]⟩
theorem pe_yes (h : csN S Ls Hs s = 0) : peN S Ls Hs s = (if (peerO Ls s).isSome then 0 else 5) ∧ peV S Ls Hs s = (peerO Ls s).getD (0, 0) := by
  have e : peN S Ls Hs s = (if (peerO Ls s).isSome then 0 else 5) := if_pos h
  refine ⟨e, ?_⟩
  rw [peV, e]
  cases hp : peerO Ls s with
  | none => rfl
  | some p => rfl
theorem as_no (h : csN S Ls Hs s ≠ 0) : asN S Ls Hs s = csN S Ls Hs s ∧ asV S Ls Hs s = ByteArray.empty := by
  have e : asN S Ls Hs s = csN S Ls Hs s := if_neg h
  exact ⟨e, by rw [asV, e, if_neg h]⟩
theorem as_yes (h : csN S Ls Hs s = 0) : (atN Hs s = -1 ∧ asN S Ls Hs s = 5 ∧ asV S Ls Hs s = ByteArray.empty) ∨ ∃ (k : Nat) (hk : k < Hs.length), atN Hs s = k ∧ asN S Ls Hs s = 0 ∧ asV S Ls Hs s = Hs[k].1 := by
  have e : asN S Ls Hs s = (if (atO Hs s).isSome then 0 else 5) := if_pos h
  rcases at_ix Hs s with ⟨h1, h2⟩ | ⟨k, hk, h1, h2⟩
  · refine .inl ⟨h1, ?_, ?_⟩
    · rw [e, h2]; rfl
    · rw [asV, e, h2]; rfl
  · refine .inr ⟨k, hk, h1, ?_, ?_⟩
    · rw [e, h2]; rfl
    · rw [asV, e, h2]; rfl
theorem we_no (h : tpN S Ls Hs ≠ 0) : weN S Ls Hs m = tpN S Ls Hs ∧ weV S Ls Hs m = (0, 0) := by
  have e : weN S Ls Hs m = tpN S Ls Hs := if_neg h
  exact ⟨e, by rw [weV, e, if_neg h]⟩
theorem we_yes (h : tpN S Ls Hs = 0) : (whN Hs m = -1 ∧ weN S Ls Hs m = 5 ∧ weV S Ls Hs m = (0, 0)) ∨ ∃ (k : Nat) (hk : k < Hs.length), whN Hs m = k ∧ weN S Ls Hs m = 0 ∧ weV S Ls Hs m = Hs[k].2 := by
  have e : weN S Ls Hs m = (if (whereO Hs m).isSome then 0 else 5) := if_pos h
  rcases where_ix Hs m with ⟨h1, h2⟩ | ⟨k, hk, h1, h2⟩
  · refine .inl ⟨h1, ?_, ?_⟩
    · rw [e, h2]; rfl
    · rw [weV, e, h2]; rfl
  · refine .inr ⟨k, hk, h1, ?_, ?_⟩
    · rw [e, h2]; rfl
    · rw [weV, e, h2]; rfl
theorem cw_T (h : tpN S Ls Hs ≠ 0) (l : List Int) : cwN S Ls Hs l = tpN S Ls Hs := if_neg h
theorem cw1_no (h : tpN S Ls Hs = 0) (h2 : ¬ (1 ≤ a ∧ a ≤ S)) : cwN S Ls Hs [a] = 1 := by
  rw [cwN, if_pos h]
  refine if_pos ?_
  cases hb : swB S a
  · simp [hb]
  · exact absurd (sw_of.1 hb) h2
theorem cw1_yes (h : tpN S Ls Hs = 0) (h2 : 1 ≤ a ∧ a ≤ S) : cwN S Ls Hs [a] = 0 := cw_0.2 ⟨h, by simpa using h2⟩
theorem ne_no (h : cwN S Ls Hs [a] ≠ 0) : neL S Ls Hs a = [] := if_neg h
theorem ne_yes (h : cwN S Ls Hs [a] = 0) : neL S Ls Hs a = nrTo Ls a 6 := by
  rw [neL, if_pos h, nr_six (cw_0.1 h).1]
theorem cw2_no1 (h : cwN S Ls Hs [a] ≠ 0) : cwN S Ls Hs [a, b] = cwN S Ls Hs [a] := by
  by_cases ht : tpN S Ls Hs = 0
  · have hn : ¬ (1 ≤ a ∧ a ≤ S) := fun h2 => h (cw1_yes ht h2)
    rw [cw1_no ht hn, cwN, if_pos ht]
    refine if_pos ?_
    cases hb : swB S a
    · simp [hb]
    · exact absurd (sw_of.1 hb) hn
  · rw [cw_T ht, cw_T ht]
theorem cw2_no2 (h : cwN S Ls Hs [a] = 0) (h2 : ¬ (1 ≤ b ∧ b ≤ S)) : cwN S Ls Hs [a, b] = 1 := by
  have ht := (cw_0.1 h).1
  rw [cwN, if_pos ht]
  refine if_pos ?_
  cases hb : swB S b
  · simp [hb]
  · exact absurd (sw_of.1 hb) h2
theorem cw2_yes (h : cwN S Ls Hs [a] = 0) (h2 : 1 ≤ b ∧ b ≤ S) : cwN S Ls Hs [a, b] = 0 := by
  obtain ⟨ht, ha⟩ := cw_0.1 h
  refine cw_0.2 ⟨ht, ?_⟩
  intro x hx
  simp at hx
  rcases hx with rfl | rfl
  · exact ha x (by simp)
  · exact h2
theorem fs_C (h : cwN S Ls Hs [a, b] ≠ 0) : fsN S Ls Hs a b = cwN S Ls Hs [a, b] ∧ fsV S Ls Hs a b = 0 := by
  have e : fsN S Ls Hs a b = cwN S Ls Hs [a, b] := if_neg h
  exact ⟨e, by rw [fsV, e, if_neg h]⟩
theorem fs_at0 (h : cwN S Ls Hs [a, b] = 0) : (faN S Ls a b < 0 → fsN S Ls Hs a b = 5 ∧ fsV S Ls Hs a b = 0) ∧ (0 ≤ faN S Ls a b → fsN S Ls Hs a b = 0 ∧ fsV S Ls Hs a b = faN S Ls a b) := by
  constructor
  · intro hf
    have e2 : fsN S Ls Hs a b = 5 := by
      rw [fsN, if_pos h, if_neg (by omega)]
    exact ⟨e2, by rw [fsV, e2]; rfl⟩
  · intro hf
    have e2 : fsN S Ls Hs a b = 0 := by
      rw [fsN, if_pos h, if_pos hf]
    exact ⟨e2, by rw [fsV, if_pos e2]⟩
theorem fs_no1 (h : cwN S Ls Hs [a] ≠ 0) : fsN S Ls Hs a b = cwN S Ls Hs [a] ∧ fsV S Ls Hs a b = 0 := by
  have e : cwN S Ls Hs [a, b] = cwN S Ls Hs [a] := by
    by_cases ht : tpN S Ls Hs = 0
    · have hn : ¬ (1 ≤ a ∧ a ≤ S) := fun h2 => h (cw1_yes ht h2)
      rw [cw1_no ht hn, cwN, if_pos ht]
      refine if_pos ?_
      cases hb : swB S a
      · simp [hb]
      · exact absurd (sw_of.1 hb) hn
    · rw [cw_T ht, cw_T ht]
  have e2 : fsN S Ls Hs a b = cwN S Ls Hs [a] := by
    rw [fsN, e, if_neg h]
  exact ⟨e2, by rw [fsV, e2, if_neg h]⟩
theorem fs_no2 (h : cwN S Ls Hs [a] = 0) (h2 : ¬ (1 ≤ b ∧ b ≤ S)) : fsN S Ls Hs a b = 1 ∧ fsV S Ls Hs a b = 0 := by
  have ht := (cw_0.1 h).1
  have e : cwN S Ls Hs [a, b] = 1 := by
    rw [cwN, if_pos ht]
    refine if_pos ?_
    cases hb : swB S b
    · simp [hb]
    · exact absurd (sw_of.1 hb) h2
  have e2 : fsN S Ls Hs a b = 1 := by
    rw [fsN, e]
    rfl
  exact ⟨e2, by rw [fsV, e2]; rfl⟩
theorem fs_yes (h : cwN S Ls Hs [a] = 0) (h2 : 1 ≤ b ∧ b ≤ S) : (faN S Ls a b < 0 → fsN S Ls Hs a b = 5 ∧ fsV S Ls Hs a b = 0) ∧ (0 ≤ faN S Ls a b → fsN S Ls Hs a b = 0 ∧ fsV S Ls Hs a b = faN S Ls a b) := by
  obtain ⟨ht, ha⟩ := cw_0.1 h
  have e : cwN S Ls Hs [a, b] = 0 := cw_0.2 ⟨ht, by
    intro x hx
    simp at hx
    rcases hx with rfl | rfl
    · exact ha x (by simp)
    · exact h2⟩
  constructor
  · intro hf
    have e2 : fsN S Ls Hs a b = 5 := by
      rw [fsN, if_pos e, if_neg (by omega)]
    exact ⟨e2, by rw [fsV, e2]; rfl⟩
  · intro hf
    have e2 : fsN S Ls Hs a b = 0 := by
      rw [fsN, if_pos e, if_pos hf]
    exact ⟨e2, by rw [fsV, if_pos e2]⟩
end
end Go.Proofs.YtfbocionnjlilacDoor
