/- How far it is, as seven marks that grow round by round: plain functions. No program in it. -/
import Derived.Test.YtfbocionnjlilacDoorTopoMath2
namespace Go.Proofs.YtfbocionnjlilacDoor
open Go.RowKit
set_option linter.unusedVariables false

/-- A mark, behind so many that were asked. -/
def nxB (f : Nat → Bool) (J : Nat → Nat → Bool) (i : Nat) : Nat → Bool
  | 0 => f i
  | k + 1 => nxB f J i k || (f (k + 1) && J (k + 1) i)
theorem nx_any {f : Nat → Bool} {J : Nat → Nat → Bool} {i : Nat} : ∀ {k : Nat}, nxB f J i k = true ↔ f i = true ∨ ∃ j, 1 ≤ j ∧ j ≤ k ∧ f j = true ∧ J j i = true
  | 0 => by
    simp only [nxB]
    exact ⟨fun h => .inl h, fun h => by
      rcases h with h | ⟨j, h1, h2, _⟩
      · exact h
      · omega⟩
  | k + 1 => by
    simp only [nxB, Bool.or_eq_true, Bool.and_eq_true, nx_any (k := k)]
    constructor
    · rintro ((h | ⟨j, h1, h2, h3⟩) | h)
      · exact .inl h
      · exact .inr ⟨j, h1, by omega, h3⟩
      · exact .inr ⟨k + 1, by omega, Nat.le_refl _, h⟩
    · rintro (h | ⟨j, h1, h2, h3⟩)
      · exact .inl (.inl h)
      · by_cases e : j = k + 1
        · subst e; exact .inr h3
        · exact .inl (.inr ⟨j, h1, by omega, h3⟩)
theorem rc_nx {S : Nat} {J : Nat → Nat → Bool} {a n i : Nat} (h1 : 1 ≤ i) (h2 : i ≤ S) : rcB S J a (n + 1) i = nxB (rcB S J a n) J i S := by
  rw [Bool.eq_iff_iff, rc_s, nx_any]
  constructor
  · rintro (h | ⟨_, _, k, h3⟩)
    · exact .inl h
    · exact .inr ⟨k, h3⟩
  · rintro (h | ⟨k, h3⟩)
    · exact .inl h
    · exact .inr ⟨h1, h2, k, h3⟩
/-- The marks, of which the first ones are new. -/
def nwB (S : Nat) (J : Nat → Nat → Bool) (a n i0 : Nat) (i : Nat) : Bool := decide (i ≤ i0) && (decide (1 ≤ i) && rcB S J a (n + 1) i)
theorem nw_0 {S : Nat} {J : Nat → Nat → Bool} {a n i : Nat} : nwB S J a n 0 i = false := by
  unfold nwB
  by_cases h : i ≤ 0
  · have : ¬ 1 ≤ i := by omega
    simp [this]
  · simp [h]
theorem nw_all {S : Nat} {J : Nat → Nat → Bool} {a n i : Nat} (h1 : 1 ≤ a) (h2 : a ≤ S) : nwB S J a n S i = rcB S J a (n + 1) i := by
  unfold nwB
  cases h : rcB S J a (n + 1) i
  · simp
  · have := rc_in h1 h2 h
    simp [this.1, this.2]
theorem nw_other {S : Nat} {J : Nat → Nat → Bool} {a n i0 i : Nat} (h : i ≠ i0 + 1) : nwB S J a n (i0 + 1) i = nwB S J a n i0 i := by
  unfold nwB
  have : decide (i ≤ i0 + 1) = decide (i ≤ i0) := by
    rw [Bool.eq_iff_iff]
    simp only [decide_eq_true_eq]
    omega
  rw [this]
theorem nw_self {S : Nat} {J : Nat → Nat → Bool} {a n i0 : Nat} (h : i0 + 1 ≤ S) : nwB S J a n (i0 + 1) (i0 + 1) = nxB (rcB S J a n) J (i0 + 1) S := by
  unfold nwB
  rw [rc_nx (by omega) h]
  simp
/-- What is asked round by round. -/
theorem fst_from {p : Nat → Bool} {k n : Nat} (h : p n = false) : fstB p (k + 1) n = fstB p k (n + 1) := by rw [fstB, h]; rfl
end Go.Proofs.YtfbocionnjlilacDoor
