/- What one rule comes to, in plain numbers: no program in it. A rule is Prio p, its Cube's Mask m and Bits b, Out o, Set s, Value v. -/
import Derived.Test.YtpbfgfphcjmcbaaDoorCubeMath
namespace Go.Proofs.YtpbfgfphcjmcbaaDoor
open Go.RowKit

/-- Are a rule's own numbers in their bounds? -/
def ruP (p o : Int) : Bool := decide (0 ≤ p) && (decide (p ≤ 99) && (decide (0 ≤ o) && decide (o ≤ 4)))
def ruIn (p o s v : Int) : Bool := ruP p o && rngB s v
/-- Is what a rule sets right? -/
def ruSet (o s v : Int) : Bool := (bits .andNot .i64 v s == 0) && (!(o == 0) || s == 0)
/-- The fault's number of a rule. -/
def ruN (p m b o s v : Int) : Int := if ruIn p o s v then (if okB m b then (if ruSet o s v then 0 else 3) else refN m b) else 1
/-- Is a rule right? -/
def ruOk (p m b o s v : Int) : Bool := ruIn p o s v && (okB m b && ruSet o s v)
/-- The fault's number of a rule and a header that it is applied to. -/
def apN (p m b o s v h : Int) : Int := if ruOk p m b o s v then (if hdrB h then (if hasB m b h && !(o == 0) then 0 else 5) else 1) else ruN p m b o s v
/-- What a rule makes of a header. -/
def apV (s v h : Int) : Int := bits .or .i64 (bits .andNot .i64 h s) v
def apR (p m b o s v h : Int) : Int := if apN p m b o s v h = 0 then apV s v h else 0

theorem ru_ok {p m b o s v : Int} (h : ruOk p m b o s v = true) : ruIn p o s v = true ∧ okB m b = true ∧ ruSet o s v = true := by
  simpa [ruOk] using h
theorem ruN_ok {p m b o s v : Int} (h : ruOk p m b o s v = true) : ruN p m b o s v = 0 := by
  obtain ⟨h1, h2, h3⟩ := ru_ok h
  simp [ruN, h1, h2, h3]
theorem ruN_ne {p m b o s v : Int} (h : ruOk p m b o s v = false) : ruN p m b o s v ≠ 0 := by
  unfold ruN
  cases h1 : ruIn p o s v
  · simp
  · cases h2 : okB m b
    · simp only [if_true]
      have := ok_refN m b
      rw [h2] at this
      simpa using this
    · cases h3 : ruSet o s v
      · simp
      · simp [ruOk, h1, h2, h3] at h
theorem ruN_bd (p m b o s v : Int) : 0 ≤ ruN p m b o s v ∧ ruN p m b o s v ≤ 3 := by
  unfold ruN
  have := refN_bd m b
  split
  · split
    · split <;> omega
    · omega
  · omega
theorem ru_in {p o s v : Int} (h : ruIn p o s v = true) : ((0 ≤ p ∧ p ≤ 99) ∧ (0 ≤ o ∧ o ≤ 4)) ∧ (0 ≤ s ∧ s < 16) ∧ (0 ≤ v ∧ v < 16) := by
  simp only [ruIn, Bool.and_eq_true] at h
  obtain ⟨h1, h2⟩ := h
  have h3 := rng_of h2
  simp only [ruP, Bool.and_eq_true, decide_eq_true_eq] at h1
  exact ⟨⟨⟨h1.1, h1.2.1⟩, ⟨h1.2.2.1, h1.2.2.2⟩⟩, h3⟩
theorem apN_bad {p m b o s v : Int} (h : Int) (hr : ruOk p m b o s v = false) : apN p m b o s v h = ruN p m b o s v := by simp [apN, hr]
theorem apR_bad {p m b o s v h : Int} (hr : apN p m b o s v h ≠ 0) : apR p m b o s v h = 0 := by simp [apR, hr]
theorem ap_yes {p m b o s v h : Int} (hr : apN p m b o s v h = 0) : ruOk p m b o s v = true ∧ hdrB h = true ∧ hasB m b h = true ∧ (o == 0) = false := by
  cases h1 : ruOk p m b o s v
  · rw [apN_bad h h1] at hr
    exact absurd hr (ruN_ne h1)
  · cases h2 : hdrB h
    · simp [apN, h1, h2] at hr
    · simp only [apN, h1, h2, if_true] at hr
      cases h3 : (hasB m b h && !(o == 0))
      · simp [h3] at hr
      · simpa using h3
end Go.Proofs.YtpbfgfphcjmcbaaDoor
