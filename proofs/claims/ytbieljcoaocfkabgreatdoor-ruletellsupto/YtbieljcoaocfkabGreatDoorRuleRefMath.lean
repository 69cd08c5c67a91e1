/- What the document's own functions on rules and tables come to, in plain numbers: no program in it. -/
import Derived.Test.YtbieljcoaocfkabGreatDoorRuleTabMath
import Derived.Test.YtbieljcoaocfkabGreatDoorRuleText
namespace Go.Proofs.YtbieljcoaocfkabGreatDoor
open Go.RowKit

/-- Is the i-th bit of what a rule makes of a header set? -/
def tuB (s v h : Int) (i : Nat) : Bool := bitB s i && bitB v i || !bitB s i && bitB h i
/-- The upper k bits of it. -/
def tuTo (s v h : Int) : Nat → Int
  | 0 => 0
  | k + 1 => if tuB s v h (3 - k) then tuTo s v h k * 2 + 1 else tuTo s v h k * 2
theorem tu_bd (s v h : Int) : ∀ k, 0 ≤ tuTo s v h k ∧ tuTo s v h k < 2 ^ k
  | 0 => by simp [tuTo]
  | k + 1 => by
    have := tu_bd s v h k
    have e : (2 : Int) ^ (k + 1) = 2 ^ k * 2 := Int.pow_succ ..
    unfold tuTo
    split <;> omega
set_option maxRecDepth 100000 in
theorem tu_fin : ∀ (s v h : Fin 16), ((bits .andNot .i64 ((v : Nat) : Int) ((s : Nat) : Int) == 0) && !(tuTo ((s : Nat) : Int) ((v : Nat) : Int) ((h : Nat) : Int) 4 == apV ((s : Nat) : Int) ((v : Nat) : Int) ((h : Nat) : Int))) = false := by decide +kernel
theorem fin16 {x : Int} (h : 0 ≤ x ∧ x < 16) : ∃ i : Fin 16, x = ((i : Nat) : Int) := ⟨⟨x.toNat, by omega⟩, by simp; omega⟩
/-- Bit by bit it is what the program reckons at once. -/
theorem tu_ap {s v h : Int} (hs : 0 ≤ s ∧ s < 16) (hv : 0 ≤ v ∧ v < 16) (hh : 0 ≤ h ∧ h < 16) (hz : (bits .andNot .i64 v s == 0) = true) : tuTo s v h 4 = apV s v h := by
  obtain ⟨a, rfl⟩ := fin16 hs
  obtain ⟨b, rfl⟩ := fin16 hv
  obtain ⟨c, rfl⟩ := fin16 hh
  have := tu_fin a b c
  rw [hz] at this
  simpa using this
/-- Does a header count for the rule at a place, among the first k headers? -/
def shB (L : List Ru) (i k : Nat) : Bool := (List.range k).any fun h => beTo L (h : Int) L.length == (i : Int)
theorem sh_0 (L : List Ru) (i : Nat) : shB L i 0 = false := rfl
theorem shB_next (L : List Ru) (i k : Nat) : shB L i (k + 1) = (shB L i k || (beTo L (k : Int) L.length == (i : Int))) := by
  simp [shB, List.range_succ]
/-- The places of rules among the first k that count for no header. -/
def deTo (L : List Ru) : Nat → List Int
  | 0 => []
  | k + 1 => if shB L k 16 then deTo L k else deTo L k ++ [(k : Int)]
theorem deTo_len (L : List Ru) : ∀ k, (deTo L k).length ≤ k
  | 0 => by simp [deTo]
  | k + 1 => by
    have := deTo_len L k
    unfold deTo
    split
    · omega
    · simp; omega
def deadL (L : List Ru) : List Int := if tbN L = 0 then deTo L L.length else []
theorem tb_le {L : List Ru} (h : tbN L = 0) : L.length ≤ 12 := (tb_0.1 h).1
theorem dead_len (L : List Ru) : (deadL L).length ≤ 12 := by
  unfold deadL
  split
  · next h => exact Nat.le_trans (deTo_len L _) (tb_le h)
  · simp
/-- Does a rule count ahead of another one, in the document's words? -/
def abB (a b : Ru) : Bool := if a.p = b.p then (if a.m = b.m then decide (b.b < a.b) else decide (b.m < a.m)) else decide (b.p < a.p)
theorem ab_ord (a b : Ru) : abB a b = decide (0 < ordR a b) := by
  have h : ordR a b ≤ 0 ↔ _ := ord_le (a := a) (b := b)
  unfold abB
  split
  · split <;> (rw [decide_eq_decide]; omega)
  · rw [decide_eq_decide]; omega
end Go.Proofs.YtbieljcoaocfkabGreatDoor
