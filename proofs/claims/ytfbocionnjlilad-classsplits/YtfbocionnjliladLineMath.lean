/- A line of switches: plain lists. No program in it. -/
import Derived.Test.YtfbocionnjliladTopoMath2
namespace Go.Proofs.Ytfbocionnjlilad
open Go.RowKit
set_option linter.unusedVariables false

/-- The links of a line. -/
def lnTo : Nat → List ((Int × Int) × (Int × Int))
  | 0 => []
  | k + 1 => lnTo k ++ [(((k : Int) + 1, 2), ((k : Int) + 1 + 1, 1))]
theorem ln_len (k : Nat) : (lnTo k).length = k := by
  induction k with
  | zero => rfl
  | succ k ih => simp [lnTo, ih]
/-- Its hosts. -/
def lnH (n : Int) : List (ByteArray × (Int × Int)) := [(⟨#[97]⟩, (1, 3)), (⟨#[98]⟩, (n, 4))]
def lnOk (n : Nat) : Bool := decide (tpN n (lnTo (n - 1)) (lnH n) = 0)
theorem ln_ok (n : Nat) (h1 : 1 ≤ n) (h6 : n ≤ 6) : tpN n (lnTo (n - 1)) (lnH n) = 0 := by
  have h : ∀ m ∈ [1, 2, 3, 4, 5, 6], lnOk m = true := by decide +kernel
  have h2 := h n (by simp; omega)
  simpa [lnOk] using h2
theorem ln_7 : tpN 7 (lnTo 6) (lnH 7) ≠ 0 := by decide +kernel
/-- How far, and how many are near, for all lines and switches. -/
def lnAll (n a b : Nat) : Bool := decide (faN n (lnTo (n - 1)) a b = if a < b then (b : Int) - a else (a : Int) - b) && decide (((nrL n (lnTo (n - 1)) a).length : Int) = 2 - (if a = 1 then 1 else 0) - (if a = n then 1 else 0))
theorem ln_all (n a b : Nat) (h1 : 1 ≤ n) (h6 : n ≤ 6) (a1 : 1 ≤ a) (a2 : a ≤ n) (b1 : 1 ≤ b) (b2 : b ≤ n) : lnAll n a b = true := by
  have h : ∀ m ∈ [1, 2, 3, 4, 5, 6], ∀ a ∈ [1, 2, 3, 4, 5, 6], ∀ b ∈ [1, 2, 3, 4, 5, 6], a ≤ m → b ≤ m → lnAll m a b = true := by decide +kernel
  exact h n (by simp; omega) a (by simp; omega) b (by simp; omega) a2 b2
end Go.Proofs.Ytfbocionnjlilad
