/- Twelve rules and no more, in plain lists. No program in it. -/
import Derived.Test.YtmoengelklnbeabDoorTableMath
namespace Go.Proofs.YtmoengelklnbeabDoor
open Go.RowKit

def ruI (i : Int) : Ru := ⟨i, 0, 0, 1, 0, 0⟩
/-- The first i of such rules. -/
def tabI (i : Nat) : List Ru := (List.range i).map fun (j : Nat) => ruI (j : Int)
theorem tabI_len (i : Nat) : (tabI i).length = i := by simp [tabI]
theorem tabI_at {i j : Nat} (h : j < (tabI i).length) : (tabI i)[j] = ruI j := by simp [tabI]
theorem tabI_next (i : Nat) : tabI (i + 1) = tabI i ++ [ruI i] := by simp [tabI, List.range_succ]
def upB (i : Nat) : Bool := doN (tabI i) true (ruI i) == 0
def noB (i : Nat) : Bool := doN (tabI 12) true (ruI i) == 4
def tkB (i j : Nat) : Bool := (doN (tabI i) false (ruI j) == 0) && ((doL (tabI i) false (ruI j)).length + 1 == i && doN (doL (tabI i) false (ruI j)) false (ruI j) == 5)
theorem up_all : (List.range 12).all upB = true := by decide +kernel
theorem no_all : ((List.range 16).drop 12).all noB = true := by decide +kernel
theorem tk_all : (List.range 13).all (fun i => (List.range i).all (fun j => tkB i j)) = true := by decide +kernel
theorem full_add {i : Nat} (h : i < 12) : doN (tabI i) true (ruI i) = 0 ∧ doL (tabI i) true (ruI i) = tabI (i + 1) := by
  have := List.all_eq_true.1 up_all i (List.mem_range.2 h)
  have h1 : doN (tabI i) true (ruI i) = 0 := by simpa [upB] using this
  exact ⟨h1, by rw [(do_back h1).1, tabI_next]⟩
theorem full_no {i : Nat} (h : 12 ≤ i) (h2 : i < 16) : doN (tabI 12) true (ruI i) = 4 := by
  have := List.all_eq_true.1 no_all i (by
    obtain rfl | rfl | rfl | rfl : i = 12 ∨ i = 13 ∨ i = 14 ∨ i = 15 := by omega
    all_goals decide)
  simpa [noB] using this
theorem full_take {i j : Nat} (hi : i ≤ 12) (hj : j < i) : doN (tabI i) false (ruI j) = 0 ∧ (doL (tabI i) false (ruI j)).length + 1 = i ∧ doN (doL (tabI i) false (ruI j)) false (ruI j) = 5 := by
  have := List.all_eq_true.1 (List.all_eq_true.1 tk_all i (List.mem_range.2 (by omega))) j (List.mem_range.2 hj)
  simpa [tkB] using this
end Go.Proofs.YtmoengelklnbeabDoor
