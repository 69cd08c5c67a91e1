/- Rules as text, in plain bytes: no program in it. -/
import Derived.Test.YtpbfgfphcjmcbaaDoorRuleMath
import Derived.Lib.Bytealg
import Derived.Lib.IndexLaws
namespace Go.Proofs.YtpbfgfphcjmcbaaDoor
open Go.RowKit

/-- A number from 0 to 99 in digits. -/
def dgS (p : Int) : ByteArray := if p < 10 then strOfNums [48 + p] else strOfNums [48 + p / 10, 48 + p % 10]
/-- The number that the first digits of a text come to. -/
def dcTo (s : ByteArray) : Nat → Int
  | 0 => 0
  | k + 1 => 10 * dcTo s k + ((byteN s k : Nat) - 48)
def digB (c : Nat) : Bool := decide (48 ≤ c) && decide (c ≤ 57)
def dgTo (s : ByteArray) : Nat → Bool
  | 0 => true
  | k + 1 => dgTo s k && digB (byteN s k)
/-- Is the length of a number's text right, and has it no needless 0? -/
def dcHd (s : ByteArray) : Bool := decide (1 ≤ s.size) && (decide (s.size ≤ 9) && (!(byteN s 0 == 48) || s.size == 1))
/-- Is a text a number's? -/
def dcOk (s : ByteArray) : Bool := dcHd s && dgTo s s.size
def dcN (s : ByteArray) : Int := if dcOk s then dcTo s s.size else 0

theorem dg_le {s : ByteArray} : ∀ {n k : Nat}, k < n → dgTo s n = true → digB (byteN s k) = true
  | 0, _, h, _ => absurd h (Nat.not_lt_zero _)
  | n + 1, k, h, hm => by
    simp only [dgTo, Bool.and_eq_true] at hm
    by_cases e : k = n
    · subst e; exact hm.2
    · exact dg_le (by omega) hm.1
theorem dig_of {c : Nat} (h : digB c = true) : 48 ≤ c ∧ c ≤ 57 := by simpa [digB] using h
theorem dc_bd {s : ByteArray} : ∀ {k : Nat}, dgTo s k = true → 0 ≤ dcTo s k ∧ dcTo s k < 10 ^ k
  | 0, _ => by simp [dcTo]
  | k + 1, h => by
    simp only [dgTo, Bool.and_eq_true] at h
    have h1 := dc_bd h.1
    have h2 := dig_of h.2
    simp only [dcTo, Int.pow_succ]
    omega

/-- The place of the first blank. -/
def blAt (s : ByteArray) : Int := Lib.indexByte s.data.toList 32
/-- A text cut at its first k blanks. -/
def cutB : Nat → ByteArray → List ByteArray
  | 0, s => [s]
  | k + 1, s => if blAt s = -1 then [s] else s.extract 0 (blAt s).toNat :: cutB k (s.extract ((blAt s).toNat + 1) s.size)

theorem cut_miss {s : ByteArray} (k : Nat) (h : blAt s = -1) : cutB k s = [s] := by
  cases k with
  | zero => rfl
  | succ k => rw [cutB, if_pos h]
theorem cut_hit {s : ByteArray} (k : Nat) {i : Nat} (h : blAt s = i) : cutB (k + 1) s = s.extract 0 i :: cutB k (s.extract (i + 1) s.size) := by
  have hm : ¬ blAt s = -1 := by omega
  have e : (blAt s).toNat = i := by omega
  rw [cutB, if_neg hm, e]
theorem bl_cases (s : ByteArray) : blAt s = -1 ∨ ∃ i : Nat, blAt s = i ∧ i < s.size := by
  have h := Lib.indexByte_ge s.data.toList 32
  by_cases e : blAt s = -1
  · exact .inl e
  · right
    have e' : 0 ≤ blAt s := by unfold blAt at *; omega
    obtain ⟨i, hi⟩ := Int.eq_ofNat_of_zero_le e'
    refine ⟨i, hi, ?_⟩
    have := (Lib.indexByte_some hi).1
    have hlt := (List.getElem?_eq_some_iff.1 this).1
    simpa using hlt
theorem cut_len : ∀ (k : Nat) (s : ByteArray), (cutB k s).length ≤ k + 1 ∧ 1 ≤ (cutB k s).length
  | 0, _ => by simp [cutB]
  | k + 1, s => by
    rcases bl_cases s with h | ⟨i, h, _⟩
    · rw [cut_miss _ h]; simp
    · rw [cut_hit _ h]
      have := cut_len k (s.extract (i + 1) s.size)
      simp
      omega
end Go.Proofs.YtpbfgfphcjmcbaaDoor
