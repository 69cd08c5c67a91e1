/- A text cut at all its blanks, in plain bytes: no program in it. -/
import Derived.Test.YtbieljcoaocfkabGreatDoorRuleText
import Derived.Lib.IndexBytes
namespace Go.Proofs.YtbieljcoaocfkabGreatDoor
open Go.RowKit

theorem bl_len (s : ByteArray) {i : Nat} (h : blAt s = i) : i < s.size := by
  rcases bl_cases s with h' | ⟨j, h', hj⟩
  · omega
  · rw [h'] at h
    have : j = i := by omega
    omega
theorem cut_fuel : ∀ (k : Nat) (s : ByteArray), s.size ≤ k → cutB (k + 1) s = cutB k s
  | 0, s, h => by
    rcases bl_cases s with h' | ⟨i, _, hi⟩
    · rw [cut_miss _ h', cut_miss _ h']
    · omega
  | k + 1, s, h => by
    rcases bl_cases s with h' | ⟨i, h', hi⟩
    · rw [cut_miss _ h', cut_miss _ h']
    · rw [cut_hit _ h', cut_hit _ h', cut_fuel k _ (by rw [ByteArray.size_extract]; omega)]
theorem cut_more {s : ByteArray} {k : Nat} (h : s.size ≤ k) : ∀ d, cutB (k + d) s = cutB k s
  | 0 => rfl
  | d + 1 => by rw [← Nat.add_assoc, cut_fuel (k + d) s (by omega), cut_more h d]
/-- All words of a text. -/
def cutA (s : ByteArray) : List ByteArray := cutB s.size s
theorem cutA_of {s : ByteArray} {k : Nat} (h : s.size ≤ k) : cutB k s = cutA s := by
  obtain ⟨d, rfl⟩ : ∃ d, k = s.size + d := ⟨k - s.size, by omega⟩
  exact cut_more (Nat.le_refl _) d
/-- Where there are few words, the first ones are all; where there are more than k, there are k and one with the rest. -/
theorem cut_few : ∀ (k : Nat) (s : ByteArray), ((cutA s).length ≤ k + 1 → cutB k s = cutA s) ∧ (k + 1 < (cutA s).length → (cutB k s).length = k + 1)
  | 0, s => by
    constructor
    · intro h
      rcases bl_cases s with h' | ⟨i, h', hi⟩
      · rw [cutA, cut_miss _ h', cut_miss _ h']
      · exfalso
        rw [← cutA_of (show s.size ≤ (s.size - 1) + 1 by omega), cut_hit _ h'] at h
        have := (cut_len (s.size - 1) (s.extract (i + 1) s.size)).2
        simp at h
        rw [h] at this
        simp at this
    · intro _; rfl
  | k + 1, s => by
    rcases bl_cases s with h' | ⟨i, h', hi⟩
    · rw [cutA, cut_miss _ h', cut_miss _ h']
      simp
    · have e : cutA s = s.extract 0 i :: cutA (s.extract (i + 1) s.size) := by
        rw [← cutA_of (show s.size ≤ (s.size - 1) + 1 by omega), cut_hit _ h']
        rw [cutA_of (by rw [ByteArray.size_extract]; omega)]
      rw [e, cut_hit _ h']
      obtain ⟨i1, i2⟩ := cut_few k (s.extract (i + 1) s.size)
      constructor
      · intro h
        rw [i1 (by simpa using h)]
      · intro h
        simp only [List.length_cons] at h ⊢
        rw [i2 (by omega)]
theorem cutA_hit {s : ByteArray} {i : Nat} (h : blAt s = i) : cutA s = s.extract 0 i :: cutA (s.extract (i + 1) s.size) := by
  have hi := bl_len s h
  rw [← cutA_of (show s.size ≤ (s.size - 1) + 1 by omega), cut_hit _ h]
  rw [cutA_of (by rw [ByteArray.size_extract]; omega)]
theorem cutA_miss {s : ByteArray} (h : blAt s = -1) : cutA s = [s] := cut_miss _ h
theorem cutA_len (s : ByteArray) : 1 ≤ (cutA s).length ∧ (cutA s).length ≤ s.size + 1 := ⟨(cut_len _ s).2, (cut_len _ s).1⟩

/-- No blank among the bytes from a place on, up to another one. -/
def noBl (s : ByteArray) (f i : Nat) : Prop := ∀ j, f ≤ j → j < i → byteN s j ≠ 32
theorem noBl_next {s : ByteArray} {f i : Nat} (h : noBl s f i) (h2 : byteN s i ≠ 32) : noBl s f (i + 1) := by
  intro j h1 hj
  by_cases e : j = i
  · subst e; exact h2
  · exact h j h1 (by omega)
theorem byteN_of {s : ByteArray} {j : Nat} (h : s.data.toList[j]? = some 32) : byteN s j = 32 := by
  rw [byteN, List.getD_eq_getElem?_getD, h]
  rfl
theorem byteN_is {s : ByteArray} {j : Nat} (hj : j < s.size) (h : byteN s j = 32) : s.data.toList[j]? = some 32 := by
  rw [byteN, List.getD_eq_getElem?_getD] at h
  rw [Lib.data_getElem? s j hj] at h ⊢
  simp only [Option.getD_some] at h
  rw [show s[j] = 32 from UInt8.toNat_inj.1 h]
theorem bl_from {s : ByteArray} {f i : Nat} (hfi : f ≤ i) (hi : i < s.size) (h : noBl s f i) (h2 : byteN s i = 32) : blAt (s.extract f s.size) = ((i - f : Nat) : Int) := by
  have e := Lib.extract_to_end s f
  have hit : (s.extract f s.size).data.toList[i - f]? = some 32 := by
    rw [e, List.getElem?_drop, show f + (i - f) = i by omega]
    exact byteN_is hi h2
  rcases bl_cases (s.extract f s.size) with h' | ⟨j, h', hj⟩
  · exact absurd hit (Lib.indexByte_none h' _)
  · rw [h']
    obtain ⟨a1, a2⟩ := Lib.indexByte_some h'
    have b1 : ¬ i - f < j := fun hlt => a2 _ hlt hit
    have b2 : ¬ j < i - f := fun hlt => by
      rw [e, List.getElem?_drop] at a1
      exact h (f + j) (by omega) (by omega) (byteN_of a1)
    have : j = i - f := by omega
    rw [this]
theorem bl_none {s : ByteArray} {f : Nat} (h : noBl s f s.size) : blAt (s.extract f s.size) = -1 := by
  rcases bl_cases (s.extract f s.size) with h' | ⟨j, h', hj⟩
  · exact h'
  · exfalso
    obtain ⟨a1, _⟩ := Lib.indexByte_some h'
    rw [ByteArray.size_extract] at hj
    rw [Lib.extract_to_end, List.getElem?_drop] at a1
    exact h (f + j) (by omega) (by omega) (byteN_of a1)
/-- A blank, the first from a place on: a word, and the rest. -/
theorem cutA_step {s : ByteArray} {f i : Nat} (hfi : f ≤ i) (hi : i < s.size) (h : noBl s f i) (h2 : byteN s i = 32) : cutA (s.extract f s.size) = s.extract f i :: cutA (s.extract (i + 1) s.size) := by
  rw [cutA_hit (bl_from hfi hi h h2)]
  congr 1
  · rw [ByteArray.extract_extract]
    congr 1 <;> omega
  · rw [ByteArray.extract_extract, ByteArray.size_extract]
    congr 2 <;> omega
theorem cutA_end {s : ByteArray} {f : Nat} (h : noBl s f s.size) : cutA (s.extract f s.size) = [s.extract f s.size] := cutA_miss (bl_none h)
end Go.Proofs.YtbieljcoaocfkabGreatDoor
