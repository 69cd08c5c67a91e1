/- What cubes of headers come to, in plain numbers: no program in it. -/
import Derived.WalkKit
import Derived.Laws.BytesArg
namespace Go.Proofs.YtpbfgfphcjmcbaaDoor
open Go.RowKit

/-- Is it a header? -/
def hdrB (n : Int) : Bool := decide (0 ≤ n) && decide (n < 16)
/-- Are both numbers of a cube headers? -/
def rngB (m b : Int) : Bool := hdrB m && hdrB b
/-- Is a cube right? -/
def okB (m b : Int) : Bool := rngB m b && (bits .andNot .i64 b m == 0)
/-- Do two cubes meet? -/
def mtOk (m b n c : Int) : Bool := okB m b && okB n c && (bits .and .i64 (bits .and .i64 (bits .xor .i64 b c) m) n == 0)
def mtM (m b n c : Int) : Int := if mtOk m b n c then bits .or .i64 m n else 0
def mtB (m b n c : Int) : Int := if mtOk m b n c then bits .or .i64 b c else 0
/-- Is the one in the other? -/
def insB (m b n c : Int) : Bool := mtOk m b n c && (mtM m b n c == m && mtB m b n c == b)
/-- How many bits a small number has. -/
def pop (m : Int) : Int := m % 2 + m / 2 % 2 + m / 4 % 2 + m / 8 % 2
def cntN (m b : Int) : Int := if okB m b then 2 ^ (4 - pop m).toNat else 0
def fstN (m b : Int) : Int := if okB m b then b else 0

theorem hdr_of {n : Int} (h : hdrB n = true) : 0 ≤ n ∧ n < 16 := by simpa [hdrB] using h
theorem hdr_no {n : Int} (h : hdrB n = false) : n < 0 ∨ 16 ≤ n := by simp [hdrB] at h; omega
theorem hdr_mk {n : Int} (h : 0 ≤ n ∧ n < 16) : hdrB n = true := by simpa [hdrB] using h
theorem rng_of {m b : Int} (h : rngB m b = true) : (0 ≤ m ∧ m < 16) ∧ (0 ≤ b ∧ b < 16) := by
  simp only [rngB, Bool.and_eq_true] at h; exact ⟨hdr_of h.1, hdr_of h.2⟩
theorem ok_rng {m b : Int} (h : okB m b = true) : rngB m b = true := by
  simp only [okB, Bool.and_eq_true] at h; exact h.1
theorem ok_of {m b : Int} (h : okB m b = true) : (0 ≤ m ∧ m < 16) ∧ (0 ≤ b ∧ b < 16) := rng_of (ok_rng h)

/-- A small number is the cast of one of sixteen. -/
theorem small {n : Int} (h : 0 ≤ n ∧ n < 16) : ∃ k : Fin 16, n = ((k : Nat) : Int) := ⟨⟨n.toNat, by omega⟩, by simp; omega⟩

theorem pop_le (m : Int) : 0 ≤ pop m ∧ pop m ≤ 4 := by unfold pop; omega

/-- The letter of one bit. -/
def ltr (m b x : Int) : Int := if bits .and .i64 m x == 0 then 42 else if bits .and .i64 b x == 0 then 48 else 49
def bitN (i : Nat) : Int := 2 ^ (3 - i)
def ltrAt (m b : Int) (i : Nat) : Int := ltr m b (bitN i)
theorem ltr_bd (m b x : Int) : 42 ≤ ltr m b x ∧ ltr m b x ≤ 49 := by unfold ltr; split <;> (try split) <;> omega
/-- A cube as text. -/
def prS (m b : Int) : ByteArray := strOfNums [ltrAt m b 0, ltrAt m b 1, ltrAt m b 2, ltrAt m b 3]
/-- What has been written of a cube's text behind k rounds. -/
def ltrTo (m b : Int) (k j : Nat) : Int := if j < k then ltrAt m b j else 0

/-- One byte of a text read: Mask, Bits. -/
def rdM (c : Nat) (i : Nat) (m : Int) : Int := if c = 49 ∨ c = 48 then bits .or .i64 m (bitN i) else m
def rdB (c : Nat) (i : Nat) (b : Int) : Int := if c = 49 then bits .or .i64 b (bitN i) else b
/-- May a byte stand in a cube's text? -/
def mayB (c : Nat) : Bool := c == 49 || c == 48 || c == 42
def byteN (s : ByteArray) (i : Nat) : Nat := (s.data.toList.getD i 0).toNat
def psMTo (s : ByteArray) : Nat → Int
  | 0 => 0
  | k + 1 => rdM (byteN s k) k (psMTo s k)
def psBTo (s : ByteArray) : Nat → Int
  | 0 => 0
  | k + 1 => rdB (byteN s k) k (psBTo s k)
def mayTo (s : ByteArray) : Nat → Bool
  | 0 => true
  | k + 1 => mayTo s k && mayB (byteN s k)
/-- Is a text a cube's? -/
def psOk (s : ByteArray) : Bool := s.size == 4 && mayTo s 4
def psM (s : ByteArray) : Int := if psOk s then psMTo s 4 else 0
def psB (s : ByteArray) : Int := if psOk s then psBTo s 4 else 0

/-- Is a header in a cube? -/
def hasB (m b h : Int) : Bool := hdrB h && (okB m b && (bits .and .i64 h m == b))
/-- The fault's number of a cube. -/
def refN (m b : Int) : Int := if okB m b then 0 else if rngB m b then 3 else 1
theorem refN_ok {m b : Int} (h : okB m b = true) : refN m b = 0 := by simp [refN, h]
theorem refN_shape {m b : Int} (h : okB m b = false) (h2 : rngB m b = true) : refN m b = 3 := by simp [refN, h, h2]
theorem refN_range {m b : Int} (h2 : rngB m b = false) : refN m b = 1 := by simp [refN, okB, h2]
theorem refN_bd (m b : Int) : 0 ≤ refN m b ∧ refN m b ≤ 3 := by unfold refN; split <;> (try split) <;> omega
theorem ok_refN (m b : Int) : (refN m b == 0) = okB m b := by
  cases h : okB m b
  · cases h2 : rngB m b
    · simp [refN_range h2]
    · simp [refN_shape h h2]
  · simp [refN_ok h]
theorem andEq_fin : ∀ m b : Fin 16, (bits .and .i64 ((b : Nat) : Int) ((m : Nat) : Int) == ((b : Nat) : Int)) = (bits .andNot .i64 ((b : Nat) : Int) ((m : Nat) : Int) == 0) := by decide +kernel
theorem andEq {m b : Int} (h : rngB m b = true) : (bits .and .i64 b m == b) = okB m b := by
  obtain ⟨h1, h2⟩ := rng_of h
  have e : okB m b = (bits .andNot .i64 b m == 0) := by simp [okB, h]
  rw [e]
  obtain ⟨x, rfl⟩ := small h1
  obtain ⟨y, rfl⟩ := small h2
  exact andEq_fin x y
/-- The i-th bit of a small number. -/
def bitB (x : Int) (i : Nat) : Bool := x / 2 ^ i % 2 == 1
end Go.Proofs.YtpbfgfphcjmcbaaDoor
