/- What the document's own functions on a cube's text answer: contracts for the walks above them. -/
import Derived.Test.YtbieljcoaocfkabGreatDoorRefBit
import Derived.Test.YtbieljcoaocfkabGreatDoorCubeParse
import Derived.Test.YtbieljcoaocfkabGreatDoorCubeFacts
namespace Go.Proofs.YtbieljcoaocfkabGreatDoor
open Go.RowKit
set_option linter.unusedSimpArgs false

/-- The letters of a cube, highest bit first. -/
def shL (m b : Int) (k : Nat) : List Int := (List.range k).map fun j => ltrAt m b j
def shTo (m b : Int) (k : Nat) : ByteArray := strOfNums (shL m b k)

theorem sh_next (m b : Int) (k : Nat) : shTo m b (k + 1) = shTo m b k ++ ⟨#[UInt8.ofNat (ltrAt m b k).toNat]⟩ := by
  apply ByteArray.ext
  simp [shTo, shL, strOfNums, List.range_succ]
theorem sh_four (m b : Int) : shTo m b 4 = prS m b := rfl
theorem bit_fin : ∀ (m : Fin 16) (k : Fin 4), (bits .and .i64 ((m : Nat) : Int) (bitN k) == 0) = !bitB ((m : Nat) : Int) (3 - k) := by decide +kernel
theorem bit_and {m : Int} {k : Nat} (hm : 0 ≤ m ∧ m < 16) (hk : k < 4) : (bits .and .i64 m (bitN k) == 0) = !bitB m (3 - k) := by
  obtain ⟨x, rfl⟩ := small hm
  exact bit_fin x ⟨k, hk⟩
theorem sh_star {m b : Int} {k : Nat} {S : ByteArray} (hm : 0 ≤ m ∧ m < 16) (hk : k < 4) (hS : shTo m b k = S) (h : (!bitB m (3 - k)) = true) : S ++ ⟨#[42]⟩ = shTo m b (k + 1) := by
  have e : ltrAt m b k = 42 := by simp only [ltrAt, ltr, bit_and hm hk, h]; rfl
  rw [sh_next, e, hS]; rfl
theorem sh_one {m b : Int} {k : Nat} {S : ByteArray} (hm : 0 ≤ m ∧ m < 16) (hb : 0 ≤ b ∧ b < 16) (hk : k < 4) (hS : shTo m b k = S) (h : (!bitB m (3 - k)) = false) (h2 : bitB b (3 - k) = true) : S ++ ⟨#[49]⟩ = shTo m b (k + 1) := by
  have e : ltrAt m b k = 49 := by simp only [ltrAt, ltr, bit_and hm hk, bit_and hb hk, h, h2]; rfl
  rw [sh_next, e, hS]; rfl
theorem sh_zero {m b : Int} {k : Nat} {S : ByteArray} (hm : 0 ≤ m ∧ m < 16) (hb : 0 ≤ b ∧ b < 16) (hk : k < 4) (hS : shTo m b k = S) (h : (!bitB m (3 - k)) = false) (h2 : bitB b (3 - k) = false) : S ++ ⟨#[48]⟩ = shTo m b (k + 1) := by
  have e : ltrAt m b k = 48 := by simp only [ltrAt, ltr, bit_and hm hk, bit_and hb hk, h, h2]; rfl
  rw [sh_next, e, hS]; rfl

set_option maxHeartbeats 1000000 in
theorem refShow_any (m b : Int) (w : World) (h : okB m b = true) :
    Calls Tryz.prog 26 #[.agg #[.int .i64 m, .int .i64 b]] w fun e w' => e = .returned (.string (prS m b)) ∧ Below w.heap.size w w' := by
  have hm := (ok_of h).1
  have hb := (ok_of h).2
  clear h
  go_enter Tryz.func26, Tryz.ntmps26
  go_wp2
  go_loop [3, 4] (fun t i => ∃ k : Nat, k ≤ 4 ∧ i = .int .i64 (3 - k) ∧ t = .string (shTo m b k)) (fun _ i => (intOf i + 1).toNat)
  case atStart => exact ⟨0, by omega, rfl, rfl⟩
  case round =>
    obtain ⟨k, hk, rfl, rfl⟩ := hrel
    have hsz : (shTo m b k).size = k := by simp [shTo, strOfNums, shL, ByteArray.size]
    generalize hS : shTo m b k = S at *
    have HS : Hid (shTo m b k = S) := hS
    clear hS
    by_cases hlt : k < 4
    · go_wp2_with (go_at_call 36; refine (refBit_any _ _ _ (by omega) (by omega)).mono ?_; rintro e w' ⟨rfl, rfl⟩)
      all_goals
        go_round
        case rel => exact ⟨k + 1, by omega, by go_num, congrArg Value.string (by first | exact sh_star hm hlt HS.out (by assumption) | exact sh_one hm hb hlt HS.out (by assumption) (by assumption) | exact sh_zero hm hb hlt HS.out (by assumption) (by assumption))⟩
        case measure => simp [intOf]; omega
    · obtain rfl : k = 4 := by omega
      go_wp2
      go_ret
      exact ⟨by rw [← sh_four, HS.out]; rfl, (Below.refl _ _).alloc (Nat.le_refl _) _⟩

/-- The document's own reading of a text: Mask, Bits behind k bytes. -/
def rcM (s : ByteArray) : Nat → Int
  | 0 => 0
  | k + 1 => if byteN s k = 49 ∨ byteN s k = 48 then rcM s k * 2 + 1 else rcM s k * 2
def rcD (s : ByteArray) : Nat → Int
  | 0 => 0
  | k + 1 => if byteN s k = 49 then rcD s k * 2 + 1 else rcD s k * 2
theorem rcM_bd (s : ByteArray) : ∀ k, 0 ≤ rcM s k ∧ rcM s k < 2 ^ k
  | 0 => by simp [rcM]
  | k + 1 => by
    have := rcM_bd s k
    have e : (2 : Int) ^ (k + 1) = 2 ^ k * 2 := Int.pow_succ ..
    unfold rcM
    split <;> omega
theorem rcD_bd (s : ByteArray) : ∀ k, 0 ≤ rcD s k ∧ rcD s k < 2 ^ k
  | 0 => by simp [rcD]
  | k + 1 => by
    have := rcD_bd s k
    have e : (2 : Int) ^ (k + 1) = 2 ^ k * 2 := Int.pow_succ ..
    unfold rcD
    split <;> omega
theorem pow_le16 {k : Nat} (h : k ≤ 4) : (2 : Int) ^ k ≤ 16 := by
  rcases (by omega : k = 0 ∨ k = 1 ∨ k = 2 ∨ k = 3 ∨ k = 4) with rfl | rfl | rfl | rfl | rfl <;> decide
theorem rc_all : ∀ a b c d : Fin 3, (rcM (txt a b c d) 4 == psM (txt a b c d) && rcD (txt a b c d) 4 == psB (txt a b c d)) = true := by decide +kernel
theorem rc_ps {s : ByteArray} (h : psOk s = true) : rcM s 4 = psM s ∧ rcD s 4 = psB s := by
  obtain ⟨a, b, c, d, rfl⟩ := txt_of h
  simpa using rc_all a b c d
end Go.Proofs.YtbieljcoaocfkabGreatDoor
