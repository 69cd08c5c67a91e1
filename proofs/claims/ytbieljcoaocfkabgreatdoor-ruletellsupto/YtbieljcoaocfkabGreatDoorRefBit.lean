/- What the document's own bit answers: a contract for the walks above it. -/
import Derived.Test.YtbieljcoaocfkabGreatDoorRefCube
namespace Go.Proofs.YtbieljcoaocfkabGreatDoor
open Go.RowKit
set_option linter.unusedSimpArgs false

theorem ediv_pow (x : Int) (k : Nat) : x / 2 ^ k / 2 = x / 2 ^ (k + 1) := by
  rw [Int.ediv_ediv_of_nonneg (Int.pow_nonneg (by decide)), ← Int.pow_succ]

set_option maxHeartbeats 400000 in
theorem refBit_any (x i : Int) (w : World) (hx : 0 ≤ x ∧ x < 16) (hi : 0 ≤ i ∧ i ≤ 3) :
    Calls Tryz.prog 36 #[.int .i64 x, .int .i64 i] w fun e w' => e = .returned (.bool (bitB x i.toNat)) ∧ w' = w := by
  obtain ⟨hx0, hx1⟩ := hx
  obtain ⟨hi0, hi1⟩ := hi
  go_enter Tryz.func36, Tryz.ntmps36
  go_wp2
  go_loop [0, 5] (fun v p => ∃ k : Nat, (k : Int) ≤ i ∧ p = .int .i64 k ∧ v = .int .i64 (x / 2 ^ k)) (fun _ p => (i - intOf p).toNat)
  case atStart => exact ⟨0, by omega, rfl, by simp⟩
  case round =>
    obtain ⟨k, hk, rfl, rfl⟩ := hrel
    have hE : 0 ≤ x / 2 ^ k := Int.ediv_nonneg hx0 (Int.pow_nonneg (by decide))
    have hE2 : x / 2 ^ k < 16 := Int.lt_of_le_of_lt (Int.ediv_le_self _ hx0) hx1
    have HP : Hid (x / 2 ^ k / 2 = x / 2 ^ (k + 1)) := ediv_pow x k
    by_cases hlt : (k : Int) < i
    · generalize x / 2 ^ k = y at *
      go_wp2
      go_round
      case rel => exact ⟨k + 1, by omega, by go_num, by rw [← HP.out]⟩
      case measure => simp [intOf]; omega
    · have hk2 : i.toNat = k := by omega
      have HB : Hid (bitB x i.toNat = (x / 2 ^ k % 2 == 1)) := by show _ = _; rw [hk2]; rfl
      clear hk2
      generalize x / 2 ^ k = y at *
      go_wp2
      go_ret
      refine ⟨?_, rfl⟩
      rw [HB.out]
      rfl
end Go.Proofs.YtbieljcoaocfkabGreatDoor
