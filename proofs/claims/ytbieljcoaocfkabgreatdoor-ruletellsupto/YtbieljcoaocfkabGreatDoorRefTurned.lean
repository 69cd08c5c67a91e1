/- What the document's own Turned answers, of a rule and a header that are right. -/
import Derived.Test.YtbieljcoaocfkabGreatDoorRefBit
import Derived.Test.YtbieljcoaocfkabGreatDoorRuleRefMath
import Derived.Test.YtbieljcoaocfkabGreatDoorRuleTab
namespace Go.Proofs.YtbieljcoaocfkabGreatDoor
open Go.RowKit
set_option linter.unusedSimpArgs false

set_option maxHeartbeats 2000000 in
theorem turned_any (p m b o s v h : Int) (w : World) (hs : 0 ≤ s ∧ s < 16) (hv : 0 ≤ v ∧ v < 16) (hh : 0 ≤ h ∧ h < 16) :
    Calls Tryz.prog 13 #[.agg #[.int .i64 p, .int .i64 m, .int .i64 b, .int .i64 o, .int .i64 s, .int .i64 v], .int .i64 h] w fun e w' => e = .returned (.int .i64 (tuTo s v h 4)) ∧ Below w.heap.size w w' := by
  go_enter Tryz.func13, Tryz.ntmps13
  go_wp2
  go_loop [5, 6] (fun t i => ∃ k : Nat, k ≤ 4 ∧ i = .int .i64 (3 - k) ∧ t = .int .i64 (tuTo s v h k)) (fun _ i => (intOf i + 1).toNat)
  case atStart => exact ⟨0, by omega, rfl, rfl⟩
  case round =>
    obtain ⟨k, hk, rfl, rfl⟩ := hrel
    have hbd := tu_bd s v h k
    have hp : (2 : Int) ^ k ≤ 16 := by
      rcases (by omega : k = 0 ∨ k = 1 ∨ k = 2 ∨ k = 3 ∨ k = 4) with rfl | rfl | rfl | rfl | rfl <;> decide
    have b0 := hbd.1
    have b1 : tuTo s v h k < 16 := Int.lt_of_lt_of_le hbd.2 hp
    clear hp hbd
    by_cases hlt : k < 4
    · have hi : (3 - (k : Int)).toNat = 3 - k := by omega
      have HI : Hid ((3 - (k : Int)).toNat = 3 - k) := hi
      have HT : Hid (tuTo s v h (k + 1) = if (bitB s (3 - k) && bitB v (3 - k) || !bitB s (3 - k) && bitB h (3 - k)) then tuTo s v h k * 2 + 1 else tuTo s v h k * 2) := by
        show tuTo s v h (k + 1) = _
        rfl
      clear hi
      generalize tuTo s v h k = T at *
      go_wp2_with fail
      refine (refBit_any _ _ _ hs (by omega)).mono ?_
      rintro e w' ⟨rfl, rfl⟩
      rw [HI.out]
      go_wp2_with fail
      refine (refBit_any _ _ _ hv (by omega)).mono ?_
      rintro e w' ⟨rfl, rfl⟩
      rw [HI.out]
      go_wp2_with fail
      refine (refBit_any _ _ _ hh (by omega)).mono ?_
      rintro e w' ⟨rfl, rfl⟩
      rw [HI.out]
      generalize bitB s (3 - k) = X at *
      generalize bitB v (3 - k) = Y at *
      generalize bitB h (3 - k) = Z at *
      cases X <;> cases Y <;> cases Z
      all_goals
        go_wp2
        go_round
        case rel => exact ⟨k + 1, by omega, by go_num, by rw [HT.out]; rfl⟩
        case measure => simp [intOf]; omega
    · obtain rfl : k = 4 := by omega
      go_wp2
      go_ret
      exact ⟨rfl, (Below.refl _ _).alloc (Nat.le_refl _) _⟩
end Go.Proofs.YtbieljcoaocfkabGreatDoor
