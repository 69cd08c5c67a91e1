/- What railref1.Name answers: a contract for the walks above it. -/
import Derived.Test.YtfbocionnjlilacDoorTopoMath
import Derived.Lib.Strings
import Derived.Test.YtfbocionnjlilacDoorRows
import Derived.WalkKit
import Derived.WalkSpells
import Derived.Below
namespace Go.Proofs.YtfbocionnjlilacDoor
open Go.RowKit
set_option linter.unusedSimpArgs false
set_option linter.unusedVariables false

theorem byte_lst (s : ByteArray) : s.toList = s.data.toList := by rw [Lib.toList_data]
theorem size_lst (s : ByteArray) : s.data.toList.length = s.size := by simp
/-- Is a byte a letter? -/
def ltB (c : UInt8) : Bool := decide (97 ≤ c.toNat) && decide (c.toNat ≤ 122)
theorem lt_at (s : ByteArray) (k : Nat) (h : k < s.size) : s.data.toList[k]'(by simpa using h) = s[k] := by simp [ByteArray.getElem_eq_getElem_data]
theorem rnm_eq (s : ByteArray) : nmB s = (decide (1 ≤ s.size) && (decide (s.size ≤ 6) && s.data.toList.all ltB)) := rfl

set_option maxHeartbeats 1000000 in
set_option maxRecDepth 100000 in
theorem rname_any (s : ByteArray) (w : World) :
    Calls Tryd.prog 33 #[.string s] w fun e w' => e = .returned (.bool (nmB s)) ∧ w' = w := by
  by_cases h0 : s.size = 0
  · have e0 : s.toList.isEmpty = true := by
      rw [byte_lst, List.isEmpty_iff, ← List.length_eq_zero_iff, size_lst, h0]
    have HR : Hid (nmB s = false) := by
      show _ = _
      rw [rnm_eq, h0]
      rfl
    rw [HR.out]
    go_enter Tryd.func33, Tryd.ntmps33
    go_wp2
    go_ret
    exact ⟨rfl, rfl⟩
  · have e0 : s.toList.isEmpty = false := by
      rw [byte_lst, ← Bool.not_eq_true, List.isEmpty_iff, ← List.length_eq_zero_iff, size_lst]; exact h0
    by_cases h6 : 6 < s.size
    · have e6 : decide ((6 : Int) < (s.size : Int)) = true := by simp; omega
      have HR : Hid (nmB s = false) := by
        show _ = _
        have : ¬ s.size ≤ 6 := by omega
        rw [rnm_eq]
        simp [this]
      rw [HR.out]
      go_enter Tryd.func33, Tryd.ntmps33
      go_wp2
      go_ret
      exact ⟨rfl, rfl⟩
    · have e6 : decide ((6 : Int) < (s.size : Int)) = false := by simp; omega
      have HR : Hid (nmB s = s.data.toList.all ltB) := by
        show _ = _
        have h1 : 1 ≤ s.size := by omega
        have h2 : s.size ≤ 6 := by omega
        rw [rnm_eq]
        simp [h1, h2]
      obtain ⟨R, hR⟩ : ∃ R, R = nmB s := ⟨_, rfl⟩
      have HRR : Hid (R = nmB s) := hR
      rw [← hR]
      clear hR
      go_enter Tryd.func33, Tryd.ntmps33
      go_wp2
      go_loopw [3] (fun i wr => ∃ k : Nat, k ≤ s.size ∧ i = .int .i64 k ∧ (s.data.toList.take k).all ltB = true ∧ wr = w) (fun i _ => s.size - (intOf i).toNat)
      case atStart => exact ⟨0, by omega, rfl, by simp, rfl⟩
      case round =>
        obtain ⟨k, hk, rfl, hall, rfl⟩ := hrel
        have HALL : Hid ((s.data.toList.take k).all ltB = true) := hall
        clear hall
        by_cases hlt : k < s.size
        · have HNX : Hid (ltB s[k] = true → (s.data.toList.take (k + 1)).all ltB = true) := fun hy => by
            have hk2 : k < s.data.toList.length := by simpa using hlt
            rw [List.take_succ_eq_append_getElem hk2, List.all_append, HALL.out, lt_at s k hlt]
            simp [hy]
          have HNO : Hid (ltB s[k] = false → R = false) := fun hn => by
            rw [HRR.out, HR.out]
            cases ha : s.data.toList.all ltB
            · rfl
            · have hk2 : k < s.data.toList.length := by simpa using hlt
              have := List.all_eq_true.1 ha _ (List.getElem_mem hk2)
              rw [lt_at s k hlt, hn] at this
              cases this
          by_cases g1 : s[k].toNat < 97
          · have d1 : decide ((s[k].toNat : Int) < 97) = true := by simp; omega
            have HF : Hid (R = false) := HNO.out (by unfold ltB; simp; omega)
            go_wp2
            go_ret
            exact ⟨by rw [HF.out]; rfl, rfl⟩
          · have d1 : decide ((s[k].toNat : Int) < 97) = false := by simp; omega
            by_cases g2 : 122 < s[k].toNat
            · have d2 : decide (122 < (s[k].toNat : Int)) = true := by simp; omega
              have HF : Hid (R = false) := HNO.out (by unfold ltB; simp; omega)
              go_wp2
              go_ret
              exact ⟨by rw [HF.out]; rfl, rfl⟩
            · have d2 : decide (122 < (s[k].toNat : Int)) = false := by simp; omega
              have HY : Hid ((s.data.toList.take (k + 1)).all ltB = true) := HNX.out (by unfold ltB; simp; omega)
              go_wp2
              go_roundw
              case rel => exact ⟨k + 1, by omega, by go_num, HY.out, by first | rfl | trivial⟩
              case measure => simp [intOf]; omega
        · obtain rfl : k = s.size := by omega
          have HF : Hid (R = true) := by
            show _ = _
            have h1 := HALL.out
            rw [← size_lst, List.take_length] at h1
            rw [HRR.out, HR.out, h1]
          go_wp2
          go_ret
          exact ⟨by rw [HF.out]; rfl, rfl⟩
end Go.Proofs.YtfbocionnjlilacDoor
