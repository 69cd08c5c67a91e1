/- What railref1.Named answers: a contract for the walks above it. -/
import Derived.Test.YtfbocionnjlilacDoorTopoWhere
namespace Go.Proofs.YtfbocionnjlilacDoor
open Go.RowKit
set_option linter.unusedSimpArgs false
set_option linter.unusedVariables false

set_option maxHeartbeats 2000000 in
set_option maxRecDepth 100000 in
theorem rnamed_any (S : Int) (ao : Option Addr) (n cap : Nat) (ao2 : Option Addr) (n2 cap2 : Nat) (Hs : List (ByteArray × (Int × Int))) (m : ByteArray) (w : World) (hH : GS hstE w (.slice ao2 n2 cap2) Hs) :
    Calls Tryd.prog 15 #[.agg #[.int .i64 S, .slice ao n cap, .slice ao2 n2 cap2], .string m] w fun e w' => e = .returned (.int .i64 (whN Hs m)) ∧ Below w.heap.size w w' := by
  obtain ⟨_, _, _, e1, hHn, hHm, _, hHa⟩ := hH.form
  cases e1
  have HHN : Hid (Hs.length = n2) := hHn
  have n63 : n2 ≤ 9223372036854775807 := by unfold maxLen at hHm; omega
  have HHA : Hid (0 < n2 → ∃ g o, ao2 = some ⟨g, o, none⟩ ∧ GAt hstE w g o Hs ∧ cap2 ≤ maxLen) := hHa
  have hX := tbox_new w S (.slice ao n cap) (.slice ao2 n2 cap2) 25
  have hB : Below w.heap.size w (w.alloc (Obj.cells #[.int .i64 S, .slice ao n cap, .slice ao2 n2 cap2] 25)) := (Below.refl _ _).alloc (Nat.le_refl _) _
  obtain ⟨w0, hw0⟩ : ∃ W, w.alloc (Obj.cells #[.int .i64 S, .slice ao n cap, .slice ao2 n2 cap2] 25) = W := ⟨_, rfl⟩
  rw [hw0] at hX hB
  have HX : Hid (TBox w0 w.heap.size S (.slice ao n cap) (.slice ao2 n2 cap2)) := hX
  have HB : Hid (Below w.heap.size w w0) := hB
  have HW0 : Hid (w.alloc (Obj.cells #[.int .i64 S, .slice ao n cap, .slice ao2 n2 cap2] 25) = w0) := hw0
  clear hH hHn hHm hHa hX hw0 hB
  go_enter Tryd.func15, Tryd.ntmps15
  go_wp2
  rw [HW0.out]
  go_loopw [5] (fun i wr => ∃ k : Nat, k ≤ n2 ∧ i = .int .i64 k ∧ (Hs.take k).any (fun h => h.1 == m) = false ∧ wr = w0) (fun i _ => n2 - (intOf i).toNat)
  case atStart => exact ⟨0, by omega, rfl, by simp, rfl⟩
  case round =>
    obtain ⟨k, hk, rfl, hno, rfl⟩ := hrel
    have HNO : Hid ((Hs.take k).any (fun h => h.1 == m) = false) := hno
    obtain ⟨b0, b1, b2⟩ := HX.out
    clear hno HW0
    by_cases hlt : k < n2
    · obtain ⟨g, o, hao, hc, _⟩ := HHA.out (by omega)
      subst hao
      obtain ⟨y0, y1, y2, hkl, hHk, q0, q1, q2⟩ := hst_at (hc.later HB.out) HHN.out hlt
      have HHK : Hid (Hs[k] = (y0, (y1, y2))) := hHk
      have hr : (y0 == m) = (y0.toList == m.toList) := beq_toListBytes _ _
      clear hHk hc
      cases ho : (y0 == m)
      · have HN1 : Hid ((Hs.take (k + 1)).any (fun h => h.1 == m) = false) := any_nextG hkl HNO.out (by rw [HHK.out]; exact ho)
        rw [hr] at ho
        clear hr
        go_wp2
        go_roundw
        case rel => exact ⟨k + 1, by omega, by go_num, HN1.out, by first | rfl | trivial⟩
        case measure => simp [intOf]; omega
      · have HR : Hid (whN Hs m = k) := ixG_hit hkl HNO.out (by rw [HHK.out]; exact ho)
        rw [hr] at ho
        clear hr
        go_wp2
        go_ret
        exact ⟨by rw [HR.out]; rfl, HB.out⟩
    · obtain rfl : k = n2 := by omega
      have HR : Hid (whN Hs m = -1) := by
        have := HNO.out
        rw [← HHN.out, List.take_length] at this
        exact ixG_no this
      go_wp2
      go_ret
      exact ⟨by rw [HR.out]; rfl, HB.out⟩
end Go.Proofs.YtfbocionnjlilacDoor
