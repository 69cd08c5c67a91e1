/- What railref1.Joined answers: a contract for the walks above it. -/
import Derived.Test.YtfbocionnjlilacDoorTopoCheck
namespace Go.Proofs.YtfbocionnjlilacDoor
open Go.RowKit
set_option linter.unusedSimpArgs false
set_option linter.unusedVariables false

def jnB (a b : Int) (l : (Int × Int) × (Int × Int)) : Bool := (l.1.1 == a && l.2.1 == b) || (l.1.1 == b && l.2.1 == a)
set_option maxHeartbeats 2000000 in
set_option maxRecDepth 100000 in
theorem rjoined_any (S : Int) (ao : Option Addr) (n cap : Nat) (ao2 : Option Addr) (n2 cap2 : Nat) (Ls : List ((Int × Int) × (Int × Int))) (a b : Int) (w : World) (hL : GS lnkE w (.slice ao n cap) Ls) :
    Calls Tryd.prog 17 #[.agg #[.int .i64 S, .slice ao n cap, .slice ao2 n2 cap2], .int .i64 a, .int .i64 b] w fun e w' => e = .returned (.bool (joinB Ls a b)) ∧ Below w.heap.size w w' := by
  obtain ⟨_, _, _, e1, hLn, hLm, _, hLa⟩ := hL.form
  cases e1
  have HLN : Hid (Ls.length = n) := hLn
  have n63 : n ≤ 9223372036854775807 := by unfold maxLen at hLm; omega
  have HLA : Hid (0 < n → ∃ g o, ao = some ⟨g, o, none⟩ ∧ GAt lnkE w g o Ls ∧ cap ≤ maxLen) := hLa
  have hX := tbox_new w S (.slice ao n cap) (.slice ao2 n2 cap2) 25
  have hB : Below w.heap.size w (w.alloc (Obj.cells #[.int .i64 S, .slice ao n cap, .slice ao2 n2 cap2] 25)) := (Below.refl _ _).alloc (Nat.le_refl _) _
  obtain ⟨w0, hw0⟩ : ∃ W, w.alloc (Obj.cells #[.int .i64 S, .slice ao n cap, .slice ao2 n2 cap2] 25) = W := ⟨_, rfl⟩
  rw [hw0] at hX hB
  have HX : Hid (TBox w0 w.heap.size S (.slice ao n cap) (.slice ao2 n2 cap2)) := hX
  have HB : Hid (Below w.heap.size w w0) := hB
  have HW0 : Hid (w.alloc (Obj.cells #[.int .i64 S, .slice ao n cap, .slice ao2 n2 cap2] 25) = w0) := hw0
  clear hL hLn hLm hLa hX hw0 hB
  go_enter Tryd.func17, Tryd.ntmps17
  go_wp2
  rw [HW0.out]
  go_loopw [7] (fun i wr => ∃ k : Nat, k ≤ n ∧ i = .int .i64 k ∧ (Ls.take k).any (jnB a b) = false ∧ wr = w0) (fun i _ => n - (intOf i).toNat)
  case atStart => exact ⟨0, by omega, rfl, by simp, rfl⟩
  case round =>
    obtain ⟨k, hk, rfl, hno, rfl⟩ := hrel
    have HNO : Hid ((Ls.take k).any (jnB a b) = false) := hno
    obtain ⟨b0, b1, b2⟩ := HX.out
    clear hno HW0
    by_cases hlt : k < n
    · obtain ⟨g, o, hao, hc, _⟩ := HLA.out (by omega)
      subst hao
      obtain ⟨x0, x1, x2, x3, hkl, hLk, q0, q1, q2, q3⟩ := lnk_at (hc.later HB.out) HLN.out hlt
      have HLK : Hid (Ls[k] = ((x0, x1), (x2, x3))) := hLk
      have HE : Hid (jnB a b ((x0, x1), (x2, x3)) = ((x0 == a && x2 == b) || (x0 == b && x2 == a))) := rfl
      have HN1 : Hid (jnB a b ((x0, x1), (x2, x3)) = false → (Ls.take (k + 1)).any (jnB a b) = false) := fun ho => any_nextG hkl HNO.out (by rw [HLK.out]; exact ho)
      have HY : Hid (jnB a b ((x0, x1), (x2, x3)) = true → joinB Ls a b = true) := fun ho => any_hitG hkl (by rw [HLK.out]; exact ho)
      clear hLk hc
      cases g1 : (x0 == a) <;> cases g2 : (x2 == b) <;> cases g3 : (x0 == b) <;> cases g4 : (x2 == a)
      all_goals
        first
          | (have HF : Hid (jnB a b ((x0, x1), (x2, x3)) = false) := by
               show _ = _
               rw [HE.out, g1, g2, g3, g4]
               rfl
             go_wp2
             go_roundw
             case rel => exact ⟨k + 1, by omega, by go_num, HN1.out HF.out, by first | rfl | trivial⟩
             case measure => simp [intOf]; omega)
          | (have HF : Hid (jnB a b ((x0, x1), (x2, x3)) = true) := by
               show _ = _
               rw [HE.out, g1, g2, g3, g4]
               rfl
             go_wp2
             go_ret
             exact ⟨by rw [HY.out HF.out]; rfl, HB.out⟩)
    · obtain rfl : k = n := by omega
      have HR : Hid (joinB Ls a b = false) := by
        have := HNO.out
        rw [← HLN.out, List.take_length] at this
        exact this
      go_wp2
      go_ret
      exact ⟨by rw [HR.out]; rfl, HB.out⟩
end Go.Proofs.YtfbocionnjlilacDoor
