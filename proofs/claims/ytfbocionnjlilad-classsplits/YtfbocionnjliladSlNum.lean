/- What slices.Contains and slices.Min answer at a slice of numbers. -/
import Derived.Test.YtfbocionnjliladClassMem
import Derived.Test.YtfbocionnjliladRows
import Derived.WalkKit
import Derived.WalkSpells
import Derived.Below
import Derived.BigQuiet
import Derived.Deep.QuietTactic
namespace Go.Proofs.Ytfbocionnjlilad
open Go.RowKit
set_option linter.unusedSimpArgs false
set_option linter.unusedVariables false

set_option maxHeartbeats 1000000 in
theorem num_idx (ao : Option Addr) (n cap : Nat) (h : Int) (L : List Int) (w : World) (hs : GS inE w (.slice ao n cap) L) :
    Calls Try.prog 28 #[.slice ao n cap, .int .i64 h] w fun e w' => e = .returned (.int .i64 (ixG (fun x => x == h) L)) ∧ Below w.heap.size w w' := by
  obtain ⟨_, _, _, e1, hn, hn2, _, ha⟩ := hs.form
  cases e1
  have HN : Hid (L.length = n) := hn
  have HA : Hid (0 < n → ∃ g o, ao = some ⟨g, o, none⟩ ∧ GAt inE w g o L ∧ cap ≤ maxLen) := ha
  unfold maxLen at hn2
  clear hn ha hs
  go_enter Try.func28, Try.ntmps28
  go_wp2
  go_loopw [8] (fun i wr => ∃ k : Nat, k ≤ n ∧ i = .int .i64 k ∧ (L.take k).any (fun x => x == h) = false ∧ Below w.heap.size w wr)
    (fun i _ => n - (intOf i).toNat)
  case atStart => exact ⟨0, by omega, rfl, by simp, Below.refl _ _⟩
  case round =>
    obtain ⟨k, hk, rfl, hno, hB⟩ := hrel
    have HB : Hid (Below w.heap.size w wr) := hB
    have HNO : Hid ((L.take k).any (fun x => x == h) = false) := hno
    clear hno
    by_cases hlt : k < n
    · obtain ⟨g, o, hao, hc, _⟩ := HA.out (by omega)
      subst hao
      obtain ⟨x, hkl, hL, q0⟩ := in_at (hc.later hB) HN.out hlt
      have HL : Hid (L[k] = x) := hL
      clear hB hL hc
      by_cases ho : x = h
      · subst ho
        go_wp2
        go_ret
        exact ⟨by rw [ixG_hit hkl HNO.out (by rw [HL.out]; simp)]; rfl, HB.out⟩
      · have ho2 : h ≠ x := Ne.symm ho
        go_wp2
        go_roundw
        case rel => exact ⟨k + 1, by omega, by go_num, any_nextG hkl HNO.out (by rw [HL.out]; simpa using ho), HB.out⟩
        case measure => simp [intOf]; omega
    · obtain rfl : k = n := by omega
      go_wp2
      go_ret
      exact ⟨by have := HNO.out; rw [← HN.out, List.take_length] at this; rw [ixG_no this]; rfl, HB.out⟩
set_option maxHeartbeats 1000000 in
theorem num_has (ao : Option Addr) (n cap : Nat) (h : Int) (L : List Int) (w : World) (hs : GS inE w (.slice ao n cap) L) :
    Calls Try.prog 16 #[.slice ao n cap, .int .i64 h] w fun e w' => e = .returned (.bool (hasL h L)) ∧ Below w.heap.size w w' := by
  have HX : Hid (hasL h L = decide (0 ≤ ixG (fun x => x == h) L)) := (ixG_any L (fun x => x == h)).symm
  rw [HX.out]
  obtain ⟨z, hz⟩ : ∃ z, z = ixG (fun x => x == h) L := ⟨_, rfl⟩
  rw [← hz]
  have HZ : Hid (z = ixG (fun x => x == h) L) := hz
  clear hz HX
  go_enter Try.func16, Try.ntmps16
  go_wp2_with fail
  refine (num_idx ao n cap h L _ hs).mono ?_
  rintro e w2 ⟨rfl, hb2⟩
  rw [← HZ.out]
  go_wp2
  go_ret
  exact ⟨rfl, hb2⟩
set_option maxHeartbeats 1000000 in
theorem num_min (ao : Option Addr) (n cap : Nat) (L : List Int) (w : World) (hs : GS inE w (.slice ao n cap) L) (hn1 : 0 < n) :
    Calls Try.prog 17 #[.slice ao n cap] w fun e w' => e = .returned (.int .i64 (mnTo L L.length)) ∧ Below w.heap.size w w' := by
  obtain ⟨_, _, _, e1, hn, hn2, _, ha⟩ := hs.form
  cases e1
  have HN : Hid (L.length = n) := hn
  obtain ⟨g, o, hao, hc, _⟩ := ha hn1
  subst hao
  have HC : Hid (GAt inE w g o L) := hc
  obtain ⟨x0, hx0, hL0, q0⟩ := in_at hc hn hn1
  have HX0 : Hid (mnTo L 1 = x0) := by
    show _ = _
    rw [mnTo, if_pos (.inl rfl), ← hL0]
    simp [List.getD, hx0]
  unfold maxLen at hn2
  have hn3 : ¬ (n : Int) < 1 := by omega
  rw [hn]
  simp only [Nat.add_zero] at q0
  clear hn ha hs hc hL0 hx0
  go_enter Try.func17, Try.ntmps17
  go_wp2
  go_loopw [3, 4] (fun m i wr => ∃ k : Nat, 0 < k ∧ k ≤ n ∧ m = .int .i64 (mnTo L k) ∧ i = .int .i64 k ∧ wr = w) (fun _ i _ => n - (intOf i).toNat)
  case atStart => exact ⟨1, by omega, by omega, by rw [HX0.out], rfl, rfl⟩
  case round =>
    obtain ⟨k, hk0, hk, rfl, rfl, hw⟩ := hrel
    subst hw
    by_cases hlt : k < n
    · obtain ⟨x, hkl, hL, q1⟩ := in_at HC.out HN.out hlt
      have HL : Hid (L.getD k 0 = x) := by
        show _ = _
        rw [← hL]
        simp [List.getD, hkl]
      clear hL q0
      obtain ⟨M, hM⟩ : ∃ M, M = mnTo L k := ⟨_, rfl⟩
      have HM : Hid (mnTo L k = M) := hM.symm
      rw [← hM]
      clear hM
      by_cases ho : x < M
      · have HR : Hid (mnTo L (k + 1) = x) := by
          show _ = _
          rw [mnTo, HL.out, HM.out, if_pos (.inr ho)]
        go_wp2
        go_roundw
        case rel => exact ⟨k + 1, by omega, by omega, by rw [HR.out], by go_num, trivial⟩
        case measure => simp [intOf]; omega
      · have HR : Hid (mnTo L (k + 1) = M) := by
          show _ = _
          rw [mnTo, HL.out, HM.out, if_neg]
          rintro (h1 | h1)
          · omega
          · exact ho h1
        go_wp2
        go_roundw
        case rel => exact ⟨k + 1, by omega, by omega, by rw [HR.out], by go_num, trivial⟩
        case measure => simp [intOf]; omega
    · obtain rfl : k = n := by omega
      clear q0
      go_wp2
      go_ret
      exact ⟨rfl, Below.refl _ _⟩
end Go.Proofs.Ytfbocionnjlilad
