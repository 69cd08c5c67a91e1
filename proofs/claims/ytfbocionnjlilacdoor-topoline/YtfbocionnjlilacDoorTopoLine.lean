/- The walk of TopoLine: it answers true, whatever three numbers it is called with. -/
import Derived.Test.YtfbocionnjlilacDoorTopoLine1
import Derived.Test.YtfbocionnjlilacDoorLineMath2
import Derived.Test.YtfbocionnjlilacDoorTopoNearA
import Derived.Test.YtfbocionnjlilacDoorTopoFar
import Derived.Test.YtfbocionnjlilacDoorSameNo
namespace Go.Proofs.YtfbocionnjlilacDoor.topoLine
open Go.RowKit
set_option linter.unusedSimpArgs false
set_option linter.unusedVariables false

theorem line_7 (w : World) : Calls Tryd.prog 22 #[.int .i64 7] w fun e w' => ∃ ao n cap ao2 n2 cap2, e = .returned (.agg #[.int .i64 7, .slice ao n cap, .slice ao2 n2 cap2]) ∧ GS lnkE w' (.slice ao n cap) (lnTo 6) ∧ GS hstE w' (.slice ao2 n2 cap2) (lnH 7) ∧ Below w.heap.size w w' :=
  line_any 7 w (by decide) (by decide)

set_option maxRecDepth 100000 in
set_option maxHeartbeats 4000000 in
theorem out (n a b : Int) (h : n < 1 ∨ 6 < n) (w : World) :
    Calls Tryd.prog 4 #[.int .i64 n, .int .i64 a, .int .i64 b] w fun e w' => e = .returned (.bool true) ∧ Below w.heap.size w w' := by
  obtain ⟨T, hT⟩ : ∃ T, T = tpN 7 (lnTo 6) (lnH 7) := ⟨_, rfl⟩
  have HT : Hid (T = tpN 7 (lnTo 6) (lnH 7)) := hT
  have HT0 : Hid (T ≠ 0) := by
    show T ≠ 0
    rw [hT]
    exact ln_7
  clear hT
  by_cases h1 : n < 1
  · have e1 : decide (n < 1) = true := by simpa using h1
    go_enter Tryd.func4, Tryd.ntmps4
    go_wp2_with fail
    refine (line_7 _).mono ?_
    rintro e w1 ⟨ao, m, cap, ao2, m2, cap2, rfl, hL, hH, hb1⟩
    have HL : Hid (GS lnkE w1 (.slice ao m cap) (lnTo 6)) := hL
    have HH : Hid (GS hstE w1 (.slice ao2 m2 cap2) (lnH 7)) := hH
    have HB1 : Hid (Below w.heap.size w w1) := hb1
    clear hL hH hb1
    go_wp2_with fail
    refine (check_any 7 ao m cap ao2 m2 cap2 (lnTo 6) (lnH 7) _ HL.out HH.out).mono ?_
    rintro e w2 ⟨rfl, hb2⟩
    rw [← HT.out, no_ne HT0.out]
    have HB2 : Hid (Below w.heap.size w w2) := HB1.out.trans (hb2.mono HB1.out.size)
    clear hb2
    go_wp2
    go_ret
    exact ⟨rfl, HB2.out⟩
  · have e1 : decide (n < 1) = false := by simpa using h1
    have e2 : decide (6 < n) = true := by simp; omega
    go_enter Tryd.func4, Tryd.ntmps4
    go_wp2_with fail
    refine (line_7 _).mono ?_
    rintro e w1 ⟨ao, m, cap, ao2, m2, cap2, rfl, hL, hH, hb1⟩
    have HL : Hid (GS lnkE w1 (.slice ao m cap) (lnTo 6)) := hL
    have HH : Hid (GS hstE w1 (.slice ao2 m2 cap2) (lnH 7)) := hH
    have HB1 : Hid (Below w.heap.size w w1) := hb1
    clear hL hH hb1
    go_wp2_with fail
    refine (check_any 7 ao m cap ao2 m2 cap2 (lnTo 6) (lnH 7) _ HL.out HH.out).mono ?_
    rintro e w2 ⟨rfl, hb2⟩
    rw [← HT.out, no_ne HT0.out]
    have HB2 : Hid (Below w.heap.size w w2) := HB1.out.trans (hb2.mono HB1.out.size)
    clear hb2
    go_wp2
    go_ret
    exact ⟨rfl, HB2.out⟩

def cq : Bool → Bool → Nat
  | true, true => 0
  | true, false => 1
  | false, true => 1
  | false, false => 2
def dq : Bool → Int → Int → Int
  | true, a, b => b - a
  | false, a, b => a - b
set_option maxRecDepth 100000 in
set_option maxHeartbeats 4000000 in
theorem bad (N : Nat) (a b : Int) (w : World) (hg : HasErr w) (h1 : 1 ≤ N) (h6 : N ≤ 6) (h : ¬ (1 ≤ a ∧ a ≤ N ∧ 1 ≤ b ∧ b ≤ N)) :
    Calls Tryd.prog 4 #[.int .i64 (N : Int), .int .i64 a, .int .i64 b] w fun e w' => e = .returned (.bool true) ∧ Below w.heap.size w w' := by
  have HG : Hid (HasErr w) := hg
  have H1 : Hid (1 ≤ N) := h1
  have H7 : Hid (N ≤ 7) := by show _ ≤ _; omega
  have HOK : Hid (tpN N (lnTo (N - 1)) (lnH N) = 0) := ln_ok N h1 h6
  have HF : Hid (fsN N (lnTo (N - 1)) (lnH N) a b = 1) := ln_bad h1 h6 h
  have e1 : decide ((N : Int) < 1) = false := by simp; omega
  have e2 : decide (6 < (N : Int)) = false := by simp; omega
  clear hg
  go_enter Tryd.func4, Tryd.ntmps4
  go_wp2_with fail
  refine (line_any N _ H1.out H7.out).mono ?_
  rintro e w1 ⟨ao, m, cap, ao2, m2, cap2, rfl, hL, hH, hb1⟩
  have hb2 : Below w1.heap.size w1 (w1.alloc (Obj.cells #[.int .i64 (N : Int), .slice ao m cap, .slice ao2 m2 cap2] 25)) := (Below.refl _ _).alloc (Nat.le_refl _) _
  have HX : Hid (TBox (w1.alloc (Obj.cells #[.int .i64 (N : Int), .slice ao m cap, .slice ao2 m2 cap2] 25)) w1.heap.size (N : Int) (.slice ao m cap) (.slice ao2 m2 cap2)) := tbox_new w1 _ _ _ 25
  have HL : Hid (GS lnkE (w1.alloc (Obj.cells #[.int .i64 (N : Int), .slice ao m cap, .slice ao2 m2 cap2] 25)) (.slice ao m cap) (lnTo (N - 1))) := hL.later hb2
  have HH : Hid (GS hstE (w1.alloc (Obj.cells #[.int .i64 (N : Int), .slice ao m cap, .slice ao2 m2 cap2] 25)) (.slice ao2 m2 cap2) (lnH (N : Int))) := hH.later hb2
  have HB2 : Hid (Below w.heap.size w (w1.alloc (Obj.cells #[.int .i64 (N : Int), .slice ao m cap, .slice ao2 m2 cap2] 25))) := hb1.trans (hb2.mono hb1.size)
  clear hL hH hb1 hb2
  go_wp2_with fail
  refine (check_any (N : Int) ao m cap ao2 m2 cap2 (lnTo (N - 1)) (lnH (N : Int)) _ HL.out HH.out).mono ?_
  rintro e w3 ⟨rfl, hb3⟩
  rw [HOK.out, no_ok rfl]
  have hX3 := HX.out.later hb3
  have HX3 : Hid (TBox w3 w1.heap.size (N : Int) (.slice ao m cap) (.slice ao2 m2 cap2)) := hX3
  obtain ⟨b0, b1, b2⟩ := hX3
  have HL3 : Hid (GS lnkE w3 (.slice ao m cap) (lnTo (N - 1))) := HL.out.later hb3
  have HH3 : Hid (GS hstE w3 (.slice ao2 m2 cap2) (lnH (N : Int))) := HH.out.later hb3
  have HB3 : Hid (Below w.heap.size w w3) := HB2.out.trans (hb3.mono HB2.out.size)
  clear hb3 HL HH HX HB2
  go_wp2_with fail
  refine (far_any (N : Int) ao m cap ao2 m2 cap2 (lnTo (N - 1)) (lnH (N : Int)) a b _ HL3.out HH3.out).mono ?_
  rintro e w4 ⟨rfl, hb4⟩
  rw [HF.out]
  have HB4 : Hid (Below w.heap.size w w4) := HB3.out.trans (hb4.mono HB3.out.size)
  have HG4 : Hid (HasErr w4) := HG.out.later HB4.out
  clear hb4 b0 b1 b2 e1 e2
  by_cases q1 : a < 1
  · have d1 : decide (a < 1) = true := by simpa using q1
    clear h
    go_wp2_with fail
    refine (same_noV 1 _ HG4.out).mono ?_
    rintro e w5 ⟨rfl, hb5⟩
    have HB5 : Hid (Below w.heap.size w w5) := HB4.out.trans (hb5.mono HB4.out.size)
    clear hb5
    go_wp2
    go_ret
    exact ⟨rfl, HB5.out⟩
  · have d1 : decide (a < 1) = false := by simpa using q1
    by_cases q2 : (N : Int) < a
    · have d2 : decide ((N : Int) < a) = true := by simpa using q2
      clear h
      go_wp2_with fail
      refine (same_noV 1 _ HG4.out).mono ?_
      rintro e w5 ⟨rfl, hb5⟩
      have HB5 : Hid (Below w.heap.size w w5) := HB4.out.trans (hb5.mono HB4.out.size)
      clear hb5
      go_wp2
      go_ret
      exact ⟨rfl, HB5.out⟩
    · have d2 : decide ((N : Int) < a) = false := by simpa using q2
      by_cases q3 : b < 1
      · have d3 : decide (b < 1) = true := by simpa using q3
        clear h
        go_wp2_with fail
        refine (same_noV 1 _ HG4.out).mono ?_
        rintro e w5 ⟨rfl, hb5⟩
        have HB5 : Hid (Below w.heap.size w w5) := HB4.out.trans (hb5.mono HB4.out.size)
        clear hb5
        go_wp2
        go_ret
        exact ⟨rfl, HB5.out⟩
      · have d3 : decide (b < 1) = false := by simpa using q3
        have d4 : decide ((N : Int) < b) = true := by simp; omega
        clear h
        go_wp2_with fail
        refine (same_noV 1 _ HG4.out).mono ?_
        rintro e w5 ⟨rfl, hb5⟩
        have HB5 : Hid (Below w.heap.size w w5) := HB4.out.trans (hb5.mono HB4.out.size)
        clear hb5
        go_wp2
        go_ret
        exact ⟨rfl, HB5.out⟩

set_option maxRecDepth 100000 in
set_option maxHeartbeats 4000000 in
theorem good (N a b : Nat) (w : World) (h1 : 1 ≤ N) (h6 : N ≤ 6) (a1 : 1 ≤ a) (a2 : a ≤ N) (b1 : 1 ≤ b) (b2 : b ≤ N) (q1 q2 q3 : Bool)
    (g1 : ((a : Int) == 1) = q1) (g2 : ((a : Int) == (N : Int)) = q2) (g3 : decide ((a : Int) - (b : Int) < 0) = q3) :
    Calls Tryd.prog 4 #[.int .i64 (N : Int), .int .i64 (a : Int), .int .i64 (b : Int)] w fun e w' => e = .returned (.bool true) ∧ Below w.heap.size w w' := by
  have H1 : Hid (1 ≤ N) := h1
  have H7 : Hid (N ≤ 7) := by show _ ≤ _; omega
  have HOK : Hid (tpN N (lnTo (N - 1)) (lnH N) = 0) := ln_ok N h1 h6
  obtain ⟨k1, k2, k3, k4⟩ := ln_good h1 h6 a1 a2 b1 b2
  have HF : Hid (fsN N (lnTo (N - 1)) (lnH N) a b = 0) := k1
  have HV : Hid (fsV N (lnTo (N - 1)) (lnH N) a b = dq q3 a b) := by
    show _ = _
    rw [k2, ← g3]
    by_cases hlt : a < b
    · have : decide ((a : Int) - (b : Int) < 0) = true := by simp; omega
      rw [if_pos hlt, this]
      rfl
    · have : decide ((a : Int) - (b : Int) < 0) = false := by simp; omega
      rw [if_neg hlt, this]
      rfl
  have HC : Hid (cwN N (lnTo (N - 1)) (lnH N) [(a : Int)] = 0) := k3
  have HNE : Hid ((neL N (lnTo (N - 1)) (lnH N) a).length = cq q1 q2) := by
    show _ = _
    by_cases e1 : a = 1
    · have : ((a : Int) == 1) = true := by simp [e1]
      rw [this] at g1
      subst g1
      by_cases e2 : a = N
      · have : ((a : Int) == (N : Int)) = true := by simp [e2]
        rw [this] at g2
        subst g2
        simp only [if_pos e1, if_pos e2] at k4
        show _ = 0
        omega
      · have : ((a : Int) == (N : Int)) = false := by simp; omega
        rw [this] at g2
        subst g2
        simp only [if_pos e1, if_neg e2] at k4
        show _ = 1
        omega
    · have : ((a : Int) == 1) = false := by simp; omega
      rw [this] at g1
      subst g1
      by_cases e2 : a = N
      · have : ((a : Int) == (N : Int)) = true := by simp [e2]
        rw [this] at g2
        subst g2
        simp only [if_neg e1, if_pos e2] at k4
        show _ = 1
        omega
      · have : ((a : Int) == (N : Int)) = false := by simp; omega
        rw [this] at g2
        subst g2
        simp only [if_neg e1, if_neg e2] at k4
        show _ = 2
        omega
  have e1 : decide ((N : Int) < 1) = false := by simp; omega
  have e2 : decide (6 < (N : Int)) = false := by simp; omega
  have d1 : decide ((a : Int) < 1) = false := by simp; omega
  have d2 : decide ((N : Int) < (a : Int)) = false := by simp; omega
  have d3 : decide ((b : Int) < 1) = false := by simp; omega
  have d4 : decide ((N : Int) < (b : Int)) = false := by simp; omega
  have z1 : IntKind.i64.wrap ((a : Int) - (b : Int)) = (a : Int) - (b : Int) := wrap_small (by omega) (by omega)
  have z2 : IntKind.i64.wrap (-((a : Int) - (b : Int))) = (b : Int) - (a : Int) := by rw [show -((a : Int) - (b : Int)) = (b : Int) - (a : Int) from by omega]; exact wrap_small (by omega) (by omega)
  clear k1 k2 k3 k4
  go_enter Tryd.func4, Tryd.ntmps4
  go_wp2_with fail
  refine (line_any N _ H1.out H7.out).mono ?_
  rintro e w1 ⟨ao, m, cap, ao2, m2, cap2, rfl, hL, hH, hb1⟩
  have hb2 : Below w1.heap.size w1 (w1.alloc (Obj.cells #[.int .i64 (N : Int), .slice ao m cap, .slice ao2 m2 cap2] 25)) := (Below.refl _ _).alloc (Nat.le_refl _) _
  have HX : Hid (TBox (w1.alloc (Obj.cells #[.int .i64 (N : Int), .slice ao m cap, .slice ao2 m2 cap2] 25)) w1.heap.size (N : Int) (.slice ao m cap) (.slice ao2 m2 cap2)) := tbox_new w1 _ _ _ 25
  have HL : Hid (GS lnkE (w1.alloc (Obj.cells #[.int .i64 (N : Int), .slice ao m cap, .slice ao2 m2 cap2] 25)) (.slice ao m cap) (lnTo (N - 1))) := hL.later hb2
  have HH : Hid (GS hstE (w1.alloc (Obj.cells #[.int .i64 (N : Int), .slice ao m cap, .slice ao2 m2 cap2] 25)) (.slice ao2 m2 cap2) (lnH (N : Int))) := hH.later hb2
  have HB2 : Hid (Below w.heap.size w (w1.alloc (Obj.cells #[.int .i64 (N : Int), .slice ao m cap, .slice ao2 m2 cap2] 25))) := hb1.trans (hb2.mono hb1.size)
  clear hL hH hb1 hb2
  go_wp2_with fail
  refine (check_any (N : Int) ao m cap ao2 m2 cap2 (lnTo (N - 1)) (lnH (N : Int)) _ HL.out HH.out).mono ?_
  rintro e w3 ⟨rfl, hb3⟩
  rw [HOK.out, no_ok rfl]
  have hX3 := HX.out.later hb3
  have HX3 : Hid (TBox w3 w1.heap.size (N : Int) (.slice ao m cap) (.slice ao2 m2 cap2)) := hX3
  obtain ⟨b0, b1, b2⟩ := hX3
  have HL3 : Hid (GS lnkE w3 (.slice ao m cap) (lnTo (N - 1))) := HL.out.later hb3
  have HH3 : Hid (GS hstE w3 (.slice ao2 m2 cap2) (lnH (N : Int))) := HH.out.later hb3
  have HB3 : Hid (Below w.heap.size w w3) := HB2.out.trans (hb3.mono HB2.out.size)
  clear hb3 HL HH HX HB2
  go_wp2_with fail
  refine (far_any (N : Int) ao m cap ao2 m2 cap2 (lnTo (N - 1)) (lnH (N : Int)) a b _ HL3.out HH3.out).mono ?_
  rintro e w4 ⟨rfl, hb4⟩
  rw [HF.out, HV.out, no_ok rfl]
  have HB4 : Hid (Below w.heap.size w w4) := HB3.out.trans (hb4.mono HB3.out.size)
  have HL4 : Hid (GS lnkE w4 (.slice ao m cap) (lnTo (N - 1))) := HL3.out.later hb4
  have HH4 : Hid (GS hstE w4 (.slice ao2 m2 cap2) (lnH (N : Int))) := HH3.out.later hb4
  obtain ⟨b0, b1, b2⟩ := HX3.out.later hb4
  clear hb4 e1 e2 HL3 HH3 HB3 HX3
  cases q1 <;> cases q2 <;> cases q3
  all_goals
    simp only [dq]
    go_wp2_with fail
    refine (nearA_any (N : Int) ao m cap ao2 m2 cap2 (lnTo (N - 1)) (lnH (N : Int)) a _ HL4.out HH4.out).mono ?_
    rintro e w5 ⟨v, rfl, hown, hb5⟩
    obtain ⟨ao5, cap5, rfl⟩ := own_form hown
    rw [HC.out, no_ok rfl, HNE.out]
    simp only [cq]
    have HB5 : Hid (Below w.heap.size w w5) := HB4.out.trans (hb5.mono HB4.out.size)
    clear hown hb5 b0 b1 b2
    go_wp2
    go_ret
    exact ⟨rfl, HB5.out⟩

theorem walk (n a b : Int) (w : World) (hg : HasErr w) :
    Calls Tryd.prog 4 #[.int .i64 n, .int .i64 a, .int .i64 b] w fun e w' => e = .returned (.bool true) ∧ Below w.heap.size w w' := by
  by_cases h : n < 1 ∨ 6 < n
  · exact out n a b h w
  · obtain ⟨N, rfl⟩ : ∃ N : Nat, n = (N : Int) := ⟨n.toNat, by omega⟩
    by_cases h2 : 1 ≤ a ∧ a ≤ (N : Int) ∧ 1 ≤ b ∧ b ≤ (N : Int)
    · obtain ⟨x1, x2, x3, x4⟩ := h2
      obtain ⟨A, rfl⟩ : ∃ A : Nat, a = (A : Int) := ⟨a.toNat, by omega⟩
      obtain ⟨B, rfl⟩ : ∃ B : Nat, b = (B : Int) := ⟨b.toNat, by omega⟩
      exact good N A B w (by omega) (by omega) (by omega) (by omega) (by omega) (by omega) _ _ _ rfl rfl rfl
    · exact bad N a b w hg (by omega) (by omega) h2
end Go.Proofs.YtfbocionnjlilacDoor.topoLine
