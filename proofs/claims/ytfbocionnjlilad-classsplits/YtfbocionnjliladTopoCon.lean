/- What isSwitch, isSpot and joins of package topo answer: contracts for the walks above them. -/
import Derived.Test.YtfbocionnjliladTopoMath2
import Derived.Test.YtfbocionnjliladRows
import Derived.WalkKit
import Derived.WalkSpells
import Derived.Below
import Derived.BigQuiet
import Derived.Deep.QuietTactic
namespace Go.Proofs.Ytfbocionnjlilad
open Go.RowKit
set_option linter.unusedSimpArgs false
set_option linter.unusedVariables false

set_option maxHeartbeats 1000000 in
theorem isSwitch_any (S a : Int) (w : World) :
    Calls Try.prog 39 #[.int .i64 S, .int .i64 a] w fun e w' => e = .returned (.bool (swB S a)) ∧ Below w.heap.size w w' := by
  by_cases h1 : 1 ≤ a
  · by_cases h2 : a ≤ S
    · have e : swB S a = true := sw_of.2 ⟨h1, h2⟩
      rw [e]
      clear e
      go_enter Try.func39, Try.ntmps39
      go_wp2
      go_ret
      exact ⟨rfl, Below.refl _ _⟩
    · have e : swB S a = false := by simp [swB, h2]
      rw [e]
      clear e
      go_enter Try.func39, Try.ntmps39
      go_wp2
      go_ret
      exact ⟨rfl, Below.refl _ _⟩
  · have e : swB S a = false := by simp [swB, h1]
    rw [e]
    clear e
    go_enter Try.func39, Try.ntmps39
    go_wp2
    go_ret
    exact ⟨rfl, Below.refl _ _⟩
set_option maxHeartbeats 1000000 in
theorem isSpot_any (S x y : Int) (w : World) :
    Calls Try.prog 35 #[.int .i64 S, .agg #[.int .i64 x, .int .i64 y]] w fun e w' => e = .returned (.bool (spB S (x, y))) ∧ Below w.heap.size w w' := by
  have HB0 : Hid (Below w.heap.size w (w.alloc (Obj.cells #[Value.int IntKind.i64 x, Value.int IntKind.i64 y] 73))) := (Below.refl _ _).alloc (Nat.le_refl _) _
  have hlt : w.heap.size < (w.alloc (Obj.cells #[Value.int IntKind.i64 x, Value.int IntKind.i64 y] 73)).heap.size := by simp
  have c0 : (w.alloc (Obj.cells #[Value.int IntKind.i64 x, Value.int IntKind.i64 y] 73)).cell? ⟨w.heap.size, 0, none⟩ = some (.int .i64 x) := by simp
  have c1 : (w.alloc (Obj.cells #[Value.int IntKind.i64 x, Value.int IntKind.i64 y] 73)).cell? ⟨w.heap.size, 1, none⟩ = some (.int .i64 y) := by simp
  cases hs : swB S x
  · have e : spB S (x, y) = false := by
      cases h : spB S (x, y)
      · rfl
      · have := sp_of h
        have h2 := sw_of.2 ⟨this.1, this.2.1⟩
        rw [hs] at h2
        cases h2
    rw [e]
    clear e
    go_enter Try.func35, Try.ntmps35
    go_wp2_with fail
    refine (isSwitch_any S x _).mono ?_
    rintro e w1 ⟨rfl, hb1⟩
    rw [hs]
    have HB1 : Hid (Below w.heap.size w w1) := HB0.out.trans (hb1.mono HB0.out.size)
    clear hb1 c0 c1
    go_wp2
    go_ret
    exact ⟨rfl, HB1.out⟩
  · have hw := sw_of.1 hs
    have e : spB S (x, y) = (decide (1 ≤ y) && decide (y ≤ 4)) := by simp [spB, hw.1, hw.2]
    rw [e]
    clear e hw
    have walk : ∀ r : Bool, r = (decide (1 ≤ y) && decide (y ≤ 4)) → Calls Try.prog 35 #[.int .i64 S, .agg #[.int .i64 x, .int .i64 y]] w fun e w' => e = .returned (.bool r) ∧ Below w.heap.size w w' := by
      intro r hr
      by_cases h1 : 1 ≤ y
      · by_cases h2 : y ≤ 4
        · have e : r = true := by rw [hr]; simp [h1, h2]
          subst e
          clear hr
          go_enter Try.func35, Try.ntmps35
          go_wp2_with fail
          refine (isSwitch_any S x _).mono ?_
          rintro e w1 ⟨rfl, hb1⟩
          rw [hs]
          have HB1 : Hid (Below w.heap.size w w1) := HB0.out.trans (hb1.mono HB0.out.size)
          have d1 := cell_later hb1 c1
          clear hb1 c0 c1
          go_wp2
          go_ret
          exact ⟨rfl, HB1.out⟩
        · have e : r = false := by rw [hr]; simp [h2]
          subst e
          clear hr
          go_enter Try.func35, Try.ntmps35
          go_wp2_with fail
          refine (isSwitch_any S x _).mono ?_
          rintro e w1 ⟨rfl, hb1⟩
          rw [hs]
          have HB1 : Hid (Below w.heap.size w w1) := HB0.out.trans (hb1.mono HB0.out.size)
          have d1 := cell_later hb1 c1
          have hd : decide (y ≤ 4) = false := by simp [h2]
          clear hb1 c0 c1
          go_wp2
          go_ret
          exact ⟨by first | rfl | simp [h2], HB1.out⟩
      · have e : r = false := by rw [hr]; simp [h1]
        subst e
        clear hr
        go_enter Try.func35, Try.ntmps35
        go_wp2_with fail
        refine (isSwitch_any S x _).mono ?_
        rintro e w1 ⟨rfl, hb1⟩
        rw [hs]
        have HB1 : Hid (Below w.heap.size w w1) := HB0.out.trans (hb1.mono HB0.out.size)
        have d1 := cell_later hb1 c1
        clear hb1 c0 c1
        go_wp2
        go_ret
        exact ⟨rfl, HB1.out⟩
    exact walk _ rfl
end Go.Proofs.Ytfbocionnjlilad
