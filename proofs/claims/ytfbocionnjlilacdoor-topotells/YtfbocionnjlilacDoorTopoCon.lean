/- What isSwitch, isSpot and joins of package topo answer: contracts for the walks above them. -/
import Derived.Test.YtfbocionnjlilacDoorTopoMath2
import Derived.Test.YtfbocionnjlilacDoorRows
import Derived.WalkKit
import Derived.WalkSpells
import Derived.Below
import Derived.BigQuiet
import Derived.Deep.QuietTactic
namespace Go.Proofs.YtfbocionnjlilacDoor
open Go.RowKit
set_option linter.unusedSimpArgs false
set_option linter.unusedVariables false

set_option maxHeartbeats 1000000 in
theorem isSwitch_any (S a : Int) (w : World) :
    Calls Tryd.prog 62 #[.int .i64 S, .int .i64 a] w fun e w' => e = .returned (.bool (swB S a)) ∧ Below w.heap.size w w' := by
  by_cases h1 : 1 ≤ a
  · by_cases h2 : a ≤ S
    · have e : swB S a = true := sw_of.2 ⟨h1, h2⟩
      rw [e]
      clear e
      go_enter Tryd.func62, Tryd.ntmps62
      go_wp2
      go_ret
      exact ⟨rfl, Below.refl _ _⟩
    · have e : swB S a = false := by simp [swB, h2]
      rw [e]
      clear e
      go_enter Tryd.func62, Tryd.ntmps62
      go_wp2
      go_ret
      exact ⟨rfl, Below.refl _ _⟩
  · have e : swB S a = false := by simp [swB, h1]
    rw [e]
    clear e
    go_enter Tryd.func62, Tryd.ntmps62
    go_wp2
    go_ret
    exact ⟨rfl, Below.refl _ _⟩
set_option maxHeartbeats 1000000 in
theorem isSpot_any (S x y : Int) (w : World) :
    Calls Tryd.prog 57 #[.int .i64 S, .agg #[.int .i64 x, .int .i64 y]] w fun e w' => e = .returned (.bool (spB S (x, y))) ∧ Below w.heap.size w w' := by
  have HB0 : Hid (Below w.heap.size w (w.alloc (Obj.cells #[Value.int IntKind.i64 x, Value.int IntKind.i64 y] 27))) := (Below.refl _ _).alloc (Nat.le_refl _) _
  have hlt : w.heap.size < (w.alloc (Obj.cells #[Value.int IntKind.i64 x, Value.int IntKind.i64 y] 27)).heap.size := by simp
  have c0 : (w.alloc (Obj.cells #[Value.int IntKind.i64 x, Value.int IntKind.i64 y] 27)).cell? ⟨w.heap.size, 0, none⟩ = some (.int .i64 x) := by simp
  have c1 : (w.alloc (Obj.cells #[Value.int IntKind.i64 x, Value.int IntKind.i64 y] 27)).cell? ⟨w.heap.size, 1, none⟩ = some (.int .i64 y) := by simp
  cases hs : swB S x
  · have e : spB S (x, y) = false := by
      cases h : spB S (x, y)
      · rfl
      · have := sp_of h
        have h2 := sw_of.2 ⟨this.1, this.2.1⟩
        rw [hs] at h2
        cases h2
    rw [e]
    clear e
    go_enter Tryd.func57, Tryd.ntmps57
    go_wp2_with fail
    refine (isSwitch_any S x _).mono ?_
    rintro e w1 ⟨rfl, hb1⟩
    rw [hs]
    have HB1 : Hid (Below w.heap.size w w1) := HB0.out.trans (hb1.mono HB0.out.size)
    clear hb1 c0 c1
    go_wp2
    go_ret
    exact ⟨rfl, HB1.out⟩
  · have hw := sw_of.1 hs
    have e : spB S (x, y) = (decide (1 ≤ y) && decide (y ≤ 4)) := by simp [spB, hw.1, hw.2]
    rw [e]
    clear e hw
    have walk : ∀ r : Bool, r = (decide (1 ≤ y) && decide (y ≤ 4)) → Calls Tryd.prog 57 #[.int .i64 S, .agg #[.int .i64 x, .int .i64 y]] w fun e w' => e = .returned (.bool r) ∧ Below w.heap.size w w' := by
      intro r hr
      by_cases h1 : 1 ≤ y
      · by_cases h2 : y ≤ 4
        · have e : r = true := by rw [hr]; simp [h1, h2]
          subst e
          clear hr
          go_enter Tryd.func57, Tryd.ntmps57
          go_wp2_with fail
          refine (isSwitch_any S x _).mono ?_
          rintro e w1 ⟨rfl, hb1⟩
          rw [hs]
          have HB1 : Hid (Below w.heap.size w w1) := HB0.out.trans (hb1.mono HB0.out.size)
          have d1 := cell_later hb1 c1
          clear hb1 c0 c1
          go_wp2
          go_ret
          exact ⟨rfl, HB1.out⟩
        · have e : r = false := by rw [hr]; simp [h2]
          subst e
          clear hr
          go_enter Tryd.func57, Tryd.ntmps57
          go_wp2_with fail
          refine (isSwitch_any S x _).mono ?_
          rintro e w1 ⟨rfl, hb1⟩
          rw [hs]
          have HB1 : Hid (Below w.heap.size w w1) := HB0.out.trans (hb1.mono HB0.out.size)
          have d1 := cell_later hb1 c1
          have hd : decide (y ≤ 4) = false := by simp [h2]
          clear hb1 c0 c1
          go_wp2
          go_ret
          exact ⟨by first | rfl | simp [h2], HB1.out⟩
      · have e : r = false := by rw [hr]; simp [h1]
        subst e
        clear hr
        go_enter Tryd.func57, Tryd.ntmps57
        go_wp2_with fail
        refine (isSwitch_any S x _).mono ?_
        rintro e w1 ⟨rfl, hb1⟩
        rw [hs]
        have HB1 : Hid (Below w.heap.size w w1) := HB0.out.trans (hb1.mono HB0.out.size)
        have d1 := cell_later hb1 c1
        clear hb1 c0 c1
        go_wp2
        go_ret
        exact ⟨rfl, HB1.out⟩
    exact walk _ rfl
set_option maxHeartbeats 1000000 in
theorem joins_any (x0 x1 x2 x3 a b : Int) (w : World) :
    Calls Tryd.prog 65 #[.agg #[.int .i64 x0, .int .i64 x1, .int .i64 x2, .int .i64 x3], .int .i64 a, .int .i64 b] w fun e w' => e = .returned (.bool ((x0 == a && x2 == b) || (x0 == b && x2 == a))) ∧ Below w.heap.size w w' := by
  have key : ∀ r : Bool, r = ((x0 == a && x2 == b) || (x0 == b && x2 == a)) → Calls Tryd.prog 65 #[.agg #[.int .i64 x0, .int .i64 x1, .int .i64 x2, .int .i64 x3], .int .i64 a, .int .i64 b] w fun e w' => e = .returned (.bool r) ∧ Below w.heap.size w w' := by
    intro r hr
    have HB0 : Hid (Below w.heap.size w (w.alloc (Obj.cells #[Value.int IntKind.i64 x0, Value.int IntKind.i64 x1, Value.int IntKind.i64 x2, Value.int IntKind.i64 x3] 83))) := (Below.refl _ _).alloc (Nat.le_refl _) _
    cases h1 : (x0 == a) <;> cases h2 : (x2 == b) <;> cases h3 : (x0 == b) <;> cases h4 : (x2 == a)
    all_goals
      rw [h1, h2, h3, h4] at hr
      simp only [Bool.and_true, Bool.and_false, Bool.or_true, Bool.or_false, Bool.and_self, Bool.or_self, Bool.true_or, Bool.false_or] at hr
      subst hr
      go_enter Tryd.func65, Tryd.ntmps65
      go_wp2
      go_ret
      exact ⟨rfl, HB0.out⟩
  exact key _ rfl
end Go.Proofs.YtfbocionnjlilacDoor
