/- What Inside of package cube answers, called with any cubes. -/
import Derived.Test.YtclecpcnmfhhcaaDoorCubeCon2
namespace Go.Proofs.YtclecpcnmfhhcaaDoor
open Go.RowKit
set_option linter.unusedSimpArgs false

set_option maxHeartbeats 400000 in
theorem inside_no (m b n c : Int) (w : World) (h : mtOk m b n c = false) :
    Calls Tryd.prog 18 #[.agg #[.int .i64 m, .int .i64 b], .agg #[.int .i64 n, .int .i64 c]] w fun e w' => e = .returned (.bool false) ∧ Below w.heap.size w w' := by
  go_enter Tryd.func18, Tryd.ntmps18
  go_wp2_with fail
  refine (meet_any _ _ _ _ _).mono ?_
  rintro e w1 ⟨rfl, hb1⟩
  obtain ⟨hc1, hf1⟩ := bcell hb1
  have hz1 : w.heap.size + 1 < w1.heap.size := by have := hb1.size; simp at this; omega
  have hz0 : w.heap.size < w1.heap.size := by omega
  go_wp2
  go_ret
  refine ⟨rfl, ?_⟩
  exact ((((Below.refl _ _).alloc (Nat.le_refl _) _).alloc (by simp) _).trans (hb1.mono (by simp <;> omega))).alloc (by omega) _

set_option maxHeartbeats 400000 in
theorem inside_yes (m b n c : Int) (w : World) (h : mtOk m b n c = true) :
    Calls Tryd.prog 18 #[.agg #[.int .i64 m, .int .i64 b], .agg #[.int .i64 n, .int .i64 c]] w fun e w' => e = .returned (.bool (insB m b n c)) ∧ Below w.heap.size w w' := by
  go_enter Tryd.func18, Tryd.ntmps18
  go_wp2_with fail
  refine (meet_any _ _ _ _ _).mono ?_
  rintro e w1 ⟨rfl, hb1⟩
  obtain ⟨hc1, hf1⟩ := bcell hb1
  have hz1 : w.heap.size + 1 < w1.heap.size := by have := hb1.size; simp at this; omega
  have hz0 : w.heap.size < w1.heap.size := by omega
  go_wp2
  all_goals
    go_ret
    refine ⟨by simp [insB, *], ?_⟩
    exact ((((Below.refl _ _).alloc (Nat.le_refl _) _).alloc (by simp) _).trans (hb1.mono (by simp <;> omega))).alloc (by omega) _

theorem inside_any (m b n c : Int) (w : World) :
    Calls Tryd.prog 18 #[.agg #[.int .i64 m, .int .i64 b], .agg #[.int .i64 n, .int .i64 c]] w fun e w' => e = .returned (.bool (insB m b n c)) ∧ Below w.heap.size w w' := by
  cases h : mtOk m b n c
  · have e : insB m b n c = false := by simp [insB, h]
    rw [e]; exact inside_no m b n c w h
  · exact inside_yes m b n c w h

end Go.Proofs.YtclecpcnmfhhcaaDoor
