/- What First of package cube answers, called with any cube. -/
import Derived.Test.YtclecpcnmfhhcaaDoorCubeCon
namespace Go.Proofs.YtclecpcnmfhhcaaDoor
open Go.RowKit
set_option linter.unusedSimpArgs false

set_option maxHeartbeats 400000 in
theorem first_any (m b : Int) (w : World) :
    Calls Tryd.prog 17 #[.agg #[.int .i64 m, .int .i64 b]] w fun e w' => e = .returned (.int .i64 (fstN m b)) ∧ Below w.heap.size w w' := by
  cases ho : okB m b
  · have hf : fstN m b = 0 := by simp [fstN, ho]
    rw [hf]
    clear hf
    go_enter Tryd.func17, Tryd.ntmps17
    go_wp2_with fail
    refine (isRight_any _ _ _).mono ?_
    rintro e w' ⟨rfl, hb⟩
    go_wp2
    go_ret
    exact ⟨rfl, ((Below.refl _ _).alloc (Nat.le_refl _) _).trans (hb.mono (by simp))⟩
  · have hf : fstN m b = b := by simp [fstN, ho]
    rw [hf]
    clear hf
    go_enter Tryd.func17, Tryd.ntmps17
    go_wp2_with fail
    refine (isRight_any _ _ _).mono ?_
    rintro e w' ⟨rfl, hb⟩
    obtain ⟨hc, hf⟩ := bcell hb
    go_wp2
    go_ret
    exact ⟨rfl, ((Below.refl _ _).alloc (Nat.le_refl _) _).trans (hb.mono (by simp))⟩

end Go.Proofs.YtclecpcnmfhhcaaDoor
