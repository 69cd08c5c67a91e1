/- What railsame.Error answers at the error of a number and this number. -/
import Derived.Test.YtfbocionnjlilacDoorErr
import Derived.Test.YtfbocionnjlilacDoorAsErr2
namespace Go.Proofs.YtfbocionnjlilacDoor
open Go.RowKit

theorem same_noV (n : Int) (w : World) (hg : HasErr w) :
    Calls Tryd.prog 8 #[noV n, .int .i64 n] w fun e w' => e = .returned (.bool true) ∧ Below w.heap.size w w' := by
  by_cases h : n = 0
  · subst h
    refine (same_nil _ w).mono ?_
    rintro e w' ⟨rfl, hb⟩
    exact ⟨by simp, hb⟩
  · rw [no_ne h]
    refine (same_some _ _ w hg).mono ?_
    rintro e w' ⟨rfl, hb⟩
    exact ⟨by simp, hb⟩
end Go.Proofs.YtfbocionnjlilacDoor
