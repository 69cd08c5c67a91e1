/- What bitAt of package cube answers. -/
import Derived.Test.YtpbfgfphcjmcbaaDoorCubeCon
namespace Go.Proofs.YtpbfgfphcjmcbaaDoor
open Go.RowKit
set_option linter.unusedSimpArgs false

theorem ret_int {k : IntKind} {a b : Int} (h : a = b) : Ending.returned (.int k a) = .returned (.int k b) := by rw [h]

set_option maxHeartbeats 400000 in
theorem bitAt_any (i : Int) (w : World) (h0 : 0 ≤ i) (h1 : i < 4) :
    Calls Tryd.prog 20 #[.int .i64 i] w fun e w' => e = .returned (.int .i64 (2 ^ (3 - i).toNat)) ∧ w' = w := by
  go_enter Tryd.func20, Tryd.ntmps20
  go_wp2
  go_ret
  refine ⟨ret_int ?_, rfl⟩
  rcases (by omega : i = 0 ∨ i = 1 ∨ i = 2 ∨ i = 3) with rfl | rfl | rfl | rfl <;> decide +kernel

end Go.Proofs.YtpbfgfphcjmcbaaDoor
