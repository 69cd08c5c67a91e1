/- What the closure of class.alike answers, and what is left behind the statement that makes a new class: facts for the walk of alike. -/
import Derived.Test.YtfbocionnjliladClassPathC
import Derived.Test.YtfbocionnjliladSlEqual
import Derived.Test.YtfbocionnjliladSlLists
namespace Go.Proofs.Ytfbocionnjlilad
open Go.RowKit
set_option linter.unusedSimpArgs false
set_option linter.unusedVariables false

set_option maxHeartbeats 1000000 in
theorem alike1_any (ao bo : Option Addr) (n m c d b : Nat) (L P : List Int) (W : World) (hb : W.cell? ⟨b, 0, none⟩ = some (.slice bo m d)) (hL : GS inE W (.slice ao n c) L) (hP : GS inE W (.slice bo m d) P) :
    Calls Try.prog 25 #[.slice ao n c, .pointer (some ⟨b, 0, none⟩)] W fun e w' => e = .returned (.bool (L == P)) ∧ Below W.heap.size W w' := by
  go_enter Try.func25, Try.ntmps25
  go_wp2_with fail
  refine (sleq_any ao bo n m c d L P _ hL hP).mono ?_
  rintro e w1 ⟨rfl, hb1⟩
  go_wp2
  go_ret
  exact ⟨rfl, hb1⟩
end Go.Proofs.Ytfbocionnjlilad
