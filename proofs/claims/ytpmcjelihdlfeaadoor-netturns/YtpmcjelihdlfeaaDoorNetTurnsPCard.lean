/- NetTurns answers true, whatever number it is called with; the variable errorType of package errors is tied to the program's text. -/
import Derived.Test.YtpmcjelihdlfeaaDoorNetTurnsP6
import Derived.Test.YtpmcjelihdlfeaaDoorTie
import Derived.Test.YtpmcjelihdlfeaaDoorCards
import Derived.SevenTiedAt
namespace Go.Proofs.YtpmcjelihdlfeaaDoor
open Go

theorem netTurns_holds : Rows.NetTurnsCardSaid :=
  Claim7.holds_tied_plain_at .later [] [.handle] true Rows.netTurnsCard.stood.harness true
    netTurns.over (fun _ h => by cases h) (by kernel_rfl) (fun _ h => by cases h) netTurns_row_tie rfl ⟨rfl, rfl⟩ (by kernel_rfl) rfl
    (fun f fn hf hfn => by
      obtain rfl : f = 4 := Option.some.inj (hf.symm.trans (by kernel_rfl))
      obtain rfl : fn = Tryd.f4 := (Option.some.inj (Tryd.func4.symm.trans hfn)).symm
      exact ⟨by kernel_rfl, fun j t ht => by
        rw [Tryd.params4] at ht
        have h3 : t = 3 := by
          rcases j with _ | j
          · simp at ht; simp [← ht]
          · simp at ht
        subst h3
        exact (show Tryd.prog.wantsStandIn 3 = false by kernel_rfl)⟩)
    (by kernel_rfl)
end Go.Proofs.YtpmcjelihdlfeaaDoor
