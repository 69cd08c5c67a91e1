/- NetTells answers true, whatever net, spot, number and name it is called with; the variable errorType of package errors is tied to the program's text. -/
import Derived.Test.YtfbocionnjlilacDoorNetTellsP10
import Derived.Test.YtfbocionnjlilacDoorTie
import Derived.Test.YtfbocionnjlilacDoorCards
import Derived.SevenTiedAt
namespace Go.Proofs.YtfbocionnjlilacDoor
open Go

theorem netTells_holds : Rows.NetTellsCardSaid :=
  Claim7.holds_tied_plain_at .later [] [.handle] true Rows.netTellsCard.stood.harness true
    netTells.over (fun _ h => by cases h) (by kernel_rfl) (fun _ h => by cases h) netTells_row_tie rfl ⟨rfl, rfl⟩ (by kernel_rfl) rfl
    (fun f fn hf hfn => by
      obtain rfl : f = 5 := Option.some.inj (hf.symm.trans (by kernel_rfl))
      obtain rfl : fn = Tryd.f5 := (Option.some.inj (Tryd.func5.symm.trans hfn)).symm
      exact ⟨by kernel_rfl, fun j t ht => by
        rw [Tryd.params5] at ht
        have h3 : t = 58 ∨ t = 27 ∨ t = 3 ∨ t = 9 := by
          rcases j with _ | _ | _ | _ | j
          · simp at ht; simp [← ht]
          · simp at ht; simp [← ht]
          · simp at ht; simp [← ht]
          · simp at ht; simp [← ht]
          · simp at ht
        rcases h3 with rfl | rfl | rfl | rfl
        · exact (show Tryd.prog.wantsStandIn 58 = false by kernel_rfl)
        · exact (show Tryd.prog.wantsStandIn 27 = false by kernel_rfl)
        · exact (show Tryd.prog.wantsStandIn 3 = false by kernel_rfl)
        · exact (show Tryd.prog.wantsStandIn 9 = false by kernel_rfl)⟩)
    (by kernel_rfl)
end Go.Proofs.YtfbocionnjlilacDoor
