/- MixHolds answers true, whatever net, ops, wishes, name, number and marks it is called with; the variable errorType of package errors is tied to the program's text. -/
import Derived.Test.YtmpjoepfgfbjmaaGreatDoorMixHoldsP14
import Derived.Test.YtmpjoepfgfbjmaaGreatDoorTie
import Derived.Test.YtmpjoepfgfbjmaaGreatDoorCards
import Derived.SevenTiedAt
namespace Go.Proofs.YtmpjoepfgfbjmaaGreatDoor
open Go

theorem mixHolds_holds : Rows.MixHoldsCardSaid :=
  Claim7.holds_tied_plain_at .later [] [.handle] true Rows.mixHoldsCard.stood.harness true
    mixHolds.over (fun _ h => by cases h) (by kernel_rfl) (fun _ h => by cases h) mixHolds_row_tie rfl ⟨rfl, rfl⟩ (by kernel_rfl) rfl
    (fun f fn hf hfn => by
      obtain rfl : f = 4 := Option.some.inj (hf.symm.trans (by kernel_rfl))
      obtain rfl : fn = Tryz.f4 := (Option.some.inj (Tryz.func4.symm.trans hfn)).symm
      exact ⟨by kernel_rfl, fun j t ht => by
        rw [Tryz.params4] at ht
        have h3 : t = 28 ∨ t = 29 ∨ t = 30 ∨ t = 9 ∨ t = 3 ∨ t = 59 := by
          rcases j with _ | _ | _ | _ | _ | _ | j
          · simp at ht; simp [← ht]
          · simp at ht; simp [← ht]
          · simp at ht; simp [← ht]
          · simp at ht; simp [← ht]
          · simp at ht; simp [← ht]
          · simp at ht; simp [← ht]
          · simp at ht
        rcases h3 with rfl | rfl | rfl | rfl | rfl | rfl
        · exact (show Tryz.prog.wantsStandIn 28 = false by kernel_rfl)
        · exact (show Tryz.prog.wantsStandIn 29 = false by kernel_rfl)
        · exact (show Tryz.prog.wantsStandIn 30 = false by kernel_rfl)
        · exact (show Tryz.prog.wantsStandIn 9 = false by kernel_rfl)
        · exact (show Tryz.prog.wantsStandIn 3 = false by kernel_rfl)
        · exact (show Tryz.prog.wantsStandIn 59 = false by kernel_rfl)⟩)
    (by kernel_rfl)
end Go.Proofs.YtmpjoepfgfbjmaaGreatDoor
