/- TextTells answers true, whatever net, wishes and text it is called with; the variables that its row lists are tied to the program's text. -/
import Derived.Test.YtgddlpcacnolfaaGreatDoorTextTellsP13
import Derived.Test.YtgddlpcacnolfaaGreatDoorTie
import Derived.Test.YtgddlpcacnolfaaGreatDoorCards
import Derived.SevenTiedAt
namespace Go.Proofs.YtgddlpcacnolfaaGreatDoor
open Go

theorem textTells_holds : Rows.TextTellsCardSaid :=
  Claim7.holds_tied_plain_at .later [] _ _ _ _
    textTells.over (fun _ h => by cases h) (by kernel_rfl) (fun _ h => by cases h) textTells_row_tie rfl ⟨rfl, rfl⟩ (by kernel_rfl) rfl
    (fun f fn hf hfn => by
      obtain rfl : f = 3 := Option.some.inj (hf.symm.trans (by kernel_rfl))
      obtain rfl : fn = Tryz.f3 := (Option.some.inj (Tryz.func3.symm.trans hfn)).symm
      exact ⟨by kernel_rfl, fun j t ht => by
        rw [Tryz.params3] at ht
        have h3 : t = 28 ∨ t = 29 ∨ t = 9 := by
          rcases j with _ | _ | _ | j
          · simp at ht; simp [← ht]
          · simp at ht; simp [← ht]
          · simp at ht; simp [← ht]
          · simp at ht
        rcases h3 with rfl | rfl | rfl
        · exact (show Tryz.prog.wantsStandIn 28 = false by kernel_rfl)
        · exact (show Tryz.prog.wantsStandIn 29 = false by kernel_rfl)
        · exact (show Tryz.prog.wantsStandIn 9 = false by kernel_rfl)⟩)
    (by kernel_rfl)
end Go.Proofs.YtgddlpcacnolfaaGreatDoor
