/- TextBack answers true, whatever net, wishes and text it is called with; the variables that its row lists are tied to the program's text. -/
import Derived.Test.YtpbgocfinpbpgaaGreatDoorTextBackP9
import Derived.Test.YtpbgocfinpbpgaaGreatDoorTie
import Derived.Test.YtpbgocfinpbpgaaGreatDoorCards
import Derived.SevenTiedAt
namespace Go.Proofs.YtpbgocfinpbpgaaGreatDoor
open Go

theorem textBack_holds : Rows.TextBackCardSaid :=
  Claim7.holds_tied_plain_at .later [] _ _ _ _
    textBack.over (fun _ h => by cases h) (by kernel_rfl) (fun _ h => by cases h) textBack_row_tie rfl ⟨rfl, rfl⟩ (by kernel_rfl) rfl
    (fun f fn hf hfn => by
      obtain rfl : f = 4 := Option.some.inj (hf.symm.trans (by kernel_rfl))
      obtain rfl : fn = Tryz.f4 := (Option.some.inj (Tryz.func4.symm.trans hfn)).symm
      exact ⟨by kernel_rfl, fun j t ht => by
        rw [Tryz.params4] at ht
        have h3 : t = 28 ∨ t = 29 ∨ t = 9 := by
          rcases j with _ | _ | _ | j
          · simp at ht; simp [← ht]
          · simp at ht; simp [← ht]
          · simp at ht; simp [← ht]
          · simp at ht
        rcases h3 with rfl | rfl | rfl
        · exact (show Tryz.prog.wantsStandIn 28 = false by kernel_rfl)
        · exact (show Tryz.prog.wantsStandIn 29 = false by kernel_rfl)
        · exact (show Tryz.prog.wantsStandIn 9 = false by kernel_rfl)⟩)
    (by kernel_rfl)
end Go.Proofs.YtpbgocfinpbpgaaGreatDoor
