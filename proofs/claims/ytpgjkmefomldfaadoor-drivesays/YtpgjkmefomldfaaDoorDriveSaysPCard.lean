/- DriveSays answers true, whatever rounds and number it is called with; the variable errorType of package errors is tied to the program's text. -/
import Derived.Test.YtpgjkmefomldfaaDoorDriveSaysP4
import Derived.Test.YtpgjkmefomldfaaDoorTie
import Derived.Test.YtpgjkmefomldfaaDoorCards
import Derived.SevenTiedAt
namespace Go.Proofs.YtpgjkmefomldfaaDoor
open Go

theorem driveSays_holds : Rows.DriveSaysCardSaid :=
  Claim7.holds_tied_plain_at .later [] [.handle] true Rows.driveSaysCard.stood.harness true
    driveSays.over (fun _ h => by cases h) (by kernel_rfl) (fun _ h => by cases h) driveSays_row_tie rfl ⟨rfl, rfl⟩ (by kernel_rfl) rfl
    (fun f fn hf hfn => by
      obtain rfl : f = 3 := Option.some.inj (hf.symm.trans (by kernel_rfl))
      obtain rfl : fn = Tryd.f3 := (Option.some.inj (Tryd.func3.symm.trans hfn)).symm
      exact ⟨by kernel_rfl, fun j t ht => by
        rw [Tryd.params3] at ht
        have h3 : t = 22 ∨ t = 3 := by
          rcases j with _ | _ | j
          · simp at ht; simp [← ht]
          · simp at ht; simp [← ht]
          · simp at ht
        rcases h3 with rfl | rfl
        · exact (show Tryd.prog.wantsStandIn 22 = false by kernel_rfl)
        · exact (show Tryd.prog.wantsStandIn 3 = false by kernel_rfl)⟩)
    (by kernel_rfl)
end Go.Proofs.YtpgjkmefomldfaaDoor
