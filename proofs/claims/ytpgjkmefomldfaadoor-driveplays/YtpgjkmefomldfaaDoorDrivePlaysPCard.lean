/- DrivePlays answers true, whatever rounds, number, steps and messages it is called with; the variable errorType of package errors is tied to the program's text. -/
import Derived.Test.YtpgjkmefomldfaaDoorDrivePlaysP6
import Derived.Test.YtpgjkmefomldfaaDoorTie
import Derived.Test.YtpgjkmefomldfaaDoorCards
import Derived.SevenTiedAt
namespace Go.Proofs.YtpgjkmefomldfaaDoor
open Go

theorem drivePlays_holds : Rows.DrivePlaysCardSaid :=
  Claim7.holds_tied_plain_at .later [] [.handle] true Rows.drivePlaysCard.stood.harness true
    drivePlays.over (fun _ h => by cases h) (by kernel_rfl) (fun _ h => by cases h) drivePlays_row_tie rfl ⟨rfl, rfl⟩ (by kernel_rfl) rfl
    (fun f fn hf hfn => by
      obtain rfl : f = 4 := Option.some.inj (hf.symm.trans (by kernel_rfl))
      obtain rfl : fn = Tryd.f4 := (Option.some.inj (Tryd.func4.symm.trans hfn)).symm
      exact ⟨by kernel_rfl, fun j t ht => by
        rw [Tryd.params4] at ht
        have h3 : t = 22 ∨ t = 3 ∨ t = 40 ∨ t = 29 := by
          rcases j with _ | _ | _ | _ | j
          · simp at ht; simp [← ht]
          · simp at ht; simp [← ht]
          · simp at ht; simp [← ht]
          · simp at ht; simp [← ht]
          · simp at ht
        rcases h3 with rfl | rfl | rfl | rfl
        · exact (show Tryd.prog.wantsStandIn 22 = false by kernel_rfl)
        · exact (show Tryd.prog.wantsStandIn 3 = false by kernel_rfl)
        · exact (show Tryd.prog.wantsStandIn 40 = false by kernel_rfl)
        · exact (show Tryd.prog.wantsStandIn 29 = false by kernel_rfl)⟩)
    (by kernel_rfl)
end Go.Proofs.YtpgjkmefomldfaaDoor
