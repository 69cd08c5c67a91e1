/- WireLong answers true, whatever message, place and byte it is called with; the variable errorType of package errors is tied to the program's text. -/
import Derived.Test.YtpfgaibfangciaaDoorWireLongP2
import Derived.Test.YtpfgaibfangciaaDoorTie
import Derived.Test.YtpfgaibfangciaaDoorCards
import Derived.SevenTiedAt
namespace Go.Proofs.YtpfgaibfangciaaDoor
open Go

theorem wireLong_holds : Rows.WireLongCardSaid :=
  Claim7.holds_tied_plain_at .later [] [.handle] true Rows.wireLongCard.stood.harness true
    wireLong.over (fun _ h => by cases h) (by kernel_rfl) (fun _ h => by cases h) wireLong_row_tie rfl ⟨rfl, rfl⟩ (by kernel_rfl) rfl
    (fun f fn hf hfn => by
      obtain rfl : f = 4 := Option.some.inj (hf.symm.trans (by kernel_rfl))
      obtain rfl : fn = Tryd.f4 := (Option.some.inj (Tryd.func4.symm.trans hfn)).symm
      exact ⟨by kernel_rfl, fun j t ht => by
        rw [Tryd.params4] at ht
        have h3 : t = 29 ∨ t = 3 ∨ t = 5 := by
          rcases j with _ | _ | _ | j
          · simp at ht; simp [← ht]
          · simp at ht; simp [← ht]
          · simp at ht; simp [← ht]
          · simp at ht
        rcases h3 with rfl | rfl | rfl
        · exact (show Tryd.prog.wantsStandIn 29 = false by kernel_rfl)
        · exact (show Tryd.prog.wantsStandIn 3 = false by kernel_rfl)
        · exact (show Tryd.prog.wantsStandIn 5 = false by kernel_rfl)⟩)
    (by kernel_rfl)
end Go.Proofs.YtpfgaibfangciaaDoor
