/- WireTells answers true, whatever message and text it is called with, where these are together of bulk at most 2^20; the listed variables are tied to the program's text. -/
import Derived.Test.YtpfgaibfangciaaDoorWireTellsP3
import Derived.Test.YtpfgaibfangciaaDoorTie
import Derived.Test.YtpfgaibfangciaaDoorCards
import Derived.SevenTiedAt
namespace Go.Proofs.YtpfgaibfangciaaDoor
open Go

theorem wireTells_holds : Rows.WireTellsUptoCardSaid :=
  Claim7.holds_tied_plain_at .later [] _ _ _ _
    wireTells.over (fun _ h => by cases h) (by kernel_rfl) (fun _ h => by cases h) wireTellsUpto_row_tie rfl ⟨rfl, rfl⟩ (by kernel_rfl) rfl
    (fun f fn hf hfn => by
      obtain rfl : f = 3 := Option.some.inj (hf.symm.trans (by kernel_rfl))
      obtain rfl : fn = Tryd.f3 := (Option.some.inj (Tryd.func3.symm.trans hfn)).symm
      exact ⟨by kernel_rfl, fun j t ht => by
        rw [Tryd.params3] at ht
        have h3 : t = 29 ∨ t = 9 := by
          rcases j with _ | _ | j
          · simp at ht; simp [← ht]
          · simp at ht; simp [← ht]
          · simp at ht
        rcases h3 with rfl | rfl
        · exact (show Tryd.prog.wantsStandIn 29 = false by kernel_rfl)
        · exact (show Tryd.prog.wantsStandIn 9 = false by kernel_rfl)⟩)
    (by kernel_rfl)
end Go.Proofs.YtpfgaibfangciaaDoor
