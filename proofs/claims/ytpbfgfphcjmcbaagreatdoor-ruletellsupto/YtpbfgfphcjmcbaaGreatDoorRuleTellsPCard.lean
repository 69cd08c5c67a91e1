/- RuleTells answers true, whatever rule, text, header and table it is called with, where these are together of bulk at most 2^20; the listed variables are tied to the program's text. -/
import Derived.Test.YtpbfgfphcjmcbaaGreatDoorRuleTellsP6
import Derived.Test.YtpbfgfphcjmcbaaGreatDoorTie
import Derived.Test.YtpbfgfphcjmcbaaGreatDoorCards
import Derived.SevenTiedAt
namespace Go.Proofs.YtpbfgfphcjmcbaaGreatDoor
open Go

theorem ruleTells_holds : Rows.RuleTellsUptoCardSaid :=
  Claim7.holds_tied_plain_at .later [] _ _ _ _
    ruleTells.over (fun _ h => by cases h) (by kernel_rfl) (fun _ h => by cases h) ruleTellsUpto_row_tie rfl ⟨rfl, rfl⟩ (by kernel_rfl) rfl
    (fun f fn hf hfn => by
      obtain rfl : f = 3 := Option.some.inj (hf.symm.trans (by kernel_rfl))
      obtain rfl : fn = Tryz.f3 := (Option.some.inj (Tryz.func3.symm.trans hfn)).symm
      exact ⟨by kernel_rfl, fun j t ht => by
        rw [Tryz.params3] at ht
        have h3 : t = 25 ∨ t = 9 ∨ t = 3 ∨ t = 27 := by
          rcases j with _ | _ | _ | _ | j
          · simp at ht; simp [← ht]
          · simp at ht; simp [← ht]
          · simp at ht; simp [← ht]
          · simp at ht; simp [← ht]
          · simp at ht
        rcases h3 with rfl | rfl | rfl | rfl
        · exact (show Tryz.prog.wantsStandIn 25 = false by kernel_rfl)
        · exact (show Tryz.prog.wantsStandIn 9 = false by kernel_rfl)
        · exact (show Tryz.prog.wantsStandIn 3 = false by kernel_rfl)
        · exact (show Tryz.prog.wantsStandIn 27 = false by kernel_rfl)⟩)
    (by kernel_rfl)
end Go.Proofs.YtpbfgfphcjmcbaaGreatDoor
