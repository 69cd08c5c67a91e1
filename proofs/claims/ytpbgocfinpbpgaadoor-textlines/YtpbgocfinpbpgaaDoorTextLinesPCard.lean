/- TextLines answers true, whatever net and wishes it is called with; the variables that its row lists are tied to the program's text. -/
import Derived.Test.YtpbgocfinpbpgaaDoorTextLinesP4
import Derived.Test.YtpbgocfinpbpgaaDoorTie
import Derived.Test.YtpbgocfinpbpgaaDoorCards
import Derived.SevenTiedAt
namespace Go.Proofs.YtpbgocfinpbpgaaDoor
open Go

theorem textLines_holds : Rows.TextLinesCardSaid :=
  Claim7.holds_tied_plain_at .later [] _ _ _ _
    textLines.over (fun _ h => by cases h) (by kernel_rfl) (fun _ h => by cases h) textLines_row_tie rfl ⟨rfl, rfl⟩ (by kernel_rfl) rfl
    (fun f fn hf hfn => by
      obtain rfl : f = 3 := Option.some.inj (hf.symm.trans (by kernel_rfl))
      obtain rfl : fn = Tryd.f3 := (Option.some.inj (Tryd.func3.symm.trans hfn)).symm
      exact ⟨by kernel_rfl, fun j t ht => by
        rw [Tryd.params3] at ht
        have h3 : t = 28 ∨ t = 29 := by
          rcases j with _ | _ | j
          · simp at ht; simp [← ht]
          · simp at ht; simp [← ht]
          · simp at ht
        rcases h3 with rfl | rfl
        · exact (show Tryd.prog.wantsStandIn 28 = false by kernel_rfl)
        · exact (show Tryd.prog.wantsStandIn 29 = false by kernel_rfl)⟩)
    (by kernel_rfl)
end Go.Proofs.YtpbgocfinpbpgaaDoor
