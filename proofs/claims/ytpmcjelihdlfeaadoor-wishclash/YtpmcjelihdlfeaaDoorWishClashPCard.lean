/- WishClash answers true, whatever net and two names it is called with; the variable errorType of package errors is tied to the program's text. -/
import Derived.Test.YtpmcjelihdlfeaaDoorWishClashP8
import Derived.Test.YtpmcjelihdlfeaaDoorTie
import Derived.Test.YtpmcjelihdlfeaaDoorCards
import Derived.SevenTiedAt
namespace Go.Proofs.YtpmcjelihdlfeaaDoor
open Go

theorem wishClash_holds : Rows.WishClashCardSaid :=
  Claim7.holds_tied_plain_at .later [] [.handle] true Rows.wishClashCard.stood.harness true
    wishClash.over (fun _ h => by cases h) (by kernel_rfl) (fun _ h => by cases h) wishClash_row_tie rfl ⟨rfl, rfl⟩ (by kernel_rfl) rfl
    (fun f fn hf hfn => by
      obtain rfl : f = 6 := Option.some.inj (hf.symm.trans (by kernel_rfl))
      obtain rfl : fn = Tryd.f6 := (Option.some.inj (Tryd.func6.symm.trans hfn)).symm
      exact ⟨by kernel_rfl, fun j t ht => by
        rw [Tryd.params6] at ht
        have h3 : t = 28 ∨ t = 9 := by
          rcases j with _ | _ | _ | j
          · simp at ht; simp [← ht]
          · simp at ht; simp [← ht]
          · simp at ht; simp [← ht]
          · simp at ht
        rcases h3 with rfl | rfl
        · exact (show Tryd.prog.wantsStandIn 28 = false by kernel_rfl)
        · exact (show Tryd.prog.wantsStandIn 9 = false by kernel_rfl)⟩)
    (by kernel_rfl)
end Go.Proofs.YtpmcjelihdlfeaaDoor
