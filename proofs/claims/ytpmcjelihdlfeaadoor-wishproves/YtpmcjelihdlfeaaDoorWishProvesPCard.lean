/- WishProves answers true, whatever net, wishes, name and number it is called with; the variable errorType of package errors is tied to the program's text. -/
import Derived.Test.YtpmcjelihdlfeaaDoorWishProvesP8
import Derived.Test.YtpmcjelihdlfeaaDoorTie
import Derived.Test.YtpmcjelihdlfeaaDoorCards
import Derived.SevenTiedAt
namespace Go.Proofs.YtpmcjelihdlfeaaDoor
open Go

theorem wishProves_holds : Rows.WishProvesCardSaid :=
  Claim7.holds_tied_plain_at .later [] [.handle] true Rows.wishProvesCard.stood.harness true
    wishProves.over (fun _ h => by cases h) (by kernel_rfl) (fun _ h => by cases h) wishProves_row_tie rfl ⟨rfl, rfl⟩ (by kernel_rfl) rfl
    (fun f fn hf hfn => by
      obtain rfl : f = 5 := Option.some.inj (hf.symm.trans (by kernel_rfl))
      obtain rfl : fn = Tryd.f5 := (Option.some.inj (Tryd.func5.symm.trans hfn)).symm
      exact ⟨by kernel_rfl, fun j t ht => by
        rw [Tryd.params5] at ht
        have h3 : t = 28 ∨ t = 61 ∨ t = 9 ∨ t = 3 := by
          rcases j with _ | _ | _ | _ | j
          · simp at ht; simp [← ht]
          · simp at ht; simp [← ht]
          · simp at ht; simp [← ht]
          · simp at ht; simp [← ht]
          · simp at ht
        rcases h3 with rfl | rfl | rfl | rfl
        · exact (show Tryd.prog.wantsStandIn 28 = false by kernel_rfl)
        · exact (show Tryd.prog.wantsStandIn 61 = false by kernel_rfl)
        · exact (show Tryd.prog.wantsStandIn 9 = false by kernel_rfl)
        · exact (show Tryd.prog.wantsStandIn 3 = false by kernel_rfl)⟩)
    (by kernel_rfl)
end Go.Proofs.YtpmcjelihdlfeaaDoor
