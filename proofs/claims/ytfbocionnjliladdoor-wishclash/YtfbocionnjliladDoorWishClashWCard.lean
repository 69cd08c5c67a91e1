/- WishClash answers true, whatever net and two names it is called with; the variable errorType of package errors is tied to the program's text. -/
import Derived.Test.YtfbocionnjliladDoorWishClashWRow
import Derived.Test.YtfbocionnjliladDoorTie
import Derived.Test.YtfbocionnjliladDoorCards
import Derived.SevenTiedAt
namespace Go.Proofs.YtfbocionnjliladDoor
open Go

theorem wishClash_holds : Rows.WishClashCardSaid :=
  Claim7.holds_tied_plain_at .later [] [.handle] true Rows.wishClashCard.stood.harness true
    wishClash.over (fun _ h => by cases h) (by kernel_rfl) (fun _ h => by cases h) wishClash_row_tie rfl ⟨rfl, rfl⟩ (by kernel_rfl) rfl
    (fun f fn hf hfn => by
      obtain rfl : f = 5 := Option.some.inj (hf.symm.trans (by kernel_rfl))
      obtain rfl : fn = Tryd.f5 := (Option.some.inj (Tryd.func5.symm.trans hfn)).symm
      exact ⟨by kernel_rfl, fun j t ht => by
        rw [Tryd.params5] at ht
        have h3 : t = 28 ∨ t = 9 := by
          rcases j with _ | _ | _ | j
          · simp at ht; simp [← ht]
          · simp at ht; simp [← ht]
          · simp at ht; simp [← ht]
          · simp at ht
        rcases h3 with rfl | rfl
        · exact (show Tryd.prog.wantsStandIn 28 = false by kernel_rfl)
        · exact (show Tryd.prog.wantsStandIn 9 = false by kernel_rfl)⟩)
    (by kernel_rfl)
end Go.Proofs.YtfbocionnjliladDoor
