/- AgentOnce answers true, whatever table, ops and two lists of numbers it is called with; the variable errorType of package errors is tied to the program's text. -/
import Derived.Test.YtcbapfgohocghaaDoorAgentOnceP8
import Derived.Test.YtcbapfgohocghaaDoorTie
import Derived.Test.YtcbapfgohocghaaDoorCards
import Derived.SevenTiedAt
namespace Go.Proofs.YtcbapfgohocghaaDoor
open Go

theorem agentOnce_holds : Rows.AgentOnceCardSaid :=
  Claim7.holds_tied_plain_at .later [] [.handle] true Rows.agentOnceCard.stood.harness true
    agentOnce.over (fun _ h => by cases h) (by kernel_rfl) (fun _ h => by cases h) agentOnce_row_tie rfl ⟨rfl, rfl⟩ (by kernel_rfl) rfl
    (fun f fn hf hfn => by
      obtain rfl : f = 3 := Option.some.inj (hf.symm.trans (by kernel_rfl))
      obtain rfl : fn = Tryd.f3 := (Option.some.inj (Tryd.func3.symm.trans hfn)).symm
      exact ⟨by kernel_rfl, fun j t ht => by
        rw [Tryd.params3] at ht
        have h3 : t = 23 ∨ t = 24 ∨ t = 25 := by
          rcases j with _ | _ | _ | _ | j
          · simp at ht; simp [← ht]
          · simp at ht; simp [← ht]
          · simp at ht; simp [← ht]
          · simp at ht; simp [← ht]
          · simp at ht
        rcases h3 with rfl | rfl | rfl
        · exact (show Tryd.prog.wantsStandIn 23 = false by kernel_rfl)
        · exact (show Tryd.prog.wantsStandIn 24 = false by kernel_rfl)
        · exact (show Tryd.prog.wantsStandIn 25 = false by kernel_rfl)⟩)
    (by kernel_rfl)
end Go.Proofs.YtcbapfgohocghaaDoor
