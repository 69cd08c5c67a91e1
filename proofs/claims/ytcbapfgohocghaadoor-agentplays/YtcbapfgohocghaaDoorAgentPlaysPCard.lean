/- AgentPlays answers true, whatever number, table, messages and marks it is called with; the variable errorType of package errors is tied to the program's text. -/
import Derived.Test.YtcbapfgohocghaaDoorAgentPlaysP7
import Derived.Test.YtcbapfgohocghaaDoorTie
import Derived.Test.YtcbapfgohocghaaDoorCards
import Derived.SevenTiedAt
namespace Go.Proofs.YtcbapfgohocghaaDoor
open Go

theorem agentPlays_holds : Rows.AgentPlaysCardSaid :=
  Claim7.holds_tied_plain_at .later [] [.handle] true Rows.agentPlaysCard.stood.harness true
    agentPlays.over (fun _ h => by cases h) (by kernel_rfl) (fun _ h => by cases h) agentPlays_row_tie rfl ⟨rfl, rfl⟩ (by kernel_rfl) rfl
    (fun f fn hf hfn => by
      obtain rfl : f = 5 := Option.some.inj (hf.symm.trans (by kernel_rfl))
      obtain rfl : fn = Tryd.f5 := (Option.some.inj (Tryd.func5.symm.trans hfn)).symm
      exact ⟨by kernel_rfl, fun j t ht => by
        rw [Tryd.params5] at ht
        have h3 : t = 3 ∨ t = 23 ∨ t = 46 ∨ t = 25 := by
          rcases j with _ | _ | _ | _ | j
          · simp at ht; simp [← ht]
          · simp at ht; simp [← ht]
          · simp at ht; simp [← ht]
          · simp at ht; simp [← ht]
          · simp at ht
        rcases h3 with rfl | rfl | rfl | rfl
        · exact (show Tryd.prog.wantsStandIn 3 = false by kernel_rfl)
        · exact (show Tryd.prog.wantsStandIn 23 = false by kernel_rfl)
        · exact (show Tryd.prog.wantsStandIn 46 = false by kernel_rfl)
        · exact (show Tryd.prog.wantsStandIn 25 = false by kernel_rfl)⟩)
    (by kernel_rfl)
end Go.Proofs.YtcbapfgohocghaaDoor
