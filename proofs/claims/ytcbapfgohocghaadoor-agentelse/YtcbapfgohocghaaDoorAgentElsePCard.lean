/- AgentElse answers true, whatever table and messages it is called with; the variable errorType of package errors is tied to the program's text. -/
import Derived.Test.YtcbapfgohocghaaDoorAgentElseP5
import Derived.Test.YtcbapfgohocghaaDoorTie
import Derived.Test.YtcbapfgohocghaaDoorCards
import Derived.SevenTiedAt
namespace Go.Proofs.YtcbapfgohocghaaDoor
open Go

theorem agentElse_holds : Rows.AgentElseCardSaid :=
  Claim7.holds_tied_plain_at .later [] [.handle] true Rows.agentElseCard.stood.harness true
    agentElse.over (fun _ h => by cases h) (by kernel_rfl) (fun _ h => by cases h) agentElse_row_tie rfl ⟨rfl, rfl⟩ (by kernel_rfl) rfl
    (fun f fn hf hfn => by
      obtain rfl : f = 4 := Option.some.inj (hf.symm.trans (by kernel_rfl))
      obtain rfl : fn = Tryd.f4 := (Option.some.inj (Tryd.func4.symm.trans hfn)).symm
      exact ⟨by kernel_rfl, fun j t ht => by
        rw [Tryd.params4] at ht
        have h3 : t = 23 ∨ t = 46 := by
          rcases j with _ | _ | j
          · simp at ht; simp [← ht]
          · simp at ht; simp [← ht]
          · simp at ht
        rcases h3 with rfl | rfl
        · exact (show Tryd.prog.wantsStandIn 23 = false by kernel_rfl)
        · exact (show Tryd.prog.wantsStandIn 46 = false by kernel_rfl)⟩)
    (by kernel_rfl)
end Go.Proofs.YtcbapfgohocghaaDoor
