/-
  DERIVED. GIVEN WITH THE SEED: THE CARDS: each row of YtcbapfgohocghaaDoorRows.lean that lists a variable, with what it lists TIED to the program's text (the seventh form; the later family's looks); each row that meets fmt, with fmt's text TOLD by the authors' own Lean function (tested against real Go, not proved from fmt's source: count such statements apart). THE CARD IS WHAT COUNTS. Prove the row's statement (the work); the ties are given (YtcbapfgohocghaaDoorTie.lean); close each card by the builder's one call (the guide's Derived/Test/ToyasCard.lean, 'card_holds'). Laid BY PROGRAM, IN A SANDBOX (cutbox-door.mjs). By AI agents, Wed Nov 11 2026. No macro, syntax, notation, axiom, sorry.
-/
import Derived.Test.YtcbapfgohocghaaDoorRows
import GoSem.ClaimSeven
namespace Go.Proofs.YtcbapfgohocghaaDoor
namespace Rows

/-- THE TIED CARD OF 'raillaw2.AgentOnce'. -/
def agentOnceCard : Claim7 := { stood := { row := agentOnceRow, standIns := [], harness := (true, "764291df1b6f17f5bcb996a34a847cd3a76d59835c3870eea5a8b778f0f5f42d"), looks := true }, kinds := [], alts := [], laidByText := true, laidKinds := [.handle], laidTests := true, laidLooks := .later }
def AgentOnceCardSaid : Prop := Claim7.holds Tryd.pinned (.plain (OpenSpec.ofChange agentOnceSpec)) agentOnceCard

/-- THE TIED CARD OF 'raillaw4.AgentElse'. -/
def agentElseCard : Claim7 := { stood := { row := agentElseRow, standIns := [], harness := (true, "764291df1b6f17f5bcb996a34a847cd3a76d59835c3870eea5a8b778f0f5f42d"), looks := true }, kinds := [], alts := [], laidByText := true, laidKinds := [.handle], laidTests := true, laidLooks := .later }
def AgentElseCardSaid : Prop := Claim7.holds Tryd.pinned (.plain (OpenSpec.ofChange agentElseSpec)) agentElseCard

/-- THE TIED CARD OF 'raillaw2.AgentPlays'. -/
def agentPlaysCard : Claim7 := { stood := { row := agentPlaysRow, standIns := [], harness := (true, "764291df1b6f17f5bcb996a34a847cd3a76d59835c3870eea5a8b778f0f5f42d"), looks := true }, kinds := [], alts := [], laidByText := true, laidKinds := [.handle], laidTests := true, laidLooks := .later }
def AgentPlaysCardSaid : Prop := Claim7.holds Tryd.pinned (.plain (OpenSpec.ofChange agentPlaysSpec)) agentPlaysCard

/-- THE SECOND FORM's CARD OF 'raillaw2.AgentOnce'. -/
def agentOnceUptoCard : Claim7 := { stood := { row := agentOnceUptoRow, standIns := [], harness := (true, "764291df1b6f17f5bcb996a34a847cd3a76d59835c3870eea5a8b778f0f5f42d"), looks := true }, kinds := [], alts := [], laidByText := true, laidKinds := [.handle], laidTests := true, laidLooks := .later }
def AgentOnceUptoCardSaid : Prop := Claim7.holds Tryd.pinned (.plain (OpenSpec.upto agentOnceSpec)) agentOnceUptoCard

/-- THE SECOND FORM's CARD OF 'raillaw4.AgentElse'. -/
def agentElseUptoCard : Claim7 := { stood := { row := agentElseUptoRow, standIns := [], harness := (true, "764291df1b6f17f5bcb996a34a847cd3a76d59835c3870eea5a8b778f0f5f42d"), looks := true }, kinds := [], alts := [], laidByText := true, laidKinds := [.handle], laidTests := true, laidLooks := .later }
def AgentElseUptoCardSaid : Prop := Claim7.holds Tryd.pinned (.plain (OpenSpec.upto agentElseSpec)) agentElseUptoCard

/-- THE SECOND FORM's CARD OF 'raillaw2.AgentPlays'. -/
def agentPlaysUptoCard : Claim7 := { stood := { row := agentPlaysUptoRow, standIns := [], harness := (true, "764291df1b6f17f5bcb996a34a847cd3a76d59835c3870eea5a8b778f0f5f42d"), looks := true }, kinds := [], alts := [], laidByText := true, laidKinds := [.handle], laidTests := true, laidLooks := .later }
def AgentPlaysUptoCardSaid : Prop := Claim7.holds Tryd.pinned (.plain (OpenSpec.upto agentPlaysSpec)) agentPlaysUptoCard
end Rows
end Go.Proofs.YtcbapfgohocghaaDoor
