/-
  DERIVED. GIVEN WITH THE SEED: THE CARDS: each row of YtfbocionnjlilacDoorRows.lean that lists a variable, with what it lists TIED to the program's text (the seventh form; the later family's looks); each row that meets fmt, with fmt's text TOLD by the authors' own Lean function (tested against real Go, not proved from fmt's source: count such statements apart). THE CARD IS WHAT COUNTS. Prove the row's statement (the work); the ties are given (YtfbocionnjlilacDoorTie.lean); close each card by the builder's one call (the guide's Derived/Test/ToyasCard.lean, 'card_holds'). Laid BY PROGRAM, IN A SANDBOX (cutbox-door.mjs). By AI agents, Wed Nov 11 2026. No macro, syntax, notation, axiom, sorry.
-/
import Derived.Test.YtfbocionnjlilacDoorRows
import GoSem.ClaimSeven
namespace Go.Proofs.YtfbocionnjlilacDoor
namespace Rows

/-- THE TIED CARD OF 'raillaw1.TopoTells'. -/
def topoTellsCard : Claim7 := { stood := { row := topoTellsRow, standIns := [], harness := (true, "41df6ef162c2efb95e2bae397a2bf8a2487c68c205a37bdfced47e116e01f6e4"), looks := true }, kinds := [], alts := [], laidByText := true, laidKinds := [.handle], laidTests := true, laidLooks := .later }
def TopoTellsCardSaid : Prop := Claim7.holds Tryd.pinned (.plain (OpenSpec.ofChange topoTellsSpec)) topoTellsCard

/-- THE TIED CARD OF 'raillaw4.TopoLine'. -/
def topoLineCard : Claim7 := { stood := { row := topoLineRow, standIns := [], harness := (true, "41df6ef162c2efb95e2bae397a2bf8a2487c68c205a37bdfced47e116e01f6e4"), looks := true }, kinds := [], alts := [], laidByText := true, laidKinds := [.handle], laidTests := true, laidLooks := .later }
def TopoLineCardSaid : Prop := Claim7.holds Tryd.pinned (.plain (OpenSpec.ofChange topoLineSpec)) topoLineCard

/-- THE TIED CARD OF 'raillaw1.NetTells'. -/
def netTellsCard : Claim7 := { stood := { row := netTellsRow, standIns := [], harness := (true, "41df6ef162c2efb95e2bae397a2bf8a2487c68c205a37bdfced47e116e01f6e4"), looks := true }, kinds := [], alts := [], laidByText := true, laidKinds := [.handle], laidTests := true, laidLooks := .later }
def NetTellsCardSaid : Prop := Claim7.holds Tryd.pinned (.plain (OpenSpec.ofChange netTellsSpec)) netTellsCard

/-- THE TIED CARD OF 'raillaw4.NetTurns'. -/
def netTurnsCard : Claim7 := { stood := { row := netTurnsRow, standIns := [], harness := (true, "41df6ef162c2efb95e2bae397a2bf8a2487c68c205a37bdfced47e116e01f6e4"), looks := true }, kinds := [], alts := [], laidByText := true, laidKinds := [.handle], laidTests := true, laidLooks := .later }
def NetTurnsCardSaid : Prop := Claim7.holds Tryd.pinned (.plain (OpenSpec.ofChange netTurnsSpec)) netTurnsCard

/-- THE SECOND FORM's CARD OF 'raillaw1.TopoTells'. -/
def topoTellsUptoCard : Claim7 := { stood := { row := topoTellsUptoRow, standIns := [], harness := (true, "41df6ef162c2efb95e2bae397a2bf8a2487c68c205a37bdfced47e116e01f6e4"), looks := true }, kinds := [], alts := [], laidByText := true, laidKinds := [.handle], laidTests := true, laidLooks := .later }
def TopoTellsUptoCardSaid : Prop := Claim7.holds Tryd.pinned (.plain (OpenSpec.upto topoTellsSpec)) topoTellsUptoCard

/-- THE SECOND FORM's CARD OF 'raillaw4.TopoLine'. -/
def topoLineUptoCard : Claim7 := { stood := { row := topoLineUptoRow, standIns := [], harness := (true, "41df6ef162c2efb95e2bae397a2bf8a2487c68c205a37bdfced47e116e01f6e4"), looks := true }, kinds := [], alts := [], laidByText := true, laidKinds := [.handle], laidTests := true, laidLooks := .later }
def TopoLineUptoCardSaid : Prop := Claim7.holds Tryd.pinned (.plain (OpenSpec.upto topoLineSpec)) topoLineUptoCard

/-- THE SECOND FORM's CARD OF 'raillaw1.NetTells'. -/
def netTellsUptoCard : Claim7 := { stood := { row := netTellsUptoRow, standIns := [], harness := (true, "41df6ef162c2efb95e2bae397a2bf8a2487c68c205a37bdfced47e116e01f6e4"), looks := true }, kinds := [], alts := [], laidByText := true, laidKinds := [.handle], laidTests := true, laidLooks := .later }
def NetTellsUptoCardSaid : Prop := Claim7.holds Tryd.pinned (.plain (OpenSpec.upto netTellsSpec)) netTellsUptoCard

/-- THE SECOND FORM's CARD OF 'raillaw4.NetTurns'. -/
def netTurnsUptoCard : Claim7 := { stood := { row := netTurnsUptoRow, standIns := [], harness := (true, "41df6ef162c2efb95e2bae397a2bf8a2487c68c205a37bdfced47e116e01f6e4"), looks := true }, kinds := [], alts := [], laidByText := true, laidKinds := [.handle], laidTests := true, laidLooks := .later }
def NetTurnsUptoCardSaid : Prop := Claim7.holds Tryd.pinned (.plain (OpenSpec.upto netTurnsSpec)) netTurnsUptoCard
end Rows
end Go.Proofs.YtfbocionnjlilacDoor
