/-
  DERIVED. GIVEN WITH THE SEED: THE CARDS: each row of YtmpjoepfgfbjmaaGreatDoorRows.lean that lists a variable, with what it lists TIED to the program's text (the seventh form; the later family's looks); each row that meets fmt, with fmt's text TOLD by the authors' own Lean function (tested against real Go, not proved from fmt's source: count such statements apart). THE CARD IS WHAT COUNTS. Prove the row's statement (the work); the ties are given (YtmpjoepfgfbjmaaGreatDoorTie.lean); close each card by the builder's one call (the guide's Derived/Test/ToyasCard.lean, 'card_holds'). Laid BY PROGRAM, IN A SANDBOX (cutbox-door.mjs). By AI agents, Wed Nov 11 2026. No macro, syntax, notation, axiom, sorry.
-/
import Derived.Test.YtmpjoepfgfbjmaaGreatDoorRows
import GoSem.ClaimSeven
namespace Go.Proofs.YtmpjoepfgfbjmaaGreatDoor
namespace Rows

/-- THE TIED CARD OF 'raillaw2.MixTells'. -/
def mixTellsCard : Claim7 := { stood := { row := mixTellsRow, standIns := [], harness := (true, "47dd36e6fb75271955fbbf36cb8b50606c81110e949649f1fd4b22188c4ac74e"), looks := true }, kinds := [], alts := [], laidByText := true, laidKinds := [.handle], laidTests := true, laidLooks := .later }
def MixTellsCardSaid : Prop := Claim7.holds Tryz.pinned (.plain (OpenSpec.ofChange mixTellsSpec)) mixTellsCard

/-- THE TIED CARD OF 'raillaw2.MixHolds'. -/
def mixHoldsCard : Claim7 := { stood := { row := mixHoldsRow, standIns := [], harness := (true, "47dd36e6fb75271955fbbf36cb8b50606c81110e949649f1fd4b22188c4ac74e"), looks := true }, kinds := [], alts := [], laidByText := true, laidKinds := [.handle], laidTests := true, laidLooks := .later }
def MixHoldsCardSaid : Prop := Claim7.holds Tryz.pinned (.plain (OpenSpec.ofChange mixHoldsSpec)) mixHoldsCard

/-- THE SECOND FORM's CARD OF 'raillaw2.MixTells'. -/
def mixTellsUptoCard : Claim7 := { stood := { row := mixTellsUptoRow, standIns := [], harness := (true, "47dd36e6fb75271955fbbf36cb8b50606c81110e949649f1fd4b22188c4ac74e"), looks := true }, kinds := [], alts := [], laidByText := true, laidKinds := [.handle], laidTests := true, laidLooks := .later }
def MixTellsUptoCardSaid : Prop := Claim7.holds Tryz.pinned (.plain (OpenSpec.upto mixTellsSpec)) mixTellsUptoCard

/-- THE SECOND FORM's CARD OF 'raillaw2.MixHolds'. -/
def mixHoldsUptoCard : Claim7 := { stood := { row := mixHoldsUptoRow, standIns := [], harness := (true, "47dd36e6fb75271955fbbf36cb8b50606c81110e949649f1fd4b22188c4ac74e"), looks := true }, kinds := [], alts := [], laidByText := true, laidKinds := [.handle], laidTests := true, laidLooks := .later }
def MixHoldsUptoCardSaid : Prop := Claim7.holds Tryz.pinned (.plain (OpenSpec.upto mixHoldsSpec)) mixHoldsUptoCard
end Rows
end Go.Proofs.YtmpjoepfgfbjmaaGreatDoor
