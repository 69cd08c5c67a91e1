/-
  DERIVED. GIVEN WITH THE SEED: THE CARDS: each row of YtbieljcoaocfkadDoorRows.lean that lists a variable, with what it lists TIED to the program's text (the seventh form; the later family's looks); each row that meets fmt, with fmt's text TOLD by the authors' own Lean function (tested against real Go, not proved from fmt's source: count such statements apart). THE CARD IS WHAT COUNTS. Prove the row's statement (the work); the ties are given (YtbieljcoaocfkadDoorTie.lean); close each card by the builder's one call (the guide's Derived/Test/ToyasCard.lean, 'card_holds'). Laid BY PROGRAM, IN A SANDBOX (cutbox-door.mjs). By AI agents, Wed Nov 11 2026. No macro, syntax, notation, axiom, sorry.
-/
import Derived.Test.YtbieljcoaocfkadDoorRows
import GoSem.ClaimSeven
namespace Go.Proofs.YtbieljcoaocfkadDoor
namespace Rows

/-- THE TIED CARD OF 'raillaw1.ClassTells'. -/
def classTellsCard : Claim7 := { stood := { row := classTellsRow, standIns := [], harness := (true, "a0362b10fbe76a10bb3d365b6b03fa2e43620b1632ed259504d909b5ac3c66c5"), looks := true }, kinds := [], alts := [], laidByText := true, laidKinds := [.handle], laidTests := true, laidLooks := .later }
def ClassTellsCardSaid : Prop := Claim7.holds Tryd.pinned (.plain (OpenSpec.ofChange classTellsSpec)) classTellsCard

/-- THE SECOND FORM's CARD OF 'raillaw1.ClassTells'. -/
def classTellsUptoCard : Claim7 := { stood := { row := classTellsUptoRow, standIns := [], harness := (true, "a0362b10fbe76a10bb3d365b6b03fa2e43620b1632ed259504d909b5ac3c66c5"), looks := true }, kinds := [], alts := [], laidByText := true, laidKinds := [.handle], laidTests := true, laidLooks := .later }
def ClassTellsUptoCardSaid : Prop := Claim7.holds Tryd.pinned (.plain (OpenSpec.upto classTellsSpec)) classTellsUptoCard
end Rows
end Go.Proofs.YtbieljcoaocfkadDoor
