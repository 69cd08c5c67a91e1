/-
  DERIVED. GIVEN WITH THE SEED: THE CARDS: each row of YtokkmnednhigmaeDoorRows.lean that lists a variable, with what it lists TIED to the program's text (the seventh form; the later family's looks); each row that meets fmt, with fmt's text TOLD by the authors' own Lean function (tested against real Go, not proved from fmt's source: count such statements apart). THE CARD IS WHAT COUNTS. Prove the row's statement (the work); the ties are given (YtokkmnednhigmaeDoorTie.lean); close each card by the builder's one call (the guide's Derived/Test/ToyasCard.lean, 'card_holds'). Laid BY PROGRAM, IN A SANDBOX (cutbox-door.mjs). By AI agents, Wed Nov 11 2026. No macro, syntax, notation, axiom, sorry.
-/
import Derived.Test.YtokkmnednhigmaeDoorRows
import GoSem.ClaimSeven
namespace Go.Proofs.YtokkmnednhigmaeDoor
namespace Rows

/-- THE TIED CARD OF 'raillaw1.ChangeTells'. -/
def changeTellsCard : Claim7 := { stood := { row := changeTellsRow, standIns := [], harness := (true, "369e7394989b3d115b1d6385cf9be2a6a53cd5af0b44f092795890e019bc435b"), looks := true }, kinds := [], alts := [], laidByText := true, laidKinds := [.handle], laidTests := true, laidLooks := .later }
def ChangeTellsCardSaid : Prop := Claim7.holds Tryd.pinned (.plain (OpenSpec.ofChange changeTellsSpec)) changeTellsCard

/-- THE SECOND FORM's CARD OF 'raillaw1.ChangeTells'. -/
def changeTellsUptoCard : Claim7 := { stood := { row := changeTellsUptoRow, standIns := [], harness := (true, "369e7394989b3d115b1d6385cf9be2a6a53cd5af0b44f092795890e019bc435b"), looks := true }, kinds := [], alts := [], laidByText := true, laidKinds := [.handle], laidTests := true, laidLooks := .later }
def ChangeTellsUptoCardSaid : Prop := Claim7.holds Tryd.pinned (.plain (OpenSpec.upto changeTellsSpec)) changeTellsUptoCard
end Rows
end Go.Proofs.YtokkmnednhigmaeDoor
