/-
  DERIVED. GIVEN WITH THE SEED: THE CARDS: each row of YtfbocionnjliladDoorRows.lean that lists a variable, with what it lists TIED to the program's text (the seventh form; the later family's looks); each row that meets fmt, with fmt's text TOLD by the authors' own Lean function (tested against real Go, not proved from fmt's source: count such statements apart). THE CARD IS WHAT COUNTS. Prove the row's statement (the work); the ties are given (YtfbocionnjliladDoorTie.lean); close each card by the builder's one call (the guide's Derived/Test/ToyasCard.lean, 'card_holds'). Laid BY PROGRAM, IN A SANDBOX (cutbox-door.mjs). By AI agents, Wed Nov 11 2026. No macro, syntax, notation, axiom, sorry.
-/
import Derived.Test.YtfbocionnjliladDoorRows
import GoSem.ClaimSeven
namespace Go.Proofs.YtfbocionnjliladDoor
namespace Rows

/-- THE TIED CARD OF 'raillaw1.ClassTells'. -/
def classTellsCard : Claim7 := { stood := { row := classTellsRow, standIns := [], harness := (true, "23b6a26f93baf6e840e938f837f78cf5646ba0fa9ad28df603c94fd740626375"), looks := true }, kinds := [], alts := [], laidByText := true, laidKinds := [.handle], laidTests := true, laidLooks := .later }
def ClassTellsCardSaid : Prop := Claim7.holds Tryd.pinned (.plain (OpenSpec.ofChange classTellsSpec)) classTellsCard

/-- THE TIED CARD OF 'raillaw1.WishProves'. -/
def wishProvesCard : Claim7 := { stood := { row := wishProvesRow, standIns := [], harness := (true, "23b6a26f93baf6e840e938f837f78cf5646ba0fa9ad28df603c94fd740626375"), looks := true }, kinds := [], alts := [], laidByText := true, laidKinds := [.handle], laidTests := true, laidLooks := .later }
def WishProvesCardSaid : Prop := Claim7.holds Tryd.pinned (.plain (OpenSpec.ofChange wishProvesSpec)) wishProvesCard

/-- THE TIED CARD OF 'raillaw4.WishClash'. -/
def wishClashCard : Claim7 := { stood := { row := wishClashRow, standIns := [], harness := (true, "23b6a26f93baf6e840e938f837f78cf5646ba0fa9ad28df603c94fd740626375"), looks := true }, kinds := [], alts := [], laidByText := true, laidKinds := [.handle], laidTests := true, laidLooks := .later }
def WishClashCardSaid : Prop := Claim7.holds Tryd.pinned (.plain (OpenSpec.ofChange wishClashSpec)) wishClashCard

/-- THE SECOND FORM's CARD OF 'raillaw1.ClassTells'. -/
def classTellsUptoCard : Claim7 := { stood := { row := classTellsUptoRow, standIns := [], harness := (true, "23b6a26f93baf6e840e938f837f78cf5646ba0fa9ad28df603c94fd740626375"), looks := true }, kinds := [], alts := [], laidByText := true, laidKinds := [.handle], laidTests := true, laidLooks := .later }
def ClassTellsUptoCardSaid : Prop := Claim7.holds Tryd.pinned (.plain (OpenSpec.upto classTellsSpec)) classTellsUptoCard

/-- THE SECOND FORM's CARD OF 'raillaw1.WishProves'. -/
def wishProvesUptoCard : Claim7 := { stood := { row := wishProvesUptoRow, standIns := [], harness := (true, "23b6a26f93baf6e840e938f837f78cf5646ba0fa9ad28df603c94fd740626375"), looks := true }, kinds := [], alts := [], laidByText := true, laidKinds := [.handle], laidTests := true, laidLooks := .later }
def WishProvesUptoCardSaid : Prop := Claim7.holds Tryd.pinned (.plain (OpenSpec.upto wishProvesSpec)) wishProvesUptoCard

/-- THE SECOND FORM's CARD OF 'raillaw4.WishClash'. -/
def wishClashUptoCard : Claim7 := { stood := { row := wishClashUptoRow, standIns := [], harness := (true, "23b6a26f93baf6e840e938f837f78cf5646ba0fa9ad28df603c94fd740626375"), looks := true }, kinds := [], alts := [], laidByText := true, laidKinds := [.handle], laidTests := true, laidLooks := .later }
def WishClashUptoCardSaid : Prop := Claim7.holds Tryd.pinned (.plain (OpenSpec.upto wishClashSpec)) wishClashUptoCard
end Rows
end Go.Proofs.YtfbocionnjliladDoor
