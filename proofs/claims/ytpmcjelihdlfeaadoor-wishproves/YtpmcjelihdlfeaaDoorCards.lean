/-
  DERIVED. GIVEN WITH THE SEED: THE CARDS: each row of YtpmcjelihdlfeaaDoorRows.lean that lists a variable, with what it lists TIED to the program's text (the seventh form; the later family's looks); each row that meets fmt, with fmt's text TOLD by the authors' own Lean function (tested against real Go, not proved from fmt's source: count such statements apart). THE CARD IS WHAT COUNTS. Prove the row's statement (the work); the ties are given (YtpmcjelihdlfeaaDoorTie.lean); close each card by the builder's one call (the guide's Derived/Test/ToyasCard.lean, 'card_holds'). Laid BY PROGRAM, IN A SANDBOX (cutbox-door.mjs). By AI agents, Wed Nov 11 2026. No macro, syntax, notation, axiom, sorry.
-/
import Derived.Test.YtpmcjelihdlfeaaDoorRows
import GoSem.ClaimSeven
namespace Go.Proofs.YtpmcjelihdlfeaaDoor
namespace Rows

/-- THE TIED CARD OF 'raillaw1.NetTells'. -/
def netTellsCard : Claim7 := { stood := { row := netTellsRow, standIns := [], harness := (true, "bff91fe8c3bc73baeb7edc7d3c1bbd204c7b7f02e569b182d82f4817517c8480"), looks := true }, kinds := [], alts := [], laidByText := true, laidKinds := [.handle], laidTests := true, laidLooks := .later }
def NetTellsCardSaid : Prop := Claim7.holds Tryd.pinned (.plain (OpenSpec.ofChange netTellsSpec)) netTellsCard

/-- THE TIED CARD OF 'raillaw4.NetTurns'. -/
def netTurnsCard : Claim7 := { stood := { row := netTurnsRow, standIns := [], harness := (true, "bff91fe8c3bc73baeb7edc7d3c1bbd204c7b7f02e569b182d82f4817517c8480"), looks := true }, kinds := [], alts := [], laidByText := true, laidKinds := [.handle], laidTests := true, laidLooks := .later }
def NetTurnsCardSaid : Prop := Claim7.holds Tryd.pinned (.plain (OpenSpec.ofChange netTurnsSpec)) netTurnsCard

/-- THE TIED CARD OF 'raillaw1.WishProves'. -/
def wishProvesCard : Claim7 := { stood := { row := wishProvesRow, standIns := [], harness := (true, "bff91fe8c3bc73baeb7edc7d3c1bbd204c7b7f02e569b182d82f4817517c8480"), looks := true }, kinds := [], alts := [], laidByText := true, laidKinds := [.handle], laidTests := true, laidLooks := .later }
def WishProvesCardSaid : Prop := Claim7.holds Tryd.pinned (.plain (OpenSpec.ofChange wishProvesSpec)) wishProvesCard

/-- THE TIED CARD OF 'raillaw4.WishClash'. -/
def wishClashCard : Claim7 := { stood := { row := wishClashRow, standIns := [], harness := (true, "bff91fe8c3bc73baeb7edc7d3c1bbd204c7b7f02e569b182d82f4817517c8480"), looks := true }, kinds := [], alts := [], laidByText := true, laidKinds := [.handle], laidTests := true, laidLooks := .later }
def WishClashCardSaid : Prop := Claim7.holds Tryd.pinned (.plain (OpenSpec.ofChange wishClashSpec)) wishClashCard

/-- THE SECOND FORM's CARD OF 'raillaw1.NetTells'. -/
def netTellsUptoCard : Claim7 := { stood := { row := netTellsUptoRow, standIns := [], harness := (true, "bff91fe8c3bc73baeb7edc7d3c1bbd204c7b7f02e569b182d82f4817517c8480"), looks := true }, kinds := [], alts := [], laidByText := true, laidKinds := [.handle], laidTests := true, laidLooks := .later }
def NetTellsUptoCardSaid : Prop := Claim7.holds Tryd.pinned (.plain (OpenSpec.upto netTellsSpec)) netTellsUptoCard

/-- THE SECOND FORM's CARD OF 'raillaw4.NetTurns'. -/
def netTurnsUptoCard : Claim7 := { stood := { row := netTurnsUptoRow, standIns := [], harness := (true, "bff91fe8c3bc73baeb7edc7d3c1bbd204c7b7f02e569b182d82f4817517c8480"), looks := true }, kinds := [], alts := [], laidByText := true, laidKinds := [.handle], laidTests := true, laidLooks := .later }
def NetTurnsUptoCardSaid : Prop := Claim7.holds Tryd.pinned (.plain (OpenSpec.upto netTurnsSpec)) netTurnsUptoCard

/-- THE SECOND FORM's CARD OF 'raillaw1.WishProves'. -/
def wishProvesUptoCard : Claim7 := { stood := { row := wishProvesUptoRow, standIns := [], harness := (true, "bff91fe8c3bc73baeb7edc7d3c1bbd204c7b7f02e569b182d82f4817517c8480"), looks := true }, kinds := [], alts := [], laidByText := true, laidKinds := [.handle], laidTests := true, laidLooks := .later }
def WishProvesUptoCardSaid : Prop := Claim7.holds Tryd.pinned (.plain (OpenSpec.upto wishProvesSpec)) wishProvesUptoCard

/-- THE SECOND FORM's CARD OF 'raillaw4.WishClash'. -/
def wishClashUptoCard : Claim7 := { stood := { row := wishClashUptoRow, standIns := [], harness := (true, "bff91fe8c3bc73baeb7edc7d3c1bbd204c7b7f02e569b182d82f4817517c8480"), looks := true }, kinds := [], alts := [], laidByText := true, laidKinds := [.handle], laidTests := true, laidLooks := .later }
def WishClashUptoCardSaid : Prop := Claim7.holds Tryd.pinned (.plain (OpenSpec.upto wishClashSpec)) wishClashUptoCard
end Rows
end Go.Proofs.YtpmcjelihdlfeaaDoor
