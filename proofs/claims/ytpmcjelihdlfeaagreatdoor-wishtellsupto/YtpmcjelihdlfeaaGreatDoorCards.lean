/-
  DERIVED. GIVEN WITH THE SEED: THE CARDS: each row of YtpmcjelihdlfeaaGreatDoorRows.lean that lists a variable, with what it lists TIED to the program's text (the seventh form; the later family's looks); each row that meets fmt, with fmt's text TOLD by the authors' own Lean function (tested against real Go, not proved from fmt's source: count such statements apart). THE CARD IS WHAT COUNTS. Prove the row's statement (the work); the ties are given (YtpmcjelihdlfeaaGreatDoorTie.lean); close each card by the builder's one call (the guide's Derived/Test/ToyasCard.lean, 'card_holds'). Laid BY PROGRAM, IN A SANDBOX (cutbox-door.mjs). By AI agents, Wed Nov 11 2026. No macro, syntax, notation, axiom, sorry.
-/
import Derived.Test.YtpmcjelihdlfeaaGreatDoorRows
import GoSem.ClaimSeven
namespace Go.Proofs.YtpmcjelihdlfeaaGreatDoor
namespace Rows

/-- THE TIED CARD OF 'raillaw1.WishTells'. -/
def wishTellsCard : Claim7 := { stood := { row := wishTellsRow, standIns := [], harness := (true, "54043d738f4bc82a291d81e72d68d72ec7d9a16776f0d0e9f242ee630e2ebcae"), looks := true }, kinds := [], alts := [], laidByText := true, laidKinds := [.data, .data, .data, .data, .handle, .sentinel, .sentinel, .data, .pinned], laidTests := true, laidLooks := .later }
def WishTellsCardSaid : Prop := Claim7.holds Tryz.pinned (.plain (OpenSpec.ofChange wishTellsSpec)) wishTellsCard

/-- THE SECOND FORM's CARD OF 'raillaw1.WishTells'. -/
def wishTellsUptoCard : Claim7 := { stood := { row := wishTellsUptoRow, standIns := [], harness := (true, "54043d738f4bc82a291d81e72d68d72ec7d9a16776f0d0e9f242ee630e2ebcae"), looks := true }, kinds := [], alts := [], laidByText := true, laidKinds := [.data, .data, .data, .data, .handle, .sentinel, .sentinel, .data, .pinned], laidTests := true, laidLooks := .later }
def WishTellsUptoCardSaid : Prop := Claim7.holds Tryz.pinned (.plain (OpenSpec.upto wishTellsSpec)) wishTellsUptoCard
end Rows
end Go.Proofs.YtpmcjelihdlfeaaGreatDoor
