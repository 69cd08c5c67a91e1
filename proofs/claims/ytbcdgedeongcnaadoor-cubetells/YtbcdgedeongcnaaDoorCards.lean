/-
  DERIVED. GIVEN WITH THE SEED: THE CARDS: each row of YtbcdgedeongcnaaDoorRows.lean that lists a variable, with what it lists TIED to the program's text (the seventh form; the later family's looks); each row that meets fmt, with fmt's text TOLD by the authors' own Lean function (tested against real Go, not proved from fmt's source: count such statements apart). THE CARD IS WHAT COUNTS. Prove the row's statement (the work); the ties are given (YtbcdgedeongcnaaDoorTie.lean); close each card by the builder's one call (the guide's Derived/Test/ToyasCard.lean, 'card_holds'). Laid BY PROGRAM, IN A SANDBOX (cutbox-door.mjs). By AI agents, Wed Nov 11 2026. No macro, syntax, notation, axiom, sorry.
-/
import Derived.Test.YtbcdgedeongcnaaDoorRows
import GoSem.ClaimSeven
namespace Go.Proofs.YtbcdgedeongcnaaDoor
namespace Rows

/-- THE TIED CARD OF 'raillaw1.CubeTells'. -/
def cubeTellsCard : Claim7 := { stood := { row := cubeTellsRow, standIns := [], harness := (true, "d186a8968c2172deb4d7ac0a66d6ed87dae1f295c86342879f32e925d2c017bc"), looks := true }, kinds := [], alts := [], laidByText := true, laidKinds := [.handle], laidTests := true, laidLooks := .later }
def CubeTellsCardSaid : Prop := Claim7.holds Tryd.pinned (.plain (OpenSpec.ofChange cubeTellsSpec)) cubeTellsCard

/-- THE SECOND FORM's CARD OF 'raillaw1.CubeTells'. -/
def cubeTellsUptoCard : Claim7 := { stood := { row := cubeTellsUptoRow, standIns := [], harness := (true, "d186a8968c2172deb4d7ac0a66d6ed87dae1f295c86342879f32e925d2c017bc"), looks := true }, kinds := [], alts := [], laidByText := true, laidKinds := [.handle], laidTests := true, laidLooks := .later }
def CubeTellsUptoCardSaid : Prop := Claim7.holds Tryd.pinned (.plain (OpenSpec.upto cubeTellsSpec)) cubeTellsUptoCard
end Rows
end Go.Proofs.YtbcdgedeongcnaaDoor
