/-
  DERIVED. GIVEN WITH THE SEED: THE CARDS: each row of YtclecpcnmfhhcaaDoorRows.lean that lists a variable, with what it lists TIED to the program's text (the seventh form; the later family's looks); each row that meets fmt, with fmt's text TOLD by the authors' own Lean function (tested against real Go, not proved from fmt's source: count such statements apart). THE CARD IS WHAT COUNTS. Prove the row's statement (the work); the ties are given (YtclecpcnmfhhcaaDoorTie.lean); close each card by the builder's one call (the guide's Derived/Test/ToyasCard.lean, 'card_holds'). Laid BY PROGRAM, IN A SANDBOX (cutbox-door.mjs). By AI agents, Wed Nov 11 2026. No macro, syntax, notation, axiom, sorry.
-/
import Derived.Test.YtclecpcnmfhhcaaDoorRows
import GoSem.ClaimSeven
namespace Go.Proofs.YtclecpcnmfhhcaaDoor
namespace Rows

/-- THE TIED CARD OF 'raillaw1.CubeTells'. -/
def cubeTellsCard : Claim7 := { stood := { row := cubeTellsRow, standIns := [], harness := (true, "9a21c20b9e395c053c2cda17004ef56a145bbb719a1d0d6264e1b1b31c12cc90"), looks := true }, kinds := [], alts := [], laidByText := true, laidKinds := [.handle], laidTests := true, laidLooks := .later }
def CubeTellsCardSaid : Prop := Claim7.holds Tryd.pinned (.plain (OpenSpec.ofChange cubeTellsSpec)) cubeTellsCard

/-- THE TIED CARD OF 'raillaw1.CubesTells'. -/
def cubesTellsCard : Claim7 := { stood := { row := cubesTellsRow, standIns := [], harness := (true, "9a21c20b9e395c053c2cda17004ef56a145bbb719a1d0d6264e1b1b31c12cc90"), looks := true }, kinds := [], alts := [], laidByText := true, laidKinds := [.handle], laidTests := true, laidLooks := .later }
def CubesTellsCardSaid : Prop := Claim7.holds Tryd.pinned (.plain (OpenSpec.ofChange cubesTellsSpec)) cubesTellsCard

/-- THE SECOND FORM's CARD OF 'raillaw1.CubeTells'. -/
def cubeTellsUptoCard : Claim7 := { stood := { row := cubeTellsUptoRow, standIns := [], harness := (true, "9a21c20b9e395c053c2cda17004ef56a145bbb719a1d0d6264e1b1b31c12cc90"), looks := true }, kinds := [], alts := [], laidByText := true, laidKinds := [.handle], laidTests := true, laidLooks := .later }
def CubeTellsUptoCardSaid : Prop := Claim7.holds Tryd.pinned (.plain (OpenSpec.upto cubeTellsSpec)) cubeTellsUptoCard

/-- THE SECOND FORM's CARD OF 'raillaw1.CubesTells'. -/
def cubesTellsUptoCard : Claim7 := { stood := { row := cubesTellsUptoRow, standIns := [], harness := (true, "9a21c20b9e395c053c2cda17004ef56a145bbb719a1d0d6264e1b1b31c12cc90"), looks := true }, kinds := [], alts := [], laidByText := true, laidKinds := [.handle], laidTests := true, laidLooks := .later }
def CubesTellsUptoCardSaid : Prop := Claim7.holds Tryd.pinned (.plain (OpenSpec.upto cubesTellsSpec)) cubesTellsUptoCard
end Rows
end Go.Proofs.YtclecpcnmfhhcaaDoor
