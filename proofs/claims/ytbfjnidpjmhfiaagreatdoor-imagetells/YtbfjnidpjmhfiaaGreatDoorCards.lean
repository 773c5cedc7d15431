/-
  DERIVED. GIVEN WITH THE SEED: THE CARDS: each row of YtbfjnidpjmhfiaaGreatDoorRows.lean that lists a variable, with what it lists TIED to the program's text (the seventh form; the later family's looks); each row that meets fmt, with fmt's text TOLD by the authors' own Lean function (tested against real Go, not proved from fmt's source: count such statements apart). THE CARD IS WHAT COUNTS. Prove the row's statement (the work); the ties are given (YtbfjnidpjmhfiaaGreatDoorTie.lean); close each card by the builder's one call (the guide's Derived/Test/ToyasCard.lean, 'card_holds'). Laid BY PROGRAM, IN A SANDBOX (cutbox-door.mjs). By AI agents, Wed Nov 11 2026. No macro, syntax, notation, axiom, sorry.
-/
import Derived.Test.YtbfjnidpjmhfiaaGreatDoorRows
import GoSem.ClaimSeven
namespace Go.Proofs.YtbfjnidpjmhfiaaGreatDoor
namespace Rows

/-- THE TIED CARD OF 'stratalaw12.ImageTells'. -/
def imageTellsCard : Claim7 := { stood := { row := imageTellsRow, standIns := [], harness := (true, "016bceceb72abd31ad134222a3b0f2c59e4cda599900415f3acfea07fd312afa"), looks := true }, kinds := [], alts := [], laidByText := true, laidKinds := [.data], laidTests := true, laidLooks := .later }
def ImageTellsCardSaid : Prop := Claim7.holds Tryz.pinned (.plain (OpenSpec.ofChange imageTellsSpec)) imageTellsCard

/-- THE TIED CARD OF 'stratalaw12.ImageData'. -/
def imageDataCard : Claim7 := { stood := { row := imageDataRow, standIns := [], harness := (true, "016bceceb72abd31ad134222a3b0f2c59e4cda599900415f3acfea07fd312afa"), looks := true }, kinds := [], alts := [], laidByText := true, laidKinds := [.data], laidTests := true, laidLooks := .later }
def ImageDataCardSaid : Prop := Claim7.holds Tryz.pinned (.plain (OpenSpec.ofChange imageDataSpec)) imageDataCard

/-- THE SECOND FORM's CARD OF 'stratalaw12.ImageTells'. -/
def imageTellsUptoCard : Claim7 := { stood := { row := imageTellsUptoRow, standIns := [], harness := (true, "016bceceb72abd31ad134222a3b0f2c59e4cda599900415f3acfea07fd312afa"), looks := true }, kinds := [], alts := [], laidByText := true, laidKinds := [.data], laidTests := true, laidLooks := .later }
def ImageTellsUptoCardSaid : Prop := Claim7.holds Tryz.pinned (.plain (OpenSpec.upto imageTellsSpec)) imageTellsUptoCard

/-- THE SECOND FORM's CARD OF 'stratalaw12.ImageData'. -/
def imageDataUptoCard : Claim7 := { stood := { row := imageDataUptoRow, standIns := [], harness := (true, "016bceceb72abd31ad134222a3b0f2c59e4cda599900415f3acfea07fd312afa"), looks := true }, kinds := [], alts := [], laidByText := true, laidKinds := [.data], laidTests := true, laidLooks := .later }
def ImageDataUptoCardSaid : Prop := Claim7.holds Tryz.pinned (.plain (OpenSpec.upto imageDataSpec)) imageDataUptoCard
end Rows
end Go.Proofs.YtbfjnidpjmhfiaaGreatDoor
