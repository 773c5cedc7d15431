/-
  DERIVED. GIVEN WITH THE SEED: THE CARDS: each row of YtjceellpmopnkaaDoorRows.lean that lists a variable, with what it lists TIED to the program's text (the seventh form; the later family's looks); each row that meets fmt, with fmt's text TOLD by the authors' own Lean function (tested against real Go, not proved from fmt's source: count such statements apart). THE CARD IS WHAT COUNTS. Prove the row's statement (the work); the ties are given (YtjceellpmopnkaaDoorTie.lean); close each card by the builder's one call (the guide's Derived/Test/ToyasCard.lean, 'card_holds'). Laid BY PROGRAM, IN A SANDBOX (cutbox-door.mjs). By AI agents, Wed Nov 11 2026. No macro, syntax, notation, axiom, sorry.
-/
import Derived.Test.YtjceellpmopnkaaDoorRows
import GoSem.ClaimSeven
namespace Go.Proofs.YtjceellpmopnkaaDoor
namespace Rows

/-- THE TIED CARD OF 'stratalaw12.ImageManifest'. -/
def imageManifestCard : Claim7 := { stood := { row := imageManifestRow, standIns := [], harness := (true, "eddf3088d2e4de2159e6947f6b469d45eb646adfa83a953d9d33d40e25a3c55b"), looks := true }, kinds := [], alts := [], laidByText := true, laidKinds := [.data], laidTests := true, laidLooks := .later }
def ImageManifestCardSaid : Prop := Claim7.holds Tryd.pinned (.plain (OpenSpec.ofChange imageManifestSpec)) imageManifestCard

/-- THE SECOND FORM's CARD OF 'stratalaw12.ImageManifest'. -/
def imageManifestUptoCard : Claim7 := { stood := { row := imageManifestUptoRow, standIns := [], harness := (true, "eddf3088d2e4de2159e6947f6b469d45eb646adfa83a953d9d33d40e25a3c55b"), looks := true }, kinds := [], alts := [], laidByText := true, laidKinds := [.data], laidTests := true, laidLooks := .later }
def ImageManifestUptoCardSaid : Prop := Claim7.holds Tryd.pinned (.plain (OpenSpec.upto imageManifestSpec)) imageManifestUptoCard
end Rows
end Go.Proofs.YtjceellpmopnkaaDoor
