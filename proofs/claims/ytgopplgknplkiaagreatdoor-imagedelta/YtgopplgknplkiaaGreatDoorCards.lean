/-
  DERIVED. GIVEN WITH THE SEED: THE CARDS: each row of YtgopplgknplkiaaGreatDoorRows.lean that lists a variable, with what it lists TIED to the program's text (the seventh form; the later family's looks); each row that meets fmt, with fmt's text TOLD by the authors' own Lean function (tested against real Go, not proved from fmt's source: count such statements apart). THE CARD IS WHAT COUNTS. Prove the row's statement (the work); the ties are given (YtgopplgknplkiaaGreatDoorTie.lean); close each card by the builder's one call (the guide's Derived/Test/ToyasCard.lean, 'card_holds'). Laid BY PROGRAM, IN A SANDBOX (cutbox-door.mjs). By AI agents, Wed Nov 11 2026. No macro, syntax, notation, axiom, sorry.
-/
import Derived.Test.YtgopplgknplkiaaGreatDoorRows
import GoSem.ClaimSeven
namespace Go.Proofs.YtgopplgknplkiaaGreatDoor
namespace Rows

/-- THE TIED CARD OF 'stratalaw12.ImageDelta'. -/
def imageDeltaCard : Claim7 := { stood := { row := imageDeltaRow, standIns := [], harness := (true, "dba9cad6c58f7158a98739dec1b003d58921fad4486d6a5d3bd513b23246ffef"), looks := true }, kinds := [], alts := [], laidByText := true, laidKinds := [.data], laidTests := true, laidLooks := .later }
def ImageDeltaCardSaid : Prop := Claim7.holds Tryz.pinned (.plain (OpenSpec.ofChange imageDeltaSpec)) imageDeltaCard

/-- THE SECOND FORM's CARD OF 'stratalaw12.ImageDelta'. -/
def imageDeltaUptoCard : Claim7 := { stood := { row := imageDeltaUptoRow, standIns := [], harness := (true, "dba9cad6c58f7158a98739dec1b003d58921fad4486d6a5d3bd513b23246ffef"), looks := true }, kinds := [], alts := [], laidByText := true, laidKinds := [.data], laidTests := true, laidLooks := .later }
def ImageDeltaUptoCardSaid : Prop := Claim7.holds Tryz.pinned (.plain (OpenSpec.upto imageDeltaSpec)) imageDeltaUptoCard
end Rows
end Go.Proofs.YtgopplgknplkiaaGreatDoor
