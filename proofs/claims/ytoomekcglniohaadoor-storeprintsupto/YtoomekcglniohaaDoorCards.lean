/-
  DERIVED. GIVEN WITH THE SEED: THE CARDS: each row of YtoomekcglniohaaDoorRows.lean that lists a variable, with what it lists TIED to the program's text (the seventh form; the later family's looks); each row that meets fmt, with fmt's text TOLD by the authors' own Lean function (tested against real Go, not proved from fmt's source: count such statements apart). THE CARD IS WHAT COUNTS. Prove the row's statement (the work); the ties are given (YtoomekcglniohaaDoorTie.lean); close each card by the builder's one call (the guide's Derived/Test/ToyasCard.lean, 'card_holds'). Laid BY PROGRAM, IN A SANDBOX (cutbox-door.mjs). By AI agents, Wed Nov 11 2026. No macro, syntax, notation, axiom, sorry.
-/
import Derived.Test.YtoomekcglniohaaDoorRows
import GoSem.ClaimSeven
namespace Go.Proofs.YtoomekcglniohaaDoor
namespace Rows

/-- THE TIED CARD OF 'stratalaw17.StorePrints'. -/
def storePrintsCard : Claim7 := { stood := { row := storePrintsRow, standIns := [], harness := (true, "4b94b4232a59c93aa03850d043b67a9d0caefbc1a8d15f4d269a4e6871385266"), looks := false }, kinds := [], alts := [], laidByText := true, laidKinds := [.data, .data, .data, .data, .pinned], laidTests := true, laidLooks := .later }
def StorePrintsCardSaid : Prop := Claim7.holds Tryd.pinned (.plain (OpenSpec.ofChange storePrintsSpec)) storePrintsCard

/-- THE SECOND FORM's CARD OF 'stratalaw17.StorePrints'. -/
def storePrintsUptoCard : Claim7 := { stood := { row := storePrintsUptoRow, standIns := [], harness := (true, "4b94b4232a59c93aa03850d043b67a9d0caefbc1a8d15f4d269a4e6871385266"), looks := false }, kinds := [], alts := [], laidByText := true, laidKinds := [.data, .data, .data, .data, .pinned], laidTests := true, laidLooks := .later }
def StorePrintsUptoCardSaid : Prop := Claim7.holds Tryd.pinned (.plain (OpenSpec.upto storePrintsSpec)) storePrintsUptoCard
end Rows
end Go.Proofs.YtoomekcglniohaaDoor
