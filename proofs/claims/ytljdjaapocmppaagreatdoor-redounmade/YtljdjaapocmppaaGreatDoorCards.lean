/-
  DERIVED. GIVEN WITH THE SEED: THE CARDS: each row of YtljdjaapocmppaaGreatDoorRows.lean that lists a variable, with what it lists TIED to the program's text (the seventh form; the later family's looks); each row that meets fmt, with fmt's text TOLD by the authors' own Lean function (tested against real Go, not proved from fmt's source: count such statements apart). THE CARD IS WHAT COUNTS. Prove the row's statement (the work); the ties are given (YtljdjaapocmppaaGreatDoorTie.lean); close each card by the builder's one call (the guide's Derived/Test/ToyasCard.lean, 'card_holds'). Laid BY PROGRAM, IN A SANDBOX (cutbox-door.mjs). By AI agents, Wed Nov 11 2026. No macro, syntax, notation, axiom, sorry.
-/
import Derived.Test.YtljdjaapocmppaaGreatDoorRows
import GoSem.ClaimSeven
namespace Go.Proofs.YtljdjaapocmppaaGreatDoor
namespace Rows

/-- THE TIED CARD OF 'stratalaw11.RedoUnmade'. -/
def redoUnmadeCard : Claim7 := { stood := { row := redoUnmadeRow, standIns := [], harness := (true, "e39ffc8508895d0fdd32c59efe03bda4b81425bc07859d5eeaa052a1ba77ac03"), looks := true }, kinds := [], alts := [], laidByText := true, laidKinds := [.data, .data, .data, .data], laidTests := true, laidLooks := .later }
def RedoUnmadeCardSaid : Prop := Claim7.holds Tryz.pinned (.plain (OpenSpec.ofChange redoUnmadeSpec)) redoUnmadeCard

/-- THE TIED CARD OF 'stratalaw11.RedoNil'. -/
def redoNilCard : Claim7 := { stood := { row := redoNilRow, standIns := [], harness := (true, "e39ffc8508895d0fdd32c59efe03bda4b81425bc07859d5eeaa052a1ba77ac03"), looks := true }, kinds := [], alts := [], laidByText := true, laidKinds := [.data, .data, .data, .data], laidTests := true, laidLooks := .later }
def RedoNilCardSaid : Prop := Claim7.holds Tryz.pinned (.plain (OpenSpec.ofChange redoNilSpec)) redoNilCard

/-- THE SECOND FORM's CARD OF 'stratalaw11.RedoUnmade'. -/
def redoUnmadeUptoCard : Claim7 := { stood := { row := redoUnmadeUptoRow, standIns := [], harness := (true, "e39ffc8508895d0fdd32c59efe03bda4b81425bc07859d5eeaa052a1ba77ac03"), looks := true }, kinds := [], alts := [], laidByText := true, laidKinds := [.data, .data, .data, .data], laidTests := true, laidLooks := .later }
def RedoUnmadeUptoCardSaid : Prop := Claim7.holds Tryz.pinned (.plain (OpenSpec.upto redoUnmadeSpec)) redoUnmadeUptoCard

/-- THE SECOND FORM's CARD OF 'stratalaw11.RedoNil'. -/
def redoNilUptoCard : Claim7 := { stood := { row := redoNilUptoRow, standIns := [], harness := (true, "e39ffc8508895d0fdd32c59efe03bda4b81425bc07859d5eeaa052a1ba77ac03"), looks := true }, kinds := [], alts := [], laidByText := true, laidKinds := [.data, .data, .data, .data], laidTests := true, laidLooks := .later }
def RedoNilUptoCardSaid : Prop := Claim7.holds Tryz.pinned (.plain (OpenSpec.upto redoNilSpec)) redoNilUptoCard
end Rows
end Go.Proofs.YtljdjaapocmppaaGreatDoor
