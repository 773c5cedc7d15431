/-
  DERIVED. GIVEN WITH THE SEED: THE CARDS: each row of YtlnpeicflofkjaaDoorRows.lean that lists a variable, with what it lists TIED to the program's text (the seventh form; the later family's looks); each row that meets fmt, with fmt's text TOLD by the authors' own Lean function (tested against real Go, not proved from fmt's source: count such statements apart). THE CARD IS WHAT COUNTS. Prove the row's statement (the work); the ties are given (YtlnpeicflofkjaaDoorTie.lean); close each card by the builder's one call (the guide's Derived/Test/ToyasCard.lean, 'card_holds'). Laid BY PROGRAM, IN A SANDBOX (cutbox-door.mjs). By AI agents, Wed Nov 11 2026. No macro, syntax, notation, axiom, sorry.
-/
import Derived.Test.YtlnpeicflofkjaaDoorRows
import GoSem.ClaimSeven
namespace Go.Proofs.YtlnpeicflofkjaaDoor
namespace Rows

/-- THE TIED CARD OF 'stratalaw11.RedoOneByte'. -/
def redoOneByteCard : Claim7 := { stood := { row := redoOneByteRow, standIns := [], harness := (true, "371b5c94d838ace9d702a476cb9192e90ea331bb6384c65e4d342de089c18703"), looks := true }, kinds := [], alts := [], laidByText := true, laidKinds := [.data], laidTests := true, laidLooks := .later }
def RedoOneByteCardSaid : Prop := Claim7.holds Tryd.pinned (.plain (OpenSpec.ofChange redoOneByteSpec)) redoOneByteCard

/-- THE TIED CARD OF 'stratalaw11.RedoFrames'. -/
def redoFramesCard : Claim7 := { stood := { row := redoFramesRow, standIns := [], harness := (true, "371b5c94d838ace9d702a476cb9192e90ea331bb6384c65e4d342de089c18703"), looks := true }, kinds := [], alts := [], laidByText := true, laidKinds := [.data], laidTests := true, laidLooks := .later }
def RedoFramesCardSaid : Prop := Claim7.holds Tryd.pinned (.plain (OpenSpec.ofChange redoFramesSpec)) redoFramesCard

/-- THE SECOND FORM's CARD OF 'stratalaw11.RedoOneByte'. -/
def redoOneByteUptoCard : Claim7 := { stood := { row := redoOneByteUptoRow, standIns := [], harness := (true, "371b5c94d838ace9d702a476cb9192e90ea331bb6384c65e4d342de089c18703"), looks := true }, kinds := [], alts := [], laidByText := true, laidKinds := [.data], laidTests := true, laidLooks := .later }
def RedoOneByteUptoCardSaid : Prop := Claim7.holds Tryd.pinned (.plain (OpenSpec.upto redoOneByteSpec)) redoOneByteUptoCard

/-- THE SECOND FORM's CARD OF 'stratalaw11.RedoFrames'. -/
def redoFramesUptoCard : Claim7 := { stood := { row := redoFramesUptoRow, standIns := [], harness := (true, "371b5c94d838ace9d702a476cb9192e90ea331bb6384c65e4d342de089c18703"), looks := true }, kinds := [], alts := [], laidByText := true, laidKinds := [.data], laidTests := true, laidLooks := .later }
def RedoFramesUptoCardSaid : Prop := Claim7.holds Tryd.pinned (.plain (OpenSpec.upto redoFramesSpec)) redoFramesUptoCard
end Rows
end Go.Proofs.YtlnpeicflofkjaaDoor
