/-
  DERIVED. GIVEN WITH THE SEED: THE CARDS: each row of YtbkaahmkaphfoaaDoorRows.lean that lists a variable, with what it lists TIED to the program's text (the seventh form; the later family's looks); each row that meets fmt, with fmt's text TOLD by the authors' own Lean function (tested against real Go, not proved from fmt's source: count such statements apart). THE CARD IS WHAT COUNTS. Prove the row's statement (the work); the ties are given (YtbkaahmkaphfoaaDoorTie.lean); close each card by the builder's one call (the guide's Derived/Test/ToyasCard.lean, 'card_holds'). Laid BY PROGRAM, IN A SANDBOX (cutbox-door.mjs). By AI agents, Wed Nov 11 2026. No macro, syntax, notation, axiom, sorry.
-/
import Derived.Test.YtbkaahmkaphfoaaDoorRows
import GoSem.ClaimSeven
namespace Go.Proofs.YtbkaahmkaphfoaaDoor
namespace Rows

/-- THE TIED CARD OF 'stratalaw01.BitsTold'. -/
def bitsToldCard : Claim7 := { stood := { row := bitsToldRow, standIns := [], harness := (true, "c2935dff4482314e50e03e72add8a81af4b2c6ffba62459308ba41e15104d65d"), looks := false }, kinds := [], alts := [], laidByText := true, laidKinds := [.data], laidTests := true, laidLooks := .later }
def BitsToldCardSaid : Prop := Claim7.holds Tryd.pinned (.plain (OpenSpec.ofChange bitsToldSpec)) bitsToldCard

/-- THE TIED CARD OF 'stratalaw01.BitsHashes'. -/
def bitsHashesCard : Claim7 := { stood := { row := bitsHashesRow, standIns := [], harness := (true, "c2935dff4482314e50e03e72add8a81af4b2c6ffba62459308ba41e15104d65d"), looks := false }, kinds := [], alts := [], laidByText := true, laidKinds := [.data], laidTests := true, laidLooks := .later }
def BitsHashesCardSaid : Prop := Claim7.holds Tryd.pinned (.plain (OpenSpec.ofChange bitsHashesSpec)) bitsHashesCard

/-- THE SECOND FORM's CARD OF 'stratalaw01.BitsTold'. -/
def bitsToldUptoCard : Claim7 := { stood := { row := bitsToldUptoRow, standIns := [], harness := (true, "c2935dff4482314e50e03e72add8a81af4b2c6ffba62459308ba41e15104d65d"), looks := false }, kinds := [], alts := [], laidByText := true, laidKinds := [.data], laidTests := true, laidLooks := .later }
def BitsToldUptoCardSaid : Prop := Claim7.holds Tryd.pinned (.plain (OpenSpec.upto bitsToldSpec)) bitsToldUptoCard

/-- THE SECOND FORM's CARD OF 'stratalaw01.BitsHashes'. -/
def bitsHashesUptoCard : Claim7 := { stood := { row := bitsHashesUptoRow, standIns := [], harness := (true, "c2935dff4482314e50e03e72add8a81af4b2c6ffba62459308ba41e15104d65d"), looks := false }, kinds := [], alts := [], laidByText := true, laidKinds := [.data], laidTests := true, laidLooks := .later }
def BitsHashesUptoCardSaid : Prop := Claim7.holds Tryd.pinned (.plain (OpenSpec.upto bitsHashesSpec)) bitsHashesUptoCard
end Rows
end Go.Proofs.YtbkaahmkaphfoaaDoor
