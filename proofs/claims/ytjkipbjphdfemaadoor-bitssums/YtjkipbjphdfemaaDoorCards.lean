/-
  DERIVED. GIVEN WITH THE SEED: THE CARDS: each row of YtjkipbjphdfemaaDoorRows.lean that lists a variable, with what it lists TIED to the program's text (the seventh form; the later family's looks); each row that meets fmt, with fmt's text TOLD by the authors' own Lean function (tested against real Go, not proved from fmt's source: count such statements apart). THE CARD IS WHAT COUNTS. Prove the row's statement (the work); the ties are given (YtjkipbjphdfemaaDoorTie.lean); close each card by the builder's one call (the guide's Derived/Test/ToyasCard.lean, 'card_holds'). Laid BY PROGRAM, IN A SANDBOX (cutbox-door.mjs). By AI agents, Wed Nov 11 2026. No macro, syntax, notation, axiom, sorry.
-/
import Derived.Test.YtjkipbjphdfemaaDoorRows
import GoSem.ClaimSeven
namespace Go.Proofs.YtjkipbjphdfemaaDoor
namespace Rows

/-- THE TIED CARD OF 'stratalaw01.BitsTold'. -/
def bitsToldCard : Claim7 := { stood := { row := bitsToldRow, standIns := [], harness := (true, "17a90f2395454fe61861257c6fc760c0572c2cc2a6ffae963f1c300236cbad94"), looks := false }, kinds := [], alts := [], laidByText := true, laidKinds := [.data], laidTests := true, laidLooks := .later }
def BitsToldCardSaid : Prop := Claim7.holds Tryd.pinned (.plain (OpenSpec.ofChange bitsToldSpec)) bitsToldCard

/-- THE TIED CARD OF 'stratalaw01.BitsJoined'. -/
def bitsJoinedCard : Claim7 := { stood := { row := bitsJoinedRow, standIns := [], harness := (true, "17a90f2395454fe61861257c6fc760c0572c2cc2a6ffae963f1c300236cbad94"), looks := false }, kinds := [], alts := [], laidByText := true, laidKinds := [.data], laidTests := true, laidLooks := .later }
def BitsJoinedCardSaid : Prop := Claim7.holds Tryd.pinned (.plain (OpenSpec.ofChange bitsJoinedSpec)) bitsJoinedCard

/-- THE TIED CARD OF 'stratalaw01.BitsSums'. -/
def bitsSumsCard : Claim7 := { stood := { row := bitsSumsRow, standIns := [], harness := (true, "17a90f2395454fe61861257c6fc760c0572c2cc2a6ffae963f1c300236cbad94"), looks := false }, kinds := [], alts := [], laidByText := true, laidKinds := [.data], laidTests := true, laidLooks := .later }
def BitsSumsCardSaid : Prop := Claim7.holds Tryd.pinned (.plain (OpenSpec.ofChange bitsSumsSpec)) bitsSumsCard

/-- THE SECOND FORM's CARD OF 'stratalaw01.BitsTold'. -/
def bitsToldUptoCard : Claim7 := { stood := { row := bitsToldUptoRow, standIns := [], harness := (true, "17a90f2395454fe61861257c6fc760c0572c2cc2a6ffae963f1c300236cbad94"), looks := false }, kinds := [], alts := [], laidByText := true, laidKinds := [.data], laidTests := true, laidLooks := .later }
def BitsToldUptoCardSaid : Prop := Claim7.holds Tryd.pinned (.plain (OpenSpec.upto bitsToldSpec)) bitsToldUptoCard

/-- THE SECOND FORM's CARD OF 'stratalaw01.BitsJoined'. -/
def bitsJoinedUptoCard : Claim7 := { stood := { row := bitsJoinedUptoRow, standIns := [], harness := (true, "17a90f2395454fe61861257c6fc760c0572c2cc2a6ffae963f1c300236cbad94"), looks := false }, kinds := [], alts := [], laidByText := true, laidKinds := [.data], laidTests := true, laidLooks := .later }
def BitsJoinedUptoCardSaid : Prop := Claim7.holds Tryd.pinned (.plain (OpenSpec.upto bitsJoinedSpec)) bitsJoinedUptoCard

/-- THE SECOND FORM's CARD OF 'stratalaw01.BitsSums'. -/
def bitsSumsUptoCard : Claim7 := { stood := { row := bitsSumsUptoRow, standIns := [], harness := (true, "17a90f2395454fe61861257c6fc760c0572c2cc2a6ffae963f1c300236cbad94"), looks := false }, kinds := [], alts := [], laidByText := true, laidKinds := [.data], laidTests := true, laidLooks := .later }
def BitsSumsUptoCardSaid : Prop := Claim7.holds Tryd.pinned (.plain (OpenSpec.upto bitsSumsSpec)) bitsSumsUptoCard
end Rows
end Go.Proofs.YtjkipbjphdfemaaDoor
