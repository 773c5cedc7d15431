/-
  DERIVED. GIVEN WITH THE SEED: THE CARDS: each row of YtpmmlpfnknbonaaGreatDoorRows.lean that lists a variable, with what it lists TIED to the program's text (the seventh form; the later family's looks); each row that meets fmt, with fmt's text TOLD by the authors' own Lean function (tested against real Go, not proved from fmt's source: count such statements apart). THE CARD IS WHAT COUNTS. Prove the row's statement (the work); the ties are given (YtpmmlpfnknbonaaGreatDoorTie.lean); close each card by the builder's one call (the guide's Derived/Test/ToyasCard.lean, 'card_holds'). Laid BY PROGRAM, IN A SANDBOX (cutbox-door.mjs). By AI agents, Wed Nov 11 2026. No macro, syntax, notation, axiom, sorry.
-/
import Derived.Test.YtpmmlpfnknbonaaGreatDoorRows
import GoSem.ClaimSeven
namespace Go.Proofs.YtpmmlpfnknbonaaGreatDoor
namespace Rows

/-- THE TIED CARD OF 'stratalaw13.ReviveUnmade'. -/
def reviveUnmadeCard : Claim7 := { stood := { row := reviveUnmadeRow, standIns := [], harness := (true, "0ff80843074f617779c388d24ee861506d545fca774f5330067b70ec8cff9d7d"), looks := true }, kinds := [], alts := [], goes := true, laidByText := true, laidKinds := [.data, .data, .data, .data, .data, .data, .pinned], laidTests := true, laidLooks := .later }
def ReviveUnmadeCardSaid : Prop := Claim7.holds Tryz.pinned (.plain (OpenSpec.ofChange reviveUnmadeSpec)) reviveUnmadeCard

/-- THE TIED CARD OF 'stratalaw13.ReviveNil'. -/
def reviveNilCard : Claim7 := { stood := { row := reviveNilRow, standIns := [], harness := (true, "0ff80843074f617779c388d24ee861506d545fca774f5330067b70ec8cff9d7d"), looks := true }, kinds := [], alts := [], goes := true, laidByText := true, laidKinds := [.data, .data, .data, .data, .data, .data, .pinned], laidTests := true, laidLooks := .later }
def ReviveNilCardSaid : Prop := Claim7.holds Tryz.pinned (.plain (OpenSpec.ofChange reviveNilSpec)) reviveNilCard

/-- THE SECOND FORM's CARD OF 'stratalaw13.ReviveUnmade'. -/
def reviveUnmadeUptoCard : Claim7 := { stood := { row := reviveUnmadeUptoRow, standIns := [], harness := (true, "0ff80843074f617779c388d24ee861506d545fca774f5330067b70ec8cff9d7d"), looks := true }, kinds := [], alts := [], goes := true, laidByText := true, laidKinds := [.data, .data, .data, .data, .data, .data, .pinned], laidTests := true, laidLooks := .later }
def ReviveUnmadeUptoCardSaid : Prop := Claim7.holds Tryz.pinned (.plain (OpenSpec.upto reviveUnmadeSpec)) reviveUnmadeUptoCard

/-- THE SECOND FORM's CARD OF 'stratalaw13.ReviveNil'. -/
def reviveNilUptoCard : Claim7 := { stood := { row := reviveNilUptoRow, standIns := [], harness := (true, "0ff80843074f617779c388d24ee861506d545fca774f5330067b70ec8cff9d7d"), looks := true }, kinds := [], alts := [], goes := true, laidByText := true, laidKinds := [.data, .data, .data, .data, .data, .data, .pinned], laidTests := true, laidLooks := .later }
def ReviveNilUptoCardSaid : Prop := Claim7.holds Tryz.pinned (.plain (OpenSpec.upto reviveNilSpec)) reviveNilUptoCard
end Rows
end Go.Proofs.YtpmmlpfnknbonaaGreatDoor
