/-
  DERIVED. GIVEN WITH THE SEED: THE CARDS: each row of YtlidkdnfibfnfaaGreatDoorRows.lean that lists a variable, with what it lists TIED to the program's text (the seventh form; the later family's looks); each row that meets fmt, with fmt's text TOLD by the authors' own Lean function (tested against real Go, not proved from fmt's source: count such statements apart). THE CARD IS WHAT COUNTS. Prove the row's statement (the work); the ties are given (YtlidkdnfibfnfaaGreatDoorTie.lean); close each card by the builder's one call (the guide's Derived/Test/ToyasCard.lean, 'card_holds'). Laid BY PROGRAM, IN A SANDBOX (cutbox-door.mjs). By AI agents, Wed Nov 11 2026. No macro, syntax, notation, axiom, sorry.
-/
import Derived.Test.YtlidkdnfibfnfaaGreatDoorRows
import GoSem.ClaimSeven
namespace Go.Proofs.YtlidkdnfibfnfaaGreatDoor
namespace Rows

/-- THE TIED CARD OF 'stratalaw15.TongueLexes'. -/
def tongueLexesCard : Claim7 := { stood := { row := tongueLexesRow, standIns := [], harness := (true, "3b67e578ff9cbe52ef13c6e25ffbabafcab8d22d1a3f5beb706591909357d877"), looks := true }, kinds := [], alts := [], laidByText := true, laidKinds := [.data, .data, .data, .data, .sentinel, .sentinel, .data, .data, .pinned, .pinned], laidTests := true, laidLooks := .later }
def TongueLexesCardSaid : Prop := Claim7.holds Tryz.pinned (.plain (OpenSpec.ofChange tongueLexesSpec)) tongueLexesCard

/-- THE SECOND FORM's CARD OF 'stratalaw15.TongueLexes'. -/
def tongueLexesUptoCard : Claim7 := { stood := { row := tongueLexesUptoRow, standIns := [], harness := (true, "3b67e578ff9cbe52ef13c6e25ffbabafcab8d22d1a3f5beb706591909357d877"), looks := true }, kinds := [], alts := [], laidByText := true, laidKinds := [.data, .data, .data, .data, .sentinel, .sentinel, .data, .data, .pinned, .pinned], laidTests := true, laidLooks := .later }
def TongueLexesUptoCardSaid : Prop := Claim7.holds Tryz.pinned (.plain (OpenSpec.upto tongueLexesSpec)) tongueLexesUptoCard
end Rows
end Go.Proofs.YtlidkdnfibfnfaaGreatDoor
