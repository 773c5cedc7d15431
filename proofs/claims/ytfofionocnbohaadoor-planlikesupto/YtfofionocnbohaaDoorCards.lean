/-
  DERIVED. GIVEN WITH THE SEED: THE CARDS: each row of YtfofionocnbohaaDoorRows.lean that lists a variable, with what it lists TIED to the program's text (the seventh form; the later family's looks); each row that meets fmt, with fmt's text TOLD by the authors' own Lean function (tested against real Go, not proved from fmt's source: count such statements apart). THE CARD IS WHAT COUNTS. Prove the row's statement (the work); the ties are given (YtfofionocnbohaaDoorTie.lean); close each card by the builder's one call (the guide's Derived/Test/ToyasCard.lean, 'card_holds'). Laid BY PROGRAM, IN A SANDBOX (cutbox-door.mjs). By AI agents, Wed Nov 11 2026. No macro, syntax, notation, axiom, sorry.
-/
import Derived.Test.YtfofionocnbohaaDoorRows
import GoSem.ClaimSeven
namespace Go.Proofs.YtfofionocnbohaaDoor
namespace Rows

/-- THE TIED CARD OF 'stratalaw16.PlanLikes'. -/
def planLikesCard : Claim7 := { stood := { row := planLikesRow, standIns := [], harness := (true, "b21a2ce6aa8441489dd866c0ad805fef1f00d9a1a0e9cb3bf7ea927cdac70a72"), looks := false }, kinds := [], alts := [], laidByText := true, laidKinds := [.data, .pinned], laidTests := true, laidLooks := .later }
def PlanLikesCardSaid : Prop := Claim7.holds Tryd.pinned (.plain (OpenSpec.ofChange planLikesSpec)) planLikesCard

/-- THE SECOND FORM's CARD OF 'stratalaw16.PlanLikes'. -/
def planLikesUptoCard : Claim7 := { stood := { row := planLikesUptoRow, standIns := [], harness := (true, "b21a2ce6aa8441489dd866c0ad805fef1f00d9a1a0e9cb3bf7ea927cdac70a72"), looks := false }, kinds := [], alts := [], laidByText := true, laidKinds := [.data, .pinned], laidTests := true, laidLooks := .later }
def PlanLikesUptoCardSaid : Prop := Claim7.holds Tryd.pinned (.plain (OpenSpec.upto planLikesSpec)) planLikesUptoCard
end Rows
end Go.Proofs.YtfofionocnbohaaDoor
