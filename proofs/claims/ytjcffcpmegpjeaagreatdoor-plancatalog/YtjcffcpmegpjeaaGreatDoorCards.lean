/-
  DERIVED. GIVEN WITH THE SEED: THE CARDS: each row of YtjcffcpmegpjeaaGreatDoorRows.lean that lists a variable, with what it lists TIED to the program's text (the seventh form; the later family's looks); each row that meets fmt, with fmt's text TOLD by the authors' own Lean function (tested against real Go, not proved from fmt's source: count such statements apart). THE CARD IS WHAT COUNTS. Prove the row's statement (the work); the ties are given (YtjcffcpmegpjeaaGreatDoorTie.lean); close each card by the builder's one call (the guide's Derived/Test/ToyasCard.lean, 'card_holds'). Laid BY PROGRAM, IN A SANDBOX (cutbox-door.mjs). By AI agents, Wed Nov 11 2026. No macro, syntax, notation, axiom, sorry.
-/
import Derived.Test.YtjcffcpmegpjeaaGreatDoorRows
import GoSem.ClaimSeven
namespace Go.Proofs.YtjcffcpmegpjeaaGreatDoor
namespace Rows

/-- THE TIED CARD OF 'stratalaw16.PlanRows'. -/
def planRowsCard : Claim7 := { stood := { row := planRowsRow, standIns := [], harness := (true, "63d791c4fe0dce21887d17606e8eaf314609cdddf4a979e4a55583da1fee1ad8"), looks := true }, kinds := [], alts := [], laidByText := true, laidKinds := [.handle], laidTests := true, laidLooks := .later }
def PlanRowsCardSaid : Prop := Claim7.holds Tryz.pinned (.plain (OpenSpec.ofChange planRowsSpec)) planRowsCard

/-- THE TIED CARD OF 'stratalaw16.PlanPairs'. -/
def planPairsCard : Claim7 := { stood := { row := planPairsRow, standIns := [], harness := (true, "63d791c4fe0dce21887d17606e8eaf314609cdddf4a979e4a55583da1fee1ad8"), looks := true }, kinds := [], alts := [], laidByText := true, laidKinds := [.handle], laidTests := true, laidLooks := .later }
def PlanPairsCardSaid : Prop := Claim7.holds Tryz.pinned (.plain (OpenSpec.ofChange planPairsSpec)) planPairsCard

/-- THE TIED CARD OF 'stratalaw16.PlanTables'. -/
def planTablesCard : Claim7 := { stood := { row := planTablesRow, standIns := [], harness := (true, "63d791c4fe0dce21887d17606e8eaf314609cdddf4a979e4a55583da1fee1ad8"), looks := true }, kinds := [], alts := [], laidByText := true, laidKinds := [.handle], laidTests := true, laidLooks := .later }
def PlanTablesCardSaid : Prop := Claim7.holds Tryz.pinned (.plain (OpenSpec.ofChange planTablesSpec)) planTablesCard

/-- THE TIED CARD OF 'stratalaw16.PlanCatalog'. -/
def planCatalogCard : Claim7 := { stood := { row := planCatalogRow, standIns := [], harness := (true, "63d791c4fe0dce21887d17606e8eaf314609cdddf4a979e4a55583da1fee1ad8"), looks := true }, kinds := [], alts := [], laidByText := true, laidKinds := [.handle], laidTests := true, laidLooks := .later }
def PlanCatalogCardSaid : Prop := Claim7.holds Tryz.pinned (.plain (OpenSpec.ofChange planCatalogSpec)) planCatalogCard

/-- THE SECOND FORM's CARD OF 'stratalaw16.PlanRows'. -/
def planRowsUptoCard : Claim7 := { stood := { row := planRowsUptoRow, standIns := [], harness := (true, "63d791c4fe0dce21887d17606e8eaf314609cdddf4a979e4a55583da1fee1ad8"), looks := true }, kinds := [], alts := [], laidByText := true, laidKinds := [.handle], laidTests := true, laidLooks := .later }
def PlanRowsUptoCardSaid : Prop := Claim7.holds Tryz.pinned (.plain (OpenSpec.upto planRowsSpec)) planRowsUptoCard

/-- THE SECOND FORM's CARD OF 'stratalaw16.PlanPairs'. -/
def planPairsUptoCard : Claim7 := { stood := { row := planPairsUptoRow, standIns := [], harness := (true, "63d791c4fe0dce21887d17606e8eaf314609cdddf4a979e4a55583da1fee1ad8"), looks := true }, kinds := [], alts := [], laidByText := true, laidKinds := [.handle], laidTests := true, laidLooks := .later }
def PlanPairsUptoCardSaid : Prop := Claim7.holds Tryz.pinned (.plain (OpenSpec.upto planPairsSpec)) planPairsUptoCard

/-- THE SECOND FORM's CARD OF 'stratalaw16.PlanTables'. -/
def planTablesUptoCard : Claim7 := { stood := { row := planTablesUptoRow, standIns := [], harness := (true, "63d791c4fe0dce21887d17606e8eaf314609cdddf4a979e4a55583da1fee1ad8"), looks := true }, kinds := [], alts := [], laidByText := true, laidKinds := [.handle], laidTests := true, laidLooks := .later }
def PlanTablesUptoCardSaid : Prop := Claim7.holds Tryz.pinned (.plain (OpenSpec.upto planTablesSpec)) planTablesUptoCard

/-- THE SECOND FORM's CARD OF 'stratalaw16.PlanCatalog'. -/
def planCatalogUptoCard : Claim7 := { stood := { row := planCatalogUptoRow, standIns := [], harness := (true, "63d791c4fe0dce21887d17606e8eaf314609cdddf4a979e4a55583da1fee1ad8"), looks := true }, kinds := [], alts := [], laidByText := true, laidKinds := [.handle], laidTests := true, laidLooks := .later }
def PlanCatalogUptoCardSaid : Prop := Claim7.holds Tryz.pinned (.plain (OpenSpec.upto planCatalogSpec)) planCatalogUptoCard
end Rows
end Go.Proofs.YtjcffcpmegpjeaaGreatDoor
