import Derived.Test.YtbfjnidpjmhfiaaGreatDoorCrc5
namespace Go.Proofs.YtbfjnidpjmhfiaaGreatDoor
open Go.ChangeShapes Go.WideShapes Go.ChangeAt Go.RowKit
set_option linter.unusedVariables false

def crZ : List Int := crT.map Int.ofNat
theorem halfAt_of {w : World} (h : ∀ j, j < crZ.length → w.cell? ⟨0, j, none⟩ = some (.int .u32 (crZ.getD j 0))) : HalfAt w := by
  intro j hj
  rw [h j (by simpa [crZ, crT] using hj)]
  have hl : j < crT.length := by simpa [crT] using hj
  simp [crZ, crT_of, List.getElem?_eq_getElem hl]
end Go.Proofs.YtbfjnidpjmhfiaaGreatDoor
