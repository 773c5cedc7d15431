import Derived.Test.YtfabgoanammaiaaRows5
namespace Go.Proofs.Ytfabgoanammaiaa
open Go.ChangeShapes Go.WideShapes Go.ChangeAt Go.RowKit
set_option linter.unusedVariables false

/-- The bytes of a value in a row. -/
def rowV (v : Int × Int × ByteArray) : List Int := if v.1 = 0 then [] else if v.1 = 1 then [v.2.1] else if v.1 = 2 then uvB (svV v.2.1) else uvB v.2.2.size ++ txt v.2.2
def rowL (vs : List (Int × Int × ByteArray)) : List Int := vs.flatMap rowV
def rowAll (vs : List (Int × Int × ByteArray)) : List Int := (vs.length : Int) :: kbytes vs vs.length ((vs.length + 3) / 4) ++ rowL vs
theorem ownB.raw {w : World} {B n : Nat} {v : Value} {xs : List Int} (h : ownB w B v xs) (hl : xs.length = n) : w.ownsRow B 5 1 v n (xs.map (Value.int .u8)) := by subst hl; exact h
theorem ownB.at {w : World} {B g n cap : Nat} {xs : List Int} (h : ownB w B (.slice (some ⟨g, 0, none⟩) n cap) xs) (hl : xs.length = n) (j : Nat) (hj : j < n) : w.cell? ⟨g, j, none⟩ = some (.int .u8 (xs[j]'(by omega))) := by
  rw [(h.raw hl).cellAt j (by omega), List.getElem?_map, List.getElem?_eq_getElem (by omega)]; rfl
theorem ownB.free {w : World} {B g n cap : Nat} {xs : List Int} (h : ownB w B (.slice (some ⟨g, 0, none⟩) n cap) xs) (hl : xs.length = n) (j : Nat) : w.frozen? ⟨g, j, none⟩ = false := (h.raw hl).frozenAt j
theorem ownB.put {w : World} {B g n cap : Nat} {xs : List Int} (h : ownB w B (.slice (some ⟨g, 0, none⟩) n cap) xs) (hl : xs.length = n) (j : Nat) (c : Int) : ownB (w.setCell ⟨g, j, none⟩ (.int .u8 c)) B (.slice (some ⟨g, 0, none⟩) n cap) (xs.set j c) := by
  have h5 := ((h.raw hl).stored j (.int .u8 c)).1
  rw [← List.map_set] at h5
  unfold ownB
  rw [List.length_set, hl]
  exact h5
end Go.Proofs.Ytfabgoanammaiaa
