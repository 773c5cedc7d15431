import Derived.Test.YtbfjnidpjmhfiaaGreatDoorDe1
import Derived.OwnWalk
import Derived.Laws.OwnMore
import Derived.Laws.Rows
namespace Go.Proofs.YtbfjnidpjmhfiaaGreatDoor
open Go.ChangeShapes Go.WideShapes Go.ChangeAt Go.RowKit
set_option linter.unusedVariables false
set_option maxRecDepth 100000
/-- An erasure lies in three cells. -/
structure ErAt (w : World) (b o : Nat) (p : ER) : Prop where
  c0 : w.cell? ⟨b, o, none⟩ = some (.int .u64 p.beg)
  c1 : w.cell? ⟨b, o + 1, none⟩ = some (.int .u64 p.fin)
  c2 : w.cell? ⟨b, o + 2, none⟩ = some (.string p.key)
theorem ErAt.later {w w' : World} {B b o : Nat} {p : ER} (h : ErAt w b o p) (hb : Below B w w') (hB : b < B) : ErAt w' b o p :=
  ⟨(hb.cell hB).trans h.c0, (hb.cell hB).trans h.c1, (hb.cell hB).trans h.c2⟩
/-- The erasures ps lie at ao, in blocks below B. -/
def SeesE (w : World) (B : Nat) (ao : Option Addr) (ps : List ER) : Prop := ∀ i (hi : i < ps.length), ∃ b off, ao = some ⟨b, off, none⟩ ∧ b < B ∧ ErAt w b (off + i * 3) ps[i]
theorem SeesE.later {w w' : World} {B : Nat} {ao : Option Addr} {ps : List ER} (h : SeesE w B ao ps) (hb : Below B w w') : SeesE w' B ao ps := fun i hi => by
  obtain ⟨b, off, e, hbB, c⟩ := h i hi
  exact ⟨b, off, e, hbB, c.later hb hbB⟩
/-- A pair of files in a block of its own. -/
def Fp6 (W : World) (g : Nat) (a b c d e f : Value) : Prop := W.heap[g]? = some (.cells #[a, b, c, d, e, f] 26 (0, 0))
theorem Fp6.cell {W : World} {g : Nat} {a b c d e f : Value} (h : Fp6 W g a b c d e f) (j : Nat) : W.cell? ⟨g, j, none⟩ = (#[a, b, c, d, e, f] : Array Value)[j]? := cells_at h j
theorem Fp6.free {W : World} {g : Nat} {a b c d e f : Value} (h : Fp6 W g a b c d e f) (j : Nat) : W.frozen? ⟨g, j, none⟩ = false := by
  unfold Fp6 at h
  simp [World.frozen?, h]
theorem Fp6.lt {W : World} {g : Nat} {a b c d e f : Value} (h : Fp6 W g a b c d e f) : g < W.heap.size := (Array.getElem?_eq_some_iff.1 h).1
theorem Fp6.later {W W' : World} {B g : Nat} {a b c d e f : Value} (h : Fp6 W g a b c d e f) (hb : Below B W W') (hB : g < B) : Fp6 W' g a b c d e f := (hb.block g hB).trans h
end Go.Proofs.YtbfjnidpjmhfiaaGreatDoor
