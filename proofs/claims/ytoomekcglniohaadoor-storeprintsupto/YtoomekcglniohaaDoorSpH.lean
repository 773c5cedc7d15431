import Derived.Test.YtoomekcglniohaaDoorSpG
import Derived.Shelf.Strings.BuilderK
namespace Go.Proofs.YtoomekcglniohaaDoor
open Go.ChangeShapes Go.WideShapes Go.ChangeAt Go.RowKit
set_option linter.unusedVariables false
set_option maxRecDepth 100000
/-- The builder in block b holds the bytes l; its row lies from B on. -/
def Bl (w : World) (B b : Nat) (l : List UInt8) : Prop := Lib.IsBuilderF 46 5 B b (Lib.byteCells l) w
theorem BuilderAtF_keep {T e : TypeId} {B b : Nat} {p : Value} {bs : List Value} {w w' : World} (h : Lib.BuilderAtF T e B b p bs w) (hb : Below w.heap.size w w') : Lib.BuilderAtF T e B b p bs w' := by
  obtain ⟨h1, v, h2, h3, h4⟩ := h
  have hbl : b < w.heap.size := (Array.getElem?_eq_some_iff.1 h2).1
  refine ⟨h1, v, (hb.block b hbl).trans h2, ?_, h4⟩
  rcases h3 with ⟨e1, e2⟩
  refine ⟨e1, ?_⟩
  rcases e2 with e2 | ⟨g, cap, cur, fz, x1, x2, x3, x4⟩
  · exact .inl e2
  · exact .inr ⟨g, cap, cur, fz, x1, x2, (hb.block g (Array.getElem?_eq_some_iff.1 x3).1).trans x3, x4⟩
theorem Bl.next {w w' : World} {B b : Nat} {l : List UInt8} (h : Bl w B b l) (hb : Below w.heap.size w w') : Bl w' B b l := by
  rcases h with h | h
  · exact .inl (BuilderAtF_keep h hb)
  · exact .inr (BuilderAtF_keep h hb)
theorem Bl.lt {w : World} {B b : Nat} {l : List UInt8} (h : Bl w B b l) : B ≤ b ∧ b < w.heap.size := by
  rcases h with ⟨h1, v, h2, _⟩ | ⟨h1, v, h2, _⟩
  · exact ⟨h1, (Array.getElem?_eq_some_iff.1 h2).1⟩
  · exact ⟨h1, (Array.getElem?_eq_some_iff.1 h2).1⟩
theorem byteCells_len (l : List UInt8) : (Lib.byteCells l).length = l.length := by unfold Lib.byteCells; simp
theorem byteCells_app (l : List UInt8) (s : ByteArray) : Lib.byteCells l ++ Lib.strCells s = Lib.byteCells (l ++ s.data.toList) := by
  unfold Lib.byteCells Lib.strCells
  simp
theorem writeT (B b : Nat) (l : List UInt8) (s : ByteArray) (w : World) (h : Bl w B b l) (hlen : l.length + s.size ≤ 140737488355328) (hBw : B ≤ w.heap.size) :
    Calls Tryd.prog 15 #[.pointer (some ⟨b, 0, none⟩), .string s] w fun e w' => e = .returned (.tuple #[.int .i64 s.size, .nilIface]) ∧ Bl w' B b (l ++ s.data.toList) ∧ Below B w w' ∧ Lib.OthersKept 5 (some b) w w' := by
  refine (Any.Builder_WriteString_k { Tryd.lays156 with } Tryd.Builder_Extra_156 B b (Lib.byteCells l) s w h (by rw [byteCells_len]; exact hlen) hBw).mono ?_
  rintro e w' ⟨rfl, h1, h2, h3⟩
  refine ⟨rfl, .inr ?_, h2, h3⟩
  rw [← byteCells_app]
  exact h1
theorem stringT (B b : Nat) (l : List UInt8) (w : World) (h : Bl w B b l) (hBw : B ≤ w.heap.size) :
    Calls Tryd.prog 9 #[.pointer (some ⟨b, 0, none⟩)] w fun e w' => e = .returned (.string (tx l)) ∧ Below B w w' := by
  refine (Any.Builder_String_any_k Tryd.lays169 Tryd.Builder_Extra_169 B b l w h hBw).mono ?_
  rintro e w' ⟨rfl, h1, h2, h3⟩
  exact ⟨rfl, h2⟩
/-- What stands while a reply is written: the builder's bytes, the reply's own box. -/
structure PrS (w W : World) (B b : Nat) (c : Array Value) (l : List UInt8) : Prop where
  bel : Below B w W
  bl : Bl W B b l
  bx : W.heap[w.heap.size]? = some (.cells c 32)
theorem PrS.lt {w W : World} {B b : Nat} {c : Array Value} {l : List UInt8} (h : PrS w W B b c l) : w.heap.size < W.heap.size := (Array.getElem?_eq_some_iff.1 h.bx).1
theorem PrS.drew {w W : World} {B b : Nat} {c : Array Value} {l : List UInt8} (h : PrS w W B b c l) : PrS w W.drew B b c l := ⟨h.bel.drew, h.bl, h.bx⟩
theorem PrS.call {w W W' : World} {B b : Nat} {c : Array Value} {l : List UInt8} (h : PrS w W B b c l) (hB : B ≤ w.heap.size) (hb : Below W.heap.size W W') : PrS w W' B b c l :=
  ⟨h.bel.trans (hb.mono (by have := h.bel.size; omega)), h.bl.next hb, (hb.block _ h.lt).trans h.bx⟩
theorem PrS.wrote {w W W' : World} {B b : Nat} {c : Array Value} {l l' : List UInt8} (h : PrS w W B b c l) (hb : b < w.heap.size) (h1 : Bl W' B b l') (h2 : Below B W W') (h3 : Lib.OthersKept 5 (some b) W W') : PrS w W' B b c l' :=
  ⟨h.bel.trans h2, h1, h3 _ _ h.bx (by intro e; injection e with e; omega) (by intro c fz e; injection e with e1 e2 e3; cases e2)⟩
theorem PrS.cell {w W : World} {B b : Nat} {c : Array Value} {l : List UInt8} (h : PrS w W B b c l) (i : Nat) : W.cell? ⟨w.heap.size, i, none⟩ = c[i]? := by
  have := h.bx
  unfold World.cell?
  rw [this]
  rfl
theorem PrS.gw {w W : World} {B b : Nat} {c : Array Value} {l : List UInt8} (h : PrS w W B b c l) (hg : GW w) (hB : 2 ≤ B) : GW W := hg.later h.bel hB
theorem PrS.le {w W : World} {B b : Nat} {c : Array Value} {l : List UInt8} (h : PrS w W B b c l) (hB : B ≤ w.heap.size) : B ≤ W.heap.size := by have := h.bel.size; omega
theorem flat_take {α : Type} (f : α → List UInt8) (xs : List α) (k : Nat) (h : k < xs.length) : (xs.take (k + 1)).flatMap f = (xs.take k).flatMap f ++ f xs[k] := by
  rw [List.take_succ_eq_append_getElem h, List.flatMap_append]
  simp
theorem flat_take_le {α : Type} (f : α → List UInt8) (xs : List α) (k : Nat) : ((xs.take k).flatMap f).length ≤ (xs.flatMap f).length := by
  have : xs.flatMap f = (xs.take k).flatMap f ++ (xs.drop k).flatMap f := by rw [← List.flatMap_append, List.take_append_drop]
  rw [this, List.length_append]
  omega
end Go.Proofs.YtoomekcglniohaaDoor
