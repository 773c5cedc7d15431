import Derived.Test.YtmolfemcciljjaaRedE1
import Derived.Test.YtmolfemcciljjaaRedR1
namespace Go.Proofs.Ytmolfemcciljjaa
open Go.ChangeShapes Go.WideShapes Go.ChangeAt Go.RowKit
set_option linter.unusedVariables false
set_option maxRecDepth 100000
/-- What stands behind the test of a commit. -/
abbrev RX (n : Nat) (s : Int) (sl : Value) (W1 W : World) : Prop := W.cell? ⟨n, 0, none⟩ = some (.int .u64 s) ∧ W.cell? ⟨n, 1, none⟩ = some sl ∧ Hid (Below (n + 1) W1 W ∧ n + 1 ≤ W.heap.size)
theorem RX.step {n : Nat} {s : Int} {sl : Value} {W1 W W' : World} (hb : Below W.heap.size W W') (h : RX n s sl W1 W) : RX n s sl W1 W' := by
  obtain ⟨c0, c1, H⟩ := h
  have hz : n < W.heap.size := H.out.2
  exact ⟨(hb.cell (p := ⟨n, 0, none⟩) hz).trans c0, (hb.cell (p := ⟨n, 1, none⟩) hz).trans c1, ⟨H.out.1.trans (hb.mono H.out.2), Nat.le_trans H.out.2 hb.size⟩⟩
theorem RX.drew {n : Nat} {s : Int} {sl : Value} {W1 W : World} (h : RX n s sl W1 W) : RX n s sl W1 W.drew := RX.step (Below.refl _ _).drew h
theorem RX.out {n : Nat} {s : Int} {sl : Value} {W1 W : World} (h : RX n s sl W1 W) : Below (n + 1) W1 W ∧ n + 1 ≤ W.heap.size := h.2.2
theorem RX.mk {n : Nat} {s : Int} {sl : Value} {W1 W : World} (hb : Below (n + 1) W1 W) (hz : n + 1 ≤ W.heap.size) (c0 : W.cell? ⟨n, 0, none⟩ = some (.int .u64 s)) (c1 : W.cell? ⟨n, 1, none⟩ = some sl) : RX n s sl W1 W := ⟨c0, c1, ⟨hb, hz⟩⟩
theorem add_nums {P : Program} (xs ys : List Int) (h : xs.length + ys.length ≤ 9223372036854775807) (w : World) : (Op.stringOp .add (strOfNums xs) (strOfNums ys)).run P w = .ok (.string (strOfNums (xs ++ ys))) w := by
  rw [strApp]
  exact run_string_add_sum w _ _ (by rw [strOfNums_size, strOfNums_size]; exact h)
/-- A write in its block. -/
structure Bk (W1 : World) (n : Nat) (W : World) (g : Nat) (p : W3) : Prop where
  blk : W.heap[g]? = some (.cells #[.int .i64 p.1, .string p.2.1, .string p.2.2] 47)
  bel : Below (n + 1) W1 W
  ge : n + 1 ≤ W.heap.size
theorem Bk.step {W1 : World} {n : Nat} {W W' : World} {g : Nat} {p : W3} (h : Bk W1 n W g p) (hb : Below W.heap.size W W') : Bk W1 n W' g p :=
  ⟨(hb.block g (Array.getElem?_eq_some_iff.1 h.blk).1).trans h.blk, h.bel.trans (hb.mono h.ge), Nat.le_trans h.ge hb.size⟩
theorem Bk.c {W1 : World} {n : Nat} {W : World} {g : Nat} {p : W3} (h : Bk W1 n W g p) : W.cell? ⟨g, 0, none⟩ = some (.int .i64 p.1) ∧ W.cell? ⟨g, 1, none⟩ = some (.string p.2.1) ∧ W.cell? ⟨g, 2, none⟩ = some (.string p.2.2) := ⟨(cellWH h.blk 0).trans rfl, (cellWH h.blk 1).trans rfl, (cellWH h.blk 2).trans rfl⟩
end Go.Proofs.Ytmolfemcciljjaa
