import Derived.Test.YtngkooonfldphaaGreatDoorIntRow
namespace Go.Proofs.YtngkooonfldphaaGreatDoor
open Go.ChangeShapes Go.WideShapes Go.ChangeAt Go.RowKit
set_option linter.unusedVariables false
set_option maxRecDepth 100000
theorem cellsNil : Tryz.prog.cellsOf 25 = 6 := by kernel_rfl
theorem cellsU1 : Tryz.prog.cellsOf 22 = 1 := by kernel_rfl
theorem cellsS1 : Tryz.prog.cellsOf 9 = 1 := by kernel_rfl
theorem cellsL1 : Tryz.prog.cellsOf 23 = 1 := by kernel_rfl
theorem tysNil : ∃ fs, Tryz.prog.underlying 25 = some (.struct fs) ∧ (fs.toList.map (·.type))[5]? = some 23 := ⟨_, Tryz.underlying25, rfl⟩
/-- What is asked of a base that is not there, read. -/
theorem open_nil {H : Type} {enc : TypeId × Value → H} {W : World} {fuel : Nat} {cs : List Value} {x : DataW H × List MemPlace} (h : DataW.trod enc Tryz.prog W 0 (fun _ => true) true fuel 25 cs = some x) :
    ∃ (i s a : Int) (n d : ByteArray) (ao : Option Addr) (cap : Nat) (vs : List Int), cs = [.int .i64 i, .int .i64 s, .int .u64 a, .string n, .string d, .slice ao vs.length cap] ∧ (ao = none → cap = 0) ∧ vs.length ≤ cap ∧ SeesN W W.heap.size ao vs ∧ (∀ R, (∀ n ∈ x.1.weights Tryz.prog 25, n ≤ R) → vs.length * 8 ≤ R) := by
  obtain ⟨xs, m, _, rfl, hl, hlen, hf⟩ := DataW.trod_struct Tryz.underlying25 h
  rw [cellsNil] at hl
  obtain ⟨c0, c1, c2, c3, c4, c5, rfl⟩ : ∃ c0 c1 c2 c3 c4 c5, cs = [c0, c1, c2, c3, c4, c5] := by
    match cs, hl with
    | [c0, c1, c2, c3, c4, c5], _ => exact ⟨c0, c1, c2, c3, c4, c5, rfl⟩
  have hlen6 : xs.length = 6 := hlen
  obtain ⟨y0, e0⟩ := some_of_ltO (i := 0) hlen6 (by omega)
  obtain ⟨y1, e1⟩ := some_of_ltO (i := 1) hlen6 (by omega)
  obtain ⟨y2, e2⟩ := some_of_ltO (i := 2) hlen6 (by omega)
  obtain ⟨y3, e3⟩ := some_of_ltO (i := 3) hlen6 (by omega)
  obtain ⟨y4, e4⟩ := some_of_ltO (i := 4) hlen6 (by omega)
  obtain ⟨y5, e5⟩ := some_of_ltO (i := 5) hlen6 (by omega)
  have f0 := (hf 0 _ rfl).trans e0
  have f1 := (hf 1 _ rfl).trans e1
  have f2 := (hf 2 _ rfl).trans e2
  have f3 := (hf 3 _ rfl).trans e3
  have f4 := (hf 4 _ rfl).trans e4
  have f5 := (hf 5 _ rfl).trans e5
  obtain ⟨a0, q0, _, w0⟩ := DataW.trod_int (k := .i64) (by kernel_rfl) f0
  obtain ⟨a1, q1, _, w1⟩ := DataW.trod_int (k := .i64) (by kernel_rfl) f1
  obtain ⟨a2, q2, _, w2⟩ := DataW.trod_int (k := .u64) (by kernel_rfl) f2
  obtain ⟨a3, q3, _, w3⟩ := DataW.trod_string (by kernel_rfl) f3
  obtain ⟨a4, q4, _, w4⟩ := DataW.trod_string (by kernel_rfl) f4
  change List.take (Tryz.prog.cellsOf 3) (List.drop 0 [c0, c1, c2, c3, c4, c5]) = _ at q0
  change List.take (Tryz.prog.cellsOf 3) (List.drop 1 [c0, c1, c2, c3, c4, c5]) = _ at q1
  change List.take (Tryz.prog.cellsOf 22) (List.drop 2 [c0, c1, c2, c3, c4, c5]) = _ at q2
  change List.take (Tryz.prog.cellsOf 9) (List.drop 3 [c0, c1, c2, c3, c4, c5]) = _ at q3
  change List.take (Tryz.prog.cellsOf 9) (List.drop 4 [c0, c1, c2, c3, c4, c5]) = _ at q4
  rw [cellsI1] at q0 q1
  rw [cellsU1] at q2
  rw [cellsS1] at q3 q4
  simp at q0 q1 q2 q3 q4
  subst q0 q1 q2 q3 q4
  change DataW.trod enc Tryz.prog W 0 (fun _ => true) true m 23 (List.take (Tryz.prog.cellsOf 23) (List.drop 5 [.int .i64 a0, .int .i64 a1, .int .u64 a2, .string a3, .string a4, c5])) = _ at f5
  rw [cellsL1] at f5
  obtain ⟨ao, len, cap, rfl, hlc, hn, hw, ws, rfl, hs, _⟩ := open_nums (c := c5) f5
  refine ⟨a0, a1, a2, a3, a4, ao, cap, ws, rfl, hn, hlc, hs, fun R hR => hw R (fun n hn => hR n ?_)⟩
  obtain ⟨fs, hu, ht⟩ := tysNil
  simp only [DataW.weights, hu]
  exact DataW.weights_mem_each ht (by simp [e5]) n hn
end Go.Proofs.YtngkooonfldphaaGreatDoor
