import Derived.Test.YtljdjaapocmppaaGreatDoorIntRow
namespace Go.Proofs.YtljdjaapocmppaaGreatDoor
open Go.ChangeShapes Go.WideShapes Go.ChangeAt Go.RowKit
set_option linter.unusedVariables false
set_option maxRecDepth 100000
theorem cellsRop : Tryz.prog.cellsOf 26 = 8 := by kernel_rfl
theorem cellsU1 : Tryz.prog.cellsOf 23 = 1 := by kernel_rfl
theorem cellsS1 : Tryz.prog.cellsOf 9 = 1 := by kernel_rfl
theorem cellsL1 : Tryz.prog.cellsOf 22 = 1 := by kernel_rfl
theorem cellsP1 : Tryz.prog.cellsOf 24 = 1 := by kernel_rfl
theorem tysRop : ∃ fs, Tryz.prog.underlying 26 = some (.struct fs) ∧ (fs.toList.map (·.type))[4]? = some 22 := ⟨_, Tryz.underlying26, rfl⟩
/-- A call of the script, read; its commits are not looked at. -/
theorem open_rop {H : Type} {enc : TypeId × Value → H} {W : World} {fuel : Nat} {cs : List Value} {x : DataW H × List MemPlace} (h : DataW.trod enc Tryz.prog W 0 (fun _ => true) true fuel 26 cs = some x) :
    ∃ (k : Int) (n d : ByteArray) (i : Int) (ao : Option Addr) (cap : Nat) (l b : Int) (pa : Option Addr) (pn pc : Nat) (vs : List Int), cs = [.int .i64 k, .string n, .string d, .int .i64 i, .slice ao vs.length cap, .int .u64 l, .int .i64 b, .slice pa pn pc] ∧ (ao = none → cap = 0) ∧ vs.length ≤ cap ∧ SeesN W W.heap.size ao vs ∧ (∀ R, (∀ n ∈ x.1.weights Tryz.prog 26, n ≤ R) → vs.length * 8 ≤ R) := by
  obtain ⟨xs, m, _, rfl, hl, hlen, hf⟩ := DataW.trod_struct Tryz.underlying26 h
  rw [cellsRop] at hl
  obtain ⟨c0, c1, c2, c3, c4, c5, c6, c7, rfl⟩ : ∃ c0 c1 c2 c3 c4 c5 c6 c7, cs = [c0, c1, c2, c3, c4, c5, c6, c7] := by
    match cs, hl with
    | [c0, c1, c2, c3, c4, c5, c6, c7], _ => exact ⟨c0, c1, c2, c3, c4, c5, c6, c7, rfl⟩
  have hlen8 : xs.length = 8 := hlen
  obtain ⟨y0, e0⟩ := some_of_ltO (i := 0) hlen8 (by omega)
  obtain ⟨y1, e1⟩ := some_of_ltO (i := 1) hlen8 (by omega)
  obtain ⟨y2, e2⟩ := some_of_ltO (i := 2) hlen8 (by omega)
  obtain ⟨y3, e3⟩ := some_of_ltO (i := 3) hlen8 (by omega)
  obtain ⟨y4, e4⟩ := some_of_ltO (i := 4) hlen8 (by omega)
  obtain ⟨y5, e5⟩ := some_of_ltO (i := 5) hlen8 (by omega)
  obtain ⟨y6, e6⟩ := some_of_ltO (i := 6) hlen8 (by omega)
  obtain ⟨y7, e7⟩ := some_of_ltO (i := 7) hlen8 (by omega)
  have f7 := (hf 7 _ rfl).trans e7
  have f0 := (hf 0 _ rfl).trans e0
  have f1 := (hf 1 _ rfl).trans e1
  have f2 := (hf 2 _ rfl).trans e2
  have f3 := (hf 3 _ rfl).trans e3
  have f4 := (hf 4 _ rfl).trans e4
  have f5 := (hf 5 _ rfl).trans e5
  have f6 := (hf 6 _ rfl).trans e6
  obtain ⟨a0, q0, _, w0⟩ := DataW.trod_int (k := .i64) (by kernel_rfl) f0
  obtain ⟨a1, q1, _, w1⟩ := DataW.trod_string (by kernel_rfl) f1
  obtain ⟨a2, q2, _, w2⟩ := DataW.trod_string (by kernel_rfl) f2
  obtain ⟨a3, q3, _, w3⟩ := DataW.trod_int (k := .i64) (by kernel_rfl) f3
  obtain ⟨a5, q5, _, w5⟩ := DataW.trod_int (k := .u64) (by kernel_rfl) f5
  obtain ⟨a6, q6, _, w6⟩ := DataW.trod_int (k := .i64) (by kernel_rfl) f6
  change List.take (Tryz.prog.cellsOf 3) (List.drop 0 [c0, c1, c2, c3, c4, c5, c6, c7]) = _ at q0
  change List.take (Tryz.prog.cellsOf 9) (List.drop 1 [c0, c1, c2, c3, c4, c5, c6, c7]) = _ at q1
  change List.take (Tryz.prog.cellsOf 9) (List.drop 2 [c0, c1, c2, c3, c4, c5, c6, c7]) = _ at q2
  change List.take (Tryz.prog.cellsOf 3) (List.drop 3 [c0, c1, c2, c3, c4, c5, c6, c7]) = _ at q3
  change List.take (Tryz.prog.cellsOf 23) (List.drop 5 [c0, c1, c2, c3, c4, c5, c6, c7]) = _ at q5
  change List.take (Tryz.prog.cellsOf 3) (List.drop 6 [c0, c1, c2, c3, c4, c5, c6, c7]) = _ at q6
  rw [cellsI1] at q0 q3 q6
  rw [cellsU1] at q5
  rw [cellsS1] at q1 q2
  simp at q0 q1 q2 q3 q5 q6
  subst q0 q1 q2 q3 q5 q6
  change DataW.trod enc Tryz.prog W 0 (fun _ => true) true m 22 (List.take (Tryz.prog.cellsOf 22) (List.drop 4 [.int .i64 a0, .string a1, .string a2, .int .i64 a3, c4, .int .u64 a5, .int .i64 a6, c7])) = _ at f4
  rw [cellsL1] at f4
  obtain ⟨ao, len, cap, rfl, hlc, hn, hw, ws, rfl, hs, _⟩ := open_nums (c := c4) f4
  obtain ⟨pa, pn, pc, rfl⟩ : ∃ pa pn pc, c7 = .slice pa pn pc := by
    change DataW.trod enc Tryz.prog W 0 (fun _ => true) true m 24 (List.take (Tryz.prog.cellsOf 24) (List.drop 7 [.int .i64 a0, .string a1, .string a2, .int .i64 a3, .slice ao ws.length cap, .int .u64 a5, .int .i64 a6, c7])) = _ at f7
    rw [cellsP1] at f7
    rcases Deep.open_slice Tryz.underlying24 f7 with ⟨hcs, _⟩ | ⟨x, l, cp, m, n, D, Pl, hcs, _⟩
    · simp only [List.drop_succ_cons, List.drop_zero, List.take_succ_cons, List.take_zero, List.cons.injEq, and_true] at hcs
      exact ⟨_, _, _, hcs⟩
    · simp only [List.drop_succ_cons, List.drop_zero, List.take_succ_cons, List.take_zero, List.cons.injEq, and_true] at hcs
      exact ⟨_, _, _, hcs⟩
  refine ⟨a0, a1, a2, a3, ao, cap, a5, a6, pa, pn, pc, ws, rfl, hn, hlc, hs, fun R hR => hw R (fun n hn => hR n ?_)⟩
  obtain ⟨fs, hu, ht⟩ := tysRop
  simp only [DataW.weights, hu]
  exact DataW.weights_mem_each ht (by simp [e4]) n hn
end Go.Proofs.YtljdjaapocmppaaGreatDoor
