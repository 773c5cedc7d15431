import Derived.Test.YtnebbopdeljaiaaGreatRefNewE
import Derived.OpenShut
import Derived.ShutString
import Derived.SizedLaws
import Derived.Deep.Slices
import Derived.ChangeOld
namespace Go.Proofs.YtnebbopdeljaiaaGreat
open Go.ChangeShapes Go.WideShapes Go.ChangeAt Go.RowKit
set_option linter.unusedVariables false
theorem cellsSc : Tryz.prog.cellsOf 71 = 5 := by kernel_rfl
theorem cellsI1 : Tryz.prog.cellsOf 3 = 1 := by kernel_rfl
theorem some_of_ltO {A : Type} {xs : List A} {i n : Nat} (h : xs.length = n) (hi : i < n) : ∃ y, xs[i]? = some y := ⟨xs[i]'(by omega), List.getElem?_eq_getElem (by omega)⟩
set_option maxRecDepth 100000 in
/-- A script's four numbers read; its calls are not looked at. -/
theorem open_script {H : Type} {enc : TypeId × Value → H} {W : World} {fuel : Nat} {cs : List Value} {x : DataW H × List MemPlace} (h : DataW.trod enc Tryz.prog W 0 (fun _ => true) true fuel 71 cs = some x) :
    ∃ (n wd lk lv : Int) (sl : Value), cs = [.int .i64 n, .int .i64 wd, .int .i64 lk, .int .i64 lv, sl] ∧ (Lit.int .i64 n).wf = true ∧ (Lit.int .i64 wd).wf = true ∧ (Lit.int .i64 lk).wf = true ∧ (Lit.int .i64 lv).wf = true := by
  obtain ⟨xs, m, _, rfl, hl, hlen, hf⟩ := DataW.trod_struct Tryz.underlying71 h
  rw [cellsSc] at hl
  obtain ⟨c0, c1, c2, c3, c4, rfl⟩ : ∃ c0 c1 c2 c3 c4, cs = [c0, c1, c2, c3, c4] := by
    match cs, hl with
    | [c0, c1, c2, c3, c4], _ => exact ⟨c0, c1, c2, c3, c4, rfl⟩
  have hlen5 : xs.length = 5 := hlen
  obtain ⟨y0, e0⟩ := some_of_ltO (i := 0) hlen5 (by omega)
  obtain ⟨y1, e1⟩ := some_of_ltO (i := 1) hlen5 (by omega)
  obtain ⟨y2, e2⟩ := some_of_ltO (i := 2) hlen5 (by omega)
  obtain ⟨y3, e3⟩ := some_of_ltO (i := 3) hlen5 (by omega)
  have f0 := (hf 0 _ rfl).trans e0
  have f1 := (hf 1 _ rfl).trans e1
  have f2 := (hf 2 _ rfl).trans e2
  have f3 := (hf 3 _ rfl).trans e3
  obtain ⟨a0, q0, _, w0⟩ := DataW.trod_int (k := .i64) (by kernel_rfl) f0
  obtain ⟨a1, q1, _, w1⟩ := DataW.trod_int (k := .i64) (by kernel_rfl) f1
  obtain ⟨a2, q2, _, w2⟩ := DataW.trod_int (k := .i64) (by kernel_rfl) f2
  obtain ⟨a3, q3, _, w3⟩ := DataW.trod_int (k := .i64) (by kernel_rfl) f3
  change List.take (Tryz.prog.cellsOf 3) (List.drop 0 [c0, c1, c2, c3, c4]) = _ at q0
  change List.take (Tryz.prog.cellsOf 3) (List.drop 1 [c0, c1, c2, c3, c4]) = _ at q1
  change List.take (Tryz.prog.cellsOf 3) (List.drop 2 [c0, c1, c2, c3, c4]) = _ at q2
  change List.take (Tryz.prog.cellsOf 3) (List.drop 3 [c0, c1, c2, c3, c4]) = _ at q3
  rw [cellsI1] at q0 q1 q2 q3
  simp at q0 q1 q2 q3
  subst q0 q1 q2 q3
  exact ⟨a0, a1, a2, a3, c4, rfl, w0, w1, w2, w3⟩
end Go.Proofs.YtnebbopdeljaiaaGreat
