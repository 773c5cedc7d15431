import Derived.Test.YtlnpeicflofkjaaDoorFrmP1
import Derived.Deep.Slices
import Derived.Deep.DeepHandedRow
namespace Go.Proofs.YtlnpeicflofkjaaDoor
open Go.ChangeShapes Go.WideShapes Go.ChangeAt Go.RowKit
set_option linter.unusedVariables false
set_option maxRecDepth 100000
theorem cellsFr : Tryd.prog.cellsOf 27 = 3 := by kernel_rfl
theorem cellsI1 : Tryd.prog.cellsOf 3 = 1 := by kernel_rfl
theorem cellsU1 : Tryd.prog.cellsOf 22 = 1 := by kernel_rfl
theorem cellsS1 : Tryd.prog.cellsOf 9 = 1 := by kernel_rfl
theorem tysFr : ∃ fs, Tryd.prog.underlying 27 = some (.struct fs) ∧ (fs.toList.map (·.type))[2]? = some 9 := ⟨_, Tryd.underlying27, rfl⟩
theorem some_of_ltF {α : Type} {l : List α} {n i : Nat} (h : l.length = n) (hi : i < n) : ∃ y, l[i]? = some y := ⟨l[i]'(by omega), by rw [List.getElem?_eq_getElem (by omega)]⟩
/-- A frame that came in, read. -/
theorem open_frame {H : Type} {enc : TypeId × Value → H} {W : World} {fuel : Nat} {cs : List Value} {x : DataW H × List MemPlace} (h : DataW.trod enc Tryd.prog W 0 (fun _ => true) true fuel 27 cs = some x) :
    ∃ (k l : Int) (b : ByteArray), cs = [.int .i64 k, .int .u64 l, .string b] ∧ (Lit.int .i64 k).wf = true ∧ (Lit.int .u64 l).wf = true ∧ (∀ R, (∀ n ∈ x.1.weights Tryd.prog 27, n ≤ R) → b.size ≤ R) := by
  obtain ⟨xs, m, _, rfl, hl, hlen, hf⟩ := DataW.trod_struct Tryd.underlying27 h
  rw [cellsFr] at hl
  obtain ⟨c0, c1, c2, rfl⟩ : ∃ c0 c1 c2, cs = [c0, c1, c2] := by
    match cs, hl with
    | [c0, c1, c2], _ => exact ⟨c0, c1, c2, rfl⟩
  have hlen3 : xs.length = 3 := hlen
  obtain ⟨y0, e0⟩ := some_of_ltF (i := 0) hlen3 (by omega)
  obtain ⟨y1, e1⟩ := some_of_ltF (i := 1) hlen3 (by omega)
  obtain ⟨y2, e2⟩ := some_of_ltF (i := 2) hlen3 (by omega)
  have f0 := (hf 0 _ rfl).trans e0
  have f1 := (hf 1 _ rfl).trans e1
  have f2 := (hf 2 _ rfl).trans e2
  obtain ⟨a0, q0, _, w0⟩ := DataW.trod_int (k := .i64) (by kernel_rfl) f0
  obtain ⟨a1, q1, _, w1⟩ := DataW.trod_int (k := .u64) (by kernel_rfl) f1
  obtain ⟨a2, q2, rfl, w2⟩ := DataW.trod_string (by kernel_rfl) f2
  change List.take (Tryd.prog.cellsOf 3) (List.drop 0 [c0, c1, c2]) = _ at q0
  change List.take (Tryd.prog.cellsOf 22) (List.drop 1 [c0, c1, c2]) = _ at q1
  change List.take (Tryd.prog.cellsOf 9) (List.drop 2 [c0, c1, c2]) = _ at q2
  rw [cellsI1] at q0
  rw [cellsU1] at q1
  rw [cellsS1] at q2
  simp at q0 q1 q2
  subst q0 q1 q2
  refine ⟨a0, a1, a2, rfl, w0, w1, fun R hR => ?_⟩
  have := hR a2.data.toList.length (by
    obtain ⟨fs, hu, ht⟩ := tysFr
    simp only [DataW.weights, hu]
    have hx : (List.map (fun x => x.fst) xs)[2]? = some (.lit (.string a2.data.toList)) := by simp [e2]
    exact DataW.weights_mem_each ht hx _ (by simp [DataW.weights]))
  rwa [Array.length_toList] at this
end Go.Proofs.YtlnpeicflofkjaaDoor
