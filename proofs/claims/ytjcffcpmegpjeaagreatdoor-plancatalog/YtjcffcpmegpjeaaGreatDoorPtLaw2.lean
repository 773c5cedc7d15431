import Derived.Test.YtjcffcpmegpjeaaGreatDoorPtL2
namespace Go.Proofs.YtjcffcpmegpjeaaGreatDoor
open Go.ChangeShapes Go.WideShapes Go.ChangeAt Go.RowKit
set_option linter.unusedVariables false
set_option maxRecDepth 100000
theorem tysPr0 : ∃ fs, Tryz.prog.underlying 28 = some (.struct fs) ∧ (fs.toList.map (·.type))[0]? = some 9 ∧ (fs.toList.map (·.type))[1]? = some 9 := ⟨_, Tryz.underlying28, rfl, rfl⟩
/-- A pair read, with bounds on both its texts. -/
theorem open_pair2 {H : Type} {enc : TypeId × Value → H} {W : World} {fuel : Nat} {cs : List Value} {x : DataW H × List MemPlace} (h : DataW.trod enc Tryz.prog W 0 (fun _ => true) true fuel 28 cs = some x) :
    ∃ (pk pd : ByteArray), cs = [.string pk, .string pd] ∧ (∀ R, (∀ n ∈ x.1.weights Tryz.prog 28, n ≤ R) → pk.size ≤ R ∧ pd.size ≤ R) := by
  obtain ⟨xs, m, _, rfl, hl, hlen, hf⟩ := DataW.trod_struct Tryz.underlying28 h
  rw [cellsPr] at hl
  obtain ⟨c0, c1, rfl⟩ : ∃ c0 c1, cs = [c0, c1] := by
    match cs, hl with
    | [c0, c1], _ => exact ⟨c0, c1, rfl⟩
  have hlen2 : xs.length = 2 := hlen
  obtain ⟨y0, e0⟩ := some_of_ltq (i := 0) hlen2 (by omega)
  obtain ⟨y1, e1⟩ := some_of_ltq (i := 1) hlen2 (by omega)
  obtain ⟨a0, q0, rfl, w0⟩ := DataW.trod_string (by kernel_rfl) ((hf 0 _ rfl).trans e0)
  obtain ⟨a1, q1, rfl, w1⟩ := DataW.trod_string (by kernel_rfl) ((hf 1 _ rfl).trans e1)
  change List.take (Tryz.prog.cellsOf 9) (List.drop 0 [c0, c1]) = _ at q0
  change List.take (Tryz.prog.cellsOf 9) (List.drop 1 [c0, c1]) = _ at q1
  rw [cellsSq] at q0 q1
  simp at q0 q1
  subst q0 q1
  obtain ⟨fs, hu, ht0, ht1⟩ := tysPr0
  refine ⟨a0, a1, rfl, fun R hR => ⟨?_, ?_⟩⟩
  · have := hR a0.data.toList.length (by
      simp only [DataW.weights, hu]
      have hx : (List.map (fun x => x.fst) xs)[0]? = some (.lit (.string a0.data.toList)) := by simp [e0]
      exact DataW.weights_mem_each ht0 hx _ (by simp [DataW.weights]))
    rwa [Array.length_toList] at this
  · have := hR a1.data.toList.length (by
      simp only [DataW.weights, hu]
      have hx : (List.map (fun x => x.fst) xs)[1]? = some (.lit (.string a1.data.toList)) := by simp [e1]
      exact DataW.weights_mem_each ht1 hx _ (by simp [DataW.weights]))
    rwa [Array.length_toList] at this
end Go.Proofs.YtjcffcpmegpjeaaGreatDoor
