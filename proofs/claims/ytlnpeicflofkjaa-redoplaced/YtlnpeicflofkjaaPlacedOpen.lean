import Derived.Test.YtlnpeicflofkjaaPlacedLaw
import Derived.Test.YtlnpeicflofkjaaOpenW
namespace Go.Proofs.Ytlnpeicflofkjaa
open Go.ChangeShapes Go.WideShapes Go.ChangeAt Go.RowKit
set_option linter.unusedVariables false
theorem placed_open (s : Int) (a : Option Addr) (len cap : Nat) (b : Option Addr) (len2 cap2 : Nat) (W : World)
    (hv : len ≤ 140737488355328 → ∃ vs : List W3, vs.length = len ∧ SeesW W W.heap.size (.slice a len cap) vs ∧ ∀ v ∈ vs, (Lit.int .i64 v.1).wf = true) (room : len * 40 ≤ reachBytes)
    (hv2 : len2 ≤ 140737488355328 → ∃ vs : List W3, vs.length = len2 ∧ SeesW W W.heap.size (.slice b len2 cap2) vs ∧ ∀ v ∈ vs, (Lit.int .i64 v.1).wf = true) (room2 : len2 * 40 ≤ reachBytes) :
    Calls Try.prog 3 #[.agg #[.int .u64 s, .slice a len cap], .slice b len2 cap2] W fun e w' => e = .returned (.bool true) ∧ Below W.heap.size W w' := by
  unfold reachBytes at room room2
  obtain ⟨vs, rfl, hs, _⟩ := hv (by omega)
  obtain ⟨os, rfl, ho, _⟩ := hv2 (by omega)
  exact placed_walk s _ _ vs os W hs ho (by omega)
end Go.Proofs.Ytlnpeicflofkjaa
