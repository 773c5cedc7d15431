import Derived.Test.YtdpebhdjcgiboaaGreatJOpLit
import Derived.Test.YtdpebhdjcgiboaaGreatJSqP
namespace Go.Proofs.YtdpebhdjcgiboaaGreat
open Go.ChangeShapes Go.WideShapes Go.ChangeAt Go.RowKit Go.MuLone Go.RwLone
set_option linter.unusedVariables false
set_option maxRecDepth 100000
section
variable {H : Type} {enc : TypeId × Value → H} {W : World}
theorem outcomes_open {f0 : Nat} {c0 : Array Value} {x0 : DataW H × List MemPlace} (h0 : DataW.trod enc Tryz.prog W 0 (fun _ => true) true f0 49 c0.toList = some x0) (b0 : Rows.uptoBulk x0.1 ≤ 1048576) :
    Calls Tryz.prog 6 #[.agg c0] W fun e w' => e = .returned (.bool true) ∧ Below W.heap.size W w' := by
  obtain ⟨ca, cc, ta, tc, tv, cs, ts, e0, g0, p0, q0, r0, s0, t0⟩ := open_lit h0 b0
  obtain rfl : c0 = litC ca cs.length cc ta ts.length tc := by cases c0; simp_all
  exact outcomes_walk W W.heap.size ca cc ta tc tv cs ts g0 (Nat.le_refl _) p0 q0 r0 s0 t0
end
end Go.Proofs.YtdpebhdjcgiboaaGreat
