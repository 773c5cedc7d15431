import Derived.Test.YtmolfemcciljjaaRedE2
import Derived.Test.YtmolfemcciljjaaRedR2
import Derived.Test.YtmolfemcciljjaaOpenW
namespace Go.Proofs.Ytmolfemcciljjaa
open Go.ChangeShapes Go.WideShapes Go.ChangeAt Go.RowKit
set_option linter.unusedVariables false
set_option maxRecDepth 100000
theorem numR_any (n : Int) (w : World) : Calls Try.prog 8 #[.int .i64 n] w fun e w' => e = .returned (.int .i64 n) ∧ w' = w := by
  go_enter Try.func8, Try.ntmps8
  go_wp2
  go_ret
  exact ⟨rfl, rfl⟩
/-- Two commits in their blocks: what came in, and its twin. -/
structure Tw (w0 W : World) (n g : Nat) (s : Int) (v u : Value) (vs : List W3) : Prop where
  zn : n < W.heap.size
  zg : g < W.heap.size
  a0 : W.cell? ⟨n, 0, none⟩ = some (.int .u64 s)
  a1 : W.cell? ⟨n, 1, none⟩ = some v
  b0 : W.cell? ⟨g, 0, none⟩ = some (.int .u64 s)
  b1 : W.cell? ⟨g, 1, none⟩ = some u
  sv : SeesW W W.heap.size v vs
  su : SeesW W W.heap.size u vs
  bel : Below w0.heap.size w0 W
theorem Tw.step {w0 W W' : World} {n g : Nat} {s : Int} {v u : Value} {vs : List W3} (h : Tw w0 W n g s v u vs) (hb : Below W.heap.size W W') : Tw w0 W' n g s v u vs :=
  ⟨Nat.lt_of_lt_of_le h.zn hb.size, Nat.lt_of_lt_of_le h.zg hb.size, (hb.cell (p := ⟨n, 0, none⟩) h.zn).trans h.a0, (hb.cell (p := ⟨n, 1, none⟩) h.zn).trans h.a1, (hb.cell (p := ⟨g, 0, none⟩) h.zg).trans h.b0, (hb.cell (p := ⟨g, 1, none⟩) h.zg).trans h.b1, (h.sv.later hb).mono hb.size, (h.su.later hb).mono hb.size, h.bel.trans (hb.mono h.bel.size)⟩
end Go.Proofs.Ytmolfemcciljjaa
