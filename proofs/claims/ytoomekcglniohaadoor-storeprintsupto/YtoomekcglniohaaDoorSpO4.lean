import Derived.Test.YtoomekcglniohaaDoorSpO3
import Derived.Lib.LaidTab
import Derived.Shelf.Vars
namespace Go.Proofs.YtoomekcglniohaaDoor
open Go.ChangeShapes Go.WideShapes Go.ChangeAt Go.RowKit
set_option linter.unusedVariables false
set_option maxRecDepth 100000
/-- One of the variables that a row lists. -/
theorem vars_at {P : Program} {W : World} : ∀ {l : List (String × DataW Unit)} {ps : List MemPlace}, DataW.LaidVars P W l ps → ∀ (i : Nat) (n : String) (d : DataW Unit), l[i]? = some (n, d) → ∃ g t cs fuel p, P.globalNamed n = some g ∧ (P.globals[g]?).map (·.type) = some t ∧ W.var? P n = some cs ∧ DataW.trod (fun _ => ()) P W 0 (fun _ => true) false fuel t cs.toList = some (d, p)
  | [], _, _, i, n, d, hi => by simp at hi
  | (n0, d0) :: r, ps, h, 0, n, d, hi => by
    obtain ⟨g, t, cs, fuel, p, q, h1, h2, h3, h4, _, _⟩ := h
    simp only [List.getElem?_cons_zero, Option.some.injEq, Prod.mk.injEq] at hi
    obtain ⟨rfl, rfl⟩ := hi
    exact ⟨g, t, cs, fuel, p, h1, h2, h3, h4⟩
  | (n0, d0) :: r, ps, h, i + 1, n, d, hi => by
    obtain ⟨g, t, cs, fuel, p, q, _, _, _, _, h5, _⟩ := h
    exact vars_at h5 i n d (by simpa using hi)
theorem powT : (Tryd.prog.globals[0]?).map (·.type) = some 90 := by kernel_rfl
theorem powC : Tryd.prog.cellsOf 90 = 20 := by kernel_rfl
theorem powL : Rows.storePrintsUptoRow.laid[2]? = some (powN, Lib.tabData .u64 Lib.pow10Tab) := by kernel_rfl
/-- What the library's functions ask of the package's variables, at the law's first world. -/
theorem gw_of {W : World} (hL : laidMetH Tryd.prog Rows.storePrintsUptoRow.laid W) (hsh : W.ShapedOpen Tryd.prog) : GW W := by
  obtain ⟨m, hm⟩ := cell_of_shapedOpen_int (P := Tryd.prog) (g := 1) (t := 3) (zero := #[.int .i64 0]) hsh (of_decide_eq_true (by kernel_rfl)) (by kernel_rfl) rfl (by kernel_rfl) (by kernel_rfl) Tryd.underlying3
  refine ⟨?_, ⟨m, hm⟩, World.block_lt_of_cell? _ _ hm⟩
  have h : laidMet Tryd.prog Rows.storePrintsUptoRow.laid W := hL
  obtain ⟨ps, h1, _⟩ := h
  obtain ⟨g, t, cs, fuel, p, e1, e2, e3, e4⟩ := vars_at h1 2 _ _ powL
  obtain rfl := Option.some.inj (powN_at.symm.trans e1)
  obtain rfl := Option.some.inj (powT.symm.trans e2)
  unfold Lib.TabIs
  rw [e3, ← Lib.cells_of_tab Tryd.underlying90 Tryd.underlying27 cellsU64 powC e4]
theorem prints_at {H : Type} {enc : TypeId × Value → H} {W : World} {fuel : Nat} {v : Value} {x : DataW H × List MemPlace} (hf : DataW.trod enc Tryd.prog W 0 (fun _ => true) true fuel 22 [v] = some x) (hk : Rows.uptoBulk x.1 ≤ 1048576) (hL : laidMetH Tryd.prog Rows.storePrintsUptoRow.laid W) (hsh : W.ShapedOpen Tryd.prog) :
    Calls Tryd.prog 3 #[v] W fun e w' => e = .returned (.bool true) ∧ Below W.heap.size W w' := prints_open hf hk (gw_of hL hsh)
end Go.Proofs.YtoomekcglniohaaDoor
