import Derived.Test.YtlidkdnfibfnfaaGreatDoorLxLaw
import Derived.Test.YtlidkdnfibfnfaaGreatDoorRows
import Derived.Lib.LaidTab
import Derived.Shelf.Vars
import Derived.OpenShut
namespace Go.Proofs.YtlidkdnfibfnfaaGreatDoor
open Go.ChangeShapes Go.WideShapes Go.ChangeAt Go.RowKit
set_option linter.unusedVariables false
set_option maxRecDepth 100000
/-- One of the variables that a row lists. -/
theorem vars_at {P : Program} {W : World} : ∀ {l : List (String × DataW Unit)} {ps : List MemPlace}, DataW.LaidVars P W l ps → ∀ (i : Nat) (n : String) (d : DataW Unit), l[i]? = some (n, d) → ∃ g t cs fuel p, P.globalNamed n = some g ∧ (P.globals[g]?).map (·.type) = some t ∧ W.var? P n = some cs ∧ DataW.trod (fun _ => ()) P W 0 (fun _ => true) false fuel t cs.toList = some (d, p)
  | [], _, _, i, n, d, hi => by simp at hi
  | (n0, d0) :: r, ps, h, 0, n, d, hi => by
    obtain ⟨g, t, cs, fuel, p, q, h1, h2, h3, h4, _, _⟩ := h
    simp only [List.getElem?_cons_zero, Option.some.injEq, Prod.mk.injEq] at hi
    obtain ⟨rfl, rfl⟩ := hi
    exact ⟨g, t, cs, fuel, p, h1, h2, h3, h4⟩
  | (n0, d0) :: r, ps, h, i + 1, n, d, hi => by
    obtain ⟨g, t, cs, fuel, p, q, _, _, _, _, h5, _⟩ := h
    exact vars_at h5 i n d (by simpa using hi)
/-- A table of texts that was read. -/
theorem cells_of_strs {P : Program} {w : World} {base : Nat} {sp : Nat → Bool} {held : Bool} {fuel : Nat} {t e : TypeId} {n : Nat} {cs : List Value} {ls : List (List UInt8)} {p : List MemPlace}
    (ht : P.underlying t = some (.array n e)) (he : P.underlying e = some .string) (hce : P.cellsOf e = 1)
    (h : DataW.trod (fun _ => ()) P w base sp held fuel t cs = some (.agg (ls.map fun l => .lit (.string l)), p)) : ls.length = n ∧ ∀ i (hi : i < ls.length), cs[i]? = some (.string ⟨ls[i].toArray⟩) := by
  obtain ⟨xs, m, _, hx, _, hxl, hall⟩ := DataW.trod_array ht h
  have hxs : xs.map (·.1) = ls.map fun l => (DataW.lit (.string l) : DataW Unit) := by
    have := congrArg Prod.fst hx
    simpa using this.symm
  have hln : ls.length = n := by
    have := congrArg List.length hxs
    simp at this
    omega
  refine ⟨hln, fun i hi => ?_⟩
  have hi' : i < xs.length := by omega
  have h1 := hall i (by omega)
  rw [hce, List.getElem?_eq_getElem hi'] at h1
  obtain ⟨s, hc, hs, _⟩ := DataW.trod_string he h1
  have h2 : (xs.map (·.1))[i]? = some (DataW.lit (.string s.data.toList) : DataW Unit) := by
    rw [List.getElem?_map, List.getElem?_eq_getElem hi', hs]
    rfl
  rw [hxs, List.getElem?_map, List.getElem?_eq_getElem hi] at h2
  simp only [Option.map_some, Option.some.injEq, DataW.lit.injEq, Lit.string.injEq] at h2
  have h3 : cs[i]? = some (.string s) := by
    have := congrArg (·[0]?) hc
    simpa [List.getElem?_take, List.getElem?_drop] using this
  rw [h3, h2]
theorem iface_of {P : Program} {w : World} {base : Nat} {sp : Nat → Bool} {fuel : Nat} {t : TypeId} {cs : List Value} {x : DataW Unit × List MemPlace} {ms : Array (String × TypeId)}
    (ht : P.underlying t = some (.interface ms)) (h : DataW.trod (fun _ => ()) P w base sp false fuel t cs = some x) : ∃ v, cs = [v] ∧ (v = .nilIface ∨ ∃ te pe, v = .iface te pe) := by
  cases fuel with
  | zero => simp [DataW.trod] at h
  | succ m =>
    unfold DataW.trod at h
    rw [ht] at h
    split at h <;> simp_all
def nmAt (i : Nat) : String := (Rows.tongueLexesRow.laid.map (·.1)).getD i default
theorem kwG : Tryz.prog.globalNamed (nmAt 6) = some 1 := by kernel_rfl
theorem sgG : Tryz.prog.globalNamed (nmAt 7) = some 0 := by kernel_rfl
theorem erG : Tryz.prog.globalNamed (nmAt 4) = some 5 := by kernel_rfl
theorem kwTy : (Tryz.prog.globals[1]?).map (·.type) = some 74 := by kernel_rfl
theorem sgTy : (Tryz.prog.globals[0]?).map (·.type) = some 64 := by kernel_rfl
theorem erTy : (Tryz.prog.globals[5]?).map (·.type) = some 61 := by kernel_rfl
theorem kwL : Rows.tongueLexesRow.laid[6]? = some (nmAt 6, .agg (kws.map fun l => .lit (.string l))) := by kernel_rfl
theorem sgL : Rows.tongueLexesRow.laid[7]? = some (nmAt 7, .agg (sgs.map fun l => .lit (.string l))) := by kernel_rfl
theorem erL : Rows.tongueLexesRow.laid[4]? = some (nmAt 4, Rows.laid_strconv_ErrRange) := by kernel_rfl
theorem dbG : Tryz.prog.globalNamed (nmAt 1) = some 10 := by kernel_rfl
theorem dbTy : (Tryz.prog.globals[10]?).map (·.type) = some 136 := by kernel_rfl
theorem dbC : Tryz.prog.cellsOf 136 = 64 := by kernel_rfl
theorem dbL : Rows.tongueLexesRow.laid[1]? = some (nmAt 1, Rows.laid_math_bits_deBruijn64tab) := by kernel_rfl
theorem strC : Tryz.prog.cellsOf 9 = 1 := by kernel_rfl
/-- What is asked of the packages' variables, at the law's first world. -/
theorem gx_of {W : World} (hL : laidMetH Tryz.prog Rows.tongueLexesRow.laid W) (hsh : W.ShapedOpen Tryz.prog) : GX W := by
  obtain ⟨m, hm⟩ := cell_of_shapedOpen_int (P := Tryz.prog) (g := 2) (t := 3) (zero := #[.int .i64 0]) hsh (of_decide_eq_true (by kernel_rfl)) (by kernel_rfl) rfl (by kernel_rfl) (by kernel_rfl) Tryz.underlying3
  have h : laidMet Tryz.prog Rows.tongueLexesRow.laid W := hL
  obtain ⟨ps, h1, _⟩ := h
  have hf : 11 ≤ W.heap.size := by
    obtain ⟨g, t, cs, fuel, p, e1, e2, e3, e4⟩ := vars_at h1 1 _ _ dbL
    obtain rfl := Option.some.inj (dbG.symm.trans e1)
    obtain rfl := Option.some.inj (dbTy.symm.trans e2)
    obtain ⟨_, _, _, _, hl, _⟩ := DataW.trod_array Tryz.underlying136 e4
    rw [dbC] at hl
    have h2 := World.var?_cell dbG e3 0
    rw [Array.getElem?_eq_getElem (by rw [← Array.length_toList]; omega)] at h2
    exact World.block_lt_of_cell? _ _ h2
  refine ⟨⟨m, hm⟩, ?_, ?_, ?_, hf⟩
  · obtain ⟨g, t, cs, fuel, p, e1, e2, e3, e4⟩ := vars_at h1 6 _ _ kwL
    obtain rfl := Option.some.inj (kwG.symm.trans e1)
    obtain rfl := Option.some.inj (kwTy.symm.trans e2)
    obtain ⟨_, hc⟩ := cells_of_strs u61 Tryz.underlying9 strC e4
    intro j hj
    have := World.var?_cell kwG e3 j
    rw [this]
    have h2 := hc j hj
    simpa using h2
  · obtain ⟨g, t, cs, fuel, p, e1, e2, e3, e4⟩ := vars_at h1 7 _ _ sgL
    obtain rfl := Option.some.inj (sgG.symm.trans e1)
    obtain rfl := Option.some.inj (sgTy.symm.trans e2)
    obtain ⟨_, hc⟩ := cells_of_strs u18 Tryz.underlying9 strC e4
    intro j hj
    have := World.var?_cell sgG e3 j
    rw [this]
    have h2 := hc j hj
    simpa using h2
  · obtain ⟨g, t, cs, fuel, p, e1, e2, e3, e4⟩ := vars_at h1 4 _ _ erL
    obtain rfl := Option.some.inj (erG.symm.trans e1)
    obtain rfl := Option.some.inj (erTy.symm.trans e2)
    obtain ⟨v, hv, hv2⟩ := iface_of Tryz.underlying61 e4
    refine ⟨v, ?_, hv2⟩
    rw [World.var?_cell erG e3 0]
    have : cs.toList[0]? = some v := by rw [hv]; rfl
    simpa using this
end Go.Proofs.YtlidkdnfibfnfaaGreatDoor
