import Derived.Test.YtoomekcglniohaaDoorSpP
import Derived.Lib.LaidTab
namespace Go.Proofs.YtoomekcglniohaaDoor
open Go.ChangeShapes Go.WideShapes Go.ChangeAt Go.RowKit
set_option linter.unusedVariables false
set_option maxRecDepth 100000
theorem szAl (w : World) (o : Obj) : (w.alloc o).heap.size = w.heap.size + 1 := by show (w.heap.push o).size = _; simp
theorem heap_new (w : World) (o : Obj) : (w.alloc o).heap[w.heap.size]? = some o := by show (w.heap.push o)[w.heap.size]? = _; simp
theorem below_drewN {B : Nat} {w : World} (n : Nat) : Below B w (w.drewN n) := by
  induction n generalizing w with
  | zero => exact Below.refl _ _
  | succ n ih => exact (ih (w := w)).drew
theorem below_growD (w : World) (k : Nat) (os : Array Obj) : Below w.heap.size w (Sort.grow (w.drewN k) os) := by
  have h := below_drewN (B := w.heap.size) (w := w) k
  refine ⟨h.os, h.tape, h.output, ?_, fun i hi => ?_⟩
  · have := h.size
    show w.heap.size ≤ ((w.drewN k).heap ++ os).size
    rw [Array.size_append]; omega
  · have hs := h.size
    show ((w.drewN k).heap ++ os)[i]? = _
    rw [Array.getElem?_append_left (by omega)]
    exact h.block i hi
/-- The name of the table of powers of ten, as the row lists it. -/
def powN : String := (Rows.storePrintsRow.laid.map (·.1)).getD 2 default
theorem powN_at : Tryd.prog.globalNamed powN = some 0 := by kernel_rfl
/-- What the library's functions ask of the package's variables. -/
structure GW (w : World) : Prop where
  tab : Lib.TabIs Tryd.prog w powN .u64 Lib.pow10Tab
  mx : ∃ m, w.cell? ⟨1, 0, none⟩ = some (.int .i64 m)
  few : 2 ≤ w.heap.size
theorem GW.later {w w' : World} {B : Nat} (h : GW w) (hb : Below B w w') (hB : 2 ≤ B) : GW w' := by
  refine ⟨?_, ?_, by have := hb.size; have := h.few; omega⟩
  · have ht := h.tab
    unfold Lib.TabIs World.var? at ht ⊢
    rw [powN_at] at ht ⊢
    simp only [Option.bind_some] at ht ⊢
    rw [hb.block _ (by omega)]
    exact ht
  · obtain ⟨m, hm⟩ := h.mx
    exact ⟨m, (hb.cell (by show 1 < B; omega)).trans hm⟩
theorem GW.next {w w' : World} (h : GW w) (hb : Below w.heap.size w w') : GW w' := h.later hb h.few
theorem itoaT (n : Int) (h0 : -9223372036854775808 ≤ n) (h1 : n ≤ 9223372036854775807) (w : World) (hg : GW w) : Calls Tryd.prog 16 #[.int .i64 n] w fun e w' => e = .returned (.string (tx (Lib.itoa n))) ∧ Below w.heap.size w w' := by
  refine (Any.strconv_Itoa Tryd.laysM171 n h0 h1 w hg.tab).mono ?_
  rintro e w' ⟨rfl, k, os, rfl⟩
  exact ⟨rfl, below_growD w k os⟩
theorem fmtIntT (n : Int) (h0 : -9223372036854775808 ≤ n) (h1 : n ≤ 9223372036854775807) (w : World) (hg : GW w) : Calls Tryd.prog 34 #[.int .i64 n, .int .i64 10] w fun e w' => e = .returned (.string (tx (Lib.itoa n))) ∧ Below w.heap.size w w' := by
  refine (Any.strconv_FormatInt_10 Tryd.laysM173 n h0 h1 w hg.tab).mono ?_
  rintro e w' ⟨rfl, k, os, rfl⟩
  exact ⟨rfl, below_growD w k os⟩
theorem replT (s : ByteArray) (w : World) (hs : s.size ≤ 1048576) (hg : GW w) : Calls Tryd.prog 33 #[.string s, .string ⟨#[39]⟩, .string ⟨#[39, 39]⟩] w fun e w' => e = .returned (.string (tx (quoL s.data.toList))) ∧ Below w.heap.size w w' := by
  obtain ⟨m, hm⟩ := hg.mx
  have hc : Lib.countB s ⟨#[39]⟩ ≤ s.size := Lib.countB_le ⟨#[39]⟩ (by decide) s.size s (Nat.le_refl _)
  refine (Tryd.strings_ReplaceAll s ⟨#[39]⟩ ⟨#[39, 39]⟩ m w (by omega) hm (by decide) (by show s.size + Lib.countB s ⟨#[39]⟩ * 2 ≤ _; omega)).mono ?_
  rintro e w' ⟨rfl, hb⟩
  refine ⟨?_, hb⟩
  have e1 : (⟨#[39]⟩ : ByteArray).data.toList = [39] := rfl
  have e2 : (⟨#[39, 39]⟩ : ByteArray).data.toList = [39, 39] := rfl
  rw [e1, e2, replace_quo]
  rfl
theorem wrStr (B b : Nat) (bs : List Value) (s : ByteArray) (w : World) (h : Lib.IsBuilder 46 5 B b bs w) (hlen : bs.length + s.size ≤ 140737488355328) (hBw : B ≤ w.heap.size) :
    Calls Tryd.prog 15 #[.pointer (some ⟨b, 0, none⟩), .string s] w fun e w' => e = .returned (.tuple #[.int .i64 s.size, .nilIface]) ∧ (Lib.BuilderAt 46 5 B b (.pointer (some ⟨b, 0, none⟩)) (bs ++ Lib.strCells s) w' ∧ Below B w w') :=
  Any.Builder_WriteString { Tryd.lays156 with } Tryd.Builder_Extra_156 B b bs s w h hlen hBw
end Go.Proofs.YtoomekcglniohaaDoor
