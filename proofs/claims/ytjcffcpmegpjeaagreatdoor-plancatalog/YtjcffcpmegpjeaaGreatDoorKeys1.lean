import Derived.Test.YtjcffcpmegpjeaaGreatDoorVals4
import Derived.Test.YtjcffcpmegpjeaaGreatDoorOwnB
import Derived.Laws.EntriesVeiled
import Derived.Laws.Rows
import Derived.Great.Walk
import Derived.Great.BuildSlice
import Derived.KernelRfl
namespace Go.Proofs.YtjcffcpmegpjeaaGreatDoor
open Go.Great Go.ChangeShapes Go.WideShapes Go.ChangeAt Go.RowKit
set_option linter.unusedVariables false
set_option maxRecDepth 100000

def lay0 : Array Value := #[.func (.func 119) #[] #[], .func (.func 120) #[] #[], .func (.func 121) #[] #[], .func (.func 122) #[] #[], .func (.func 123) #[] #[]]
def lay1 : Array Value := #[.func (.func 124) #[] #[], .func (.func 125) #[] #[], .func (.func 126) #[] #[], .func (.func 127) #[] #[], .func (.func 128) #[] #[]]
def lay2 : Array Value := #[.func (.func 129) #[] #[], .func (.func 130) #[] #[], .func (.func 131) #[] #[], .func (.func 132) #[] #[], .func (.func 133) #[] #[]]
def lay3 : Array Value := #[.func (.func 134) #[] #[], .func (.func 135) #[] #[], .func (.func 136) #[] #[], .func (.func 137) #[] #[], .func (.func 138) #[] #[]]
def layAll : Array Value := lay0 ++ lay1 ++ lay2 ++ lay3
def layNil : Array Value := Array.replicate 20 .nilFunc
theorem below_row (w : World) (ob : Obj) (cs : Array Value) : Below w.heap.size w ((w.alloc ob).setRow w.heap.size cs) := by
  refine ((Below.refl w.heap.size w).alloc (Nat.le_refl _) ob).trans ⟨rfl, rfl, rfl, by simp, fun k hk => ?_⟩
  unfold World.setRow
  simp only [Array.getElem?_modify]
  rw [if_neg (by omega)]
attribute [local irreducible] wpList Code.wp layAll layNil in
set_option maxRecDepth 100000 in
set_option maxHeartbeats 1600000 in
theorem layouts_any (w : World) : Calls Tryz.prog 106 #[] w fun e w' => e = .returned (.agg layAll) ∧ Below w.heap.size w w' := by
  go_enter Tryz.func106, Tryz.ntmps106
  apply wp_seq_k; intro K0 hK0
  apply wp_region_lit
  refine Great.wpList_allocTo rfl (some 0) rfl (.pointer (some ⟨w.heap.size, 0, none⟩)) (.cells layNil 165) (by as_aux_lemma => kernel_rfl) ?_
  refine wpList_nil (hK0 _ _ ?_)
  apply wp_seq_k; intro K1 hK1
  apply wp_region_lit
  refine wpList_buildTo rfl 129 _ rfl (some 1) rfl lay0 (by as_aux_lemma => kernel_rfl) ?_
  refine wpList_buildTo rfl 129 _ rfl (some 2) rfl lay1 (by as_aux_lemma => kernel_rfl) ?_
  refine wpList_buildTo rfl 129 _ rfl (some 3) rfl lay2 (by as_aux_lemma => kernel_rfl) ?_
  refine wpList_buildTo rfl 129 _ rfl (some 4) rfl lay3 (by as_aux_lemma => kernel_rfl) ?_
  refine wpList_buildTo rfl 165 _ rfl (some 5) rfl layAll (by as_aux_lemma => kernel_rfl) ?_
  refine wpList_store_row rfl 165 _ _ rfl w.heap.size layAll (by as_aux_lemma => kernel_rfl) (by as_aux_lemma => kernel_rfl) 165 layNil (heap_alloc_new w _) (by as_aux_lemma => kernel_rfl) (by as_aux_lemma => kernel_rfl) (by as_aux_lemma => kernel_rfl) ?_
  refine wpList_nil (hK1 _ _ ?_)
  apply wp_ret
  refine bodyPost_ret (results_cell_row (p := 0) (ty := 165) rfl _ _ w.heap.size 165 layAll (0, 0) _ (by as_aux_lemma => kernel_rfl) (setRow_heap _ _ layNil _ 165 (0, 0) (heap_alloc_new w _)) rfl rfl (by as_aux_lemma => kernel_rfl)) rfl ?_
  exact ⟨rfl, below_row w _ _⟩
theorem lt_alloc (w : World) (o : Obj) : w.heap.size < (w.alloc o).heap.size := by
  show w.heap.size < (w.heap.push o).size
  rw [Array.size_push]; omega
theorem got5 (w w' : World) (hb : Below (w.alloc (.cells #[.nilFunc, .nilFunc, .nilFunc, .nilFunc, .nilFunc] 129)).heap.size (w.alloc (.cells #[.nilFunc, .nilFunc, .nilFunc, .nilFunc, .nilFunc] 129)) w') :
   w'.heap[w.heap.size]? = some (.cells #[.nilFunc, .nilFunc, .nilFunc, .nilFunc, .nilFunc] 129 (0, 0)) ∧ Below w.heap.size w w' :=
  ⟨(hb.block _ (lt_alloc w _)).trans (heap_alloc_new w _), ((Below.refl _ _).alloc (Nat.le_refl _) _).trans (hb.mono (Nat.le_of_lt (lt_alloc w _)))⟩
theorem st5 (lay : Array Value) (hs : lay.size = 5) (h1 : lay.all (·.oneCell') = true) (w : World) (g : Nat) (hg : w.heap[g]? = some (.cells #[.nilFunc, .nilFunc, .nilFunc, .nilFunc, .nilFunc] 129 (0, 0))) :
    Sem.run Tryz.prog (storeCells ⟨g, 0, none⟩ lay.toList) w = .ok () (w.setRow g lay) := by
  have := run_storeCells_from (P := Tryz.prog) g 129 lay.toList 0 _ w hg (by simp [hs]) (fun v hv => (Array.all_eq_true_iff_forall_mem.1 h1) v (by simpa using hv))
  simpa using this
theorem below_setRow {B : Nat} {a w : World} (h : Below B a w) (g : Nat) (hg : B ≤ g) (cs : Array Value) : Below B a (w.setRow g cs) := by
  refine h.trans ⟨rfl, rfl, rfl, by simp, fun k hk => ?_⟩
  unfold World.setRow
  simp only [Array.getElem?_modify]
  rw [if_neg (by omega)]
set_option maxRecDepth 100000 in
theorem layoutOf_g (k : Int) (lay : Array Value) (hi : ∀ w, Sem.run Tryz.prog (Instr.index 165 (.agg layAll) (.int .i64 k)) w = .ok (.agg lay) w) (hs : lay.size = 5) (h1 : lay.all (·.oneCell') = true) (w : World) :
    Calls Tryz.prog 82 #[.int .i64 k] w fun e w' => e = .returned (.agg lay) ∧ Below w.heap.size w w' := by
  have H1 : Hid (lay.all (·.oneCell') = true) := h1
  have HI : Hid (∀ w, Sem.run Tryz.prog (Instr.index 165 (.agg layAll) (.int .i64 k)) w = .ok (.agg lay) w) := hi
  clear h1 hi
  go_enter Tryz.func82, Tryz.ntmps82
  go_wp2_with (go_at_call 106; refine (layouts_any _).mono ?_; rintro e w' ⟨rfl, hb⟩)
  obtain ⟨hg, hb2⟩ := got5 _ _ hb
  clear hb
  rw [HI.out]
  rw [Result.andThen_ok, Oper.upon_value]
  have HB : Hid (Below w.heap.size w (w'.setRow w.heap.size lay)) := below_setRow hb2 _ (Nat.le_refl _) _
  have HG : Hid ((w'.setRow w.heap.size lay).heap[w.heap.size]? = some (.cells lay 129 (0, 0))) := setRow_heap _ _ _ _ _ _ hg
  have st := st5 lay hs H1.out w' _ hg
  clear hb2
  go_wp2
  refine bodyPost_ret (results_cell_row (p := 2) (ty := 129) rfl _ _ w.heap.size 129 lay (0, 0) _ rfl HG.out rfl rfl (by rw [hs]; kernel_rfl)) rfl ⟨rfl, HB.out⟩
theorem layoutOf_0 (w : World) : Calls Tryz.prog 82 #[.int .i64 0] w fun e w' => e = .returned (.agg lay0) ∧ Below w.heap.size w w' := layoutOf_g 0 lay0 (fun w => by kernel_rfl) (by kernel_rfl) (by kernel_rfl) w
theorem layoutOf_1 (w : World) : Calls Tryz.prog 82 #[.int .i64 1] w fun e w' => e = .returned (.agg lay1) ∧ Below w.heap.size w w' := layoutOf_g 1 lay1 (fun w => by kernel_rfl) (by kernel_rfl) (by kernel_rfl) w
theorem layoutOf_2 (w : World) : Calls Tryz.prog 82 #[.int .i64 2] w fun e w' => e = .returned (.agg lay2) ∧ Below w.heap.size w w' := layoutOf_g 2 lay2 (fun w => by kernel_rfl) (by kernel_rfl) (by kernel_rfl) w
theorem layoutOf_3 (w : World) : Calls Tryz.prog 82 #[.int .i64 3] w fun e w' => e = .returned (.agg lay3) ∧ Below w.heap.size w w' := layoutOf_g 3 lay3 (fun w => by kernel_rfl) (by kernel_rfl) (by kernel_rfl) w
end Go.Proofs.YtjcffcpmegpjeaaGreatDoor
