import Derived.Test.YtmolfemcciljjaaRedM1
import Derived.Test.YtmolfemcciljjaaNumbers2
import Derived.Test.YtmolfemcciljjaaRedW5
namespace Go.Proofs.Ytmolfemcciljjaa
open Go.ChangeShapes Go.WideShapes Go.ChangeAt Go.RowKit
set_option linter.unusedVariables false
set_option maxRecDepth 100000
/-- A text's bytes as numbers. -/
def txtN (t : ByteArray) : List Int := t.data.toList.map fun x => (x.toNat : Int)
theorem txtN_len (t : ByteArray) : (txtN t).length = t.size := by unfold txtN; rw [List.length_map, Array.length_toList]; rfl
theorem txtN_cells (t : ByteArray) : (txtN t).map (Value.int .u8) = Lib.strCells t := by unfold txtN Lib.strCells; rw [List.map_map]; rfl
/-- The slice value v holds just the bytes xs, in a row of one's own, marked or not. -/
def ownMB (w : World) (B : Nat) (v : Value) (xs : List Int) : Prop := ownsM w B 5 v (xs.map (Value.int .u8))
theorem ownMB.later {w w' : World} {B : Nat} {v : Value} {xs : List Int} (h : ownMB w B v xs) (hb : Below w.heap.size w w') : ownMB w' B v xs := ownsM.later h hb
/-- What an append keeps: every block but the row's own, and no old block becomes the row's own. -/
def KeepG (v : Value) (w : World) (v' : Value) (w' : World) : Prop := (∀ k, k < w.heap.size → some k ≠ v.ownBlock → w'.heap[k]? = w.heap[k]?) ∧ ∀ k, k < w.heap.size → some k ≠ v.ownBlock → some k ≠ v'.ownBlock
theorem conv_ownMB (w : World) (B : Nat) (s : ByteArray) (hB : B ≤ w.heap.size) (hs : s.size ≤ 140737488355328) : ownMB (Lib.bytesWorld w 5 s) B (.slice (some ⟨w.heap.size, 0, none⟩) s.size (grownCap w s.size 0 5)) (txtN s) ∧ Below w.heap.size w (Lib.bytesWorld w 5 s) := by
  unfold ownMB
  rw [txtN_cells]
  exact conv_own w B 5 s hB (by unfold maxLen; omega)
theorem strTxt (t : ByteArray) : strOfNums (txtN t) = t := by
  have : (strOfNums (txtN t)).data.toList = t.data.toList := by
    rw [strOfNums_data]
    unfold txtN
    rw [List.map_map]
    conv => rhs; rw [← List.map_id t.data.toList]
    apply List.map_congr_left
    intro x _
    simp
  cases h1 : strOfNums (txtN t)
  cases t
  rw [h1] at this
  congr 1
  exact Array.toList_inj.1 this
theorem txtStr (xs : List Int) (h : ∀ x ∈ xs, 0 ≤ x ∧ x < 256) : txtN (strOfNums xs) = xs := by
  unfold txtN
  rw [strOfNums_data, List.map_map]
  conv => rhs; rw [← List.map_id xs]
  apply List.map_congr_left
  intro x hx
  have := h x hx
  simp only [Function.comp, id]
  rw [UInt8.toNat_ofNat']
  omega
theorem strApp (xs ys : List Int) : strOfNums (xs ++ ys) = strOfNums xs ++ strOfNums ys := by
  have : (strOfNums (xs ++ ys)).data.toList = (strOfNums xs ++ strOfNums ys).data.toList := by
    rw [strOfNums_data, ByteArray.data_append, Array.toList_append, strOfNums_data, strOfNums_data, List.map_append]
  cases h1 : strOfNums (xs ++ ys)
  cases h2 : strOfNums xs ++ strOfNums ys
  rw [h1, h2] at this
  congr 1
  exact Array.toList_inj.1 this
end Go.Proofs.Ytmolfemcciljjaa
