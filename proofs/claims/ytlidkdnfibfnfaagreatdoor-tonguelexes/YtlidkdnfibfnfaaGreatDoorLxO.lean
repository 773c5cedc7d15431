import Derived.Test.YtlidkdnfibfnfaaGreatDoorRedM1
import Derived.Test.YtlidkdnfibfnfaaGreatDoorOwnB
import Derived.OwnWalk
import Derived.Laws.OwnMore
import Derived.Laws.Rows
namespace Go.Proofs.YtlidkdnfibfnfaaGreatDoor
open Go.ChangeShapes Go.WideShapes Go.ChangeAt Go.RowKit
set_option linter.unusedVariables false
set_option maxRecDepth 100000
theorem sizeAl (w : World) (o : Obj) : (w.alloc o).heap.size = w.heap.size + 1 := by simp
/-- A text's bytes as numbers. -/
def txtN (t : ByteArray) : List Int := t.data.toList.map fun x => (x.toNat : Int)
theorem txtN_len (t : ByteArray) : (txtN t).length = t.size := by unfold txtN; rw [List.length_map, Array.length_toList]; rfl
theorem txtN_cells (t : ByteArray) : (txtN t).map (Value.int .u8) = Lib.strCells t := by unfold txtN Lib.strCells; rw [List.map_map]; rfl
/-- The slice value v holds just the bytes xs, in a row of one's own, marked or not. -/
def ownMB (w : World) (B : Nat) (v : Value) (xs : List Int) : Prop := ownsM w B 5 v (xs.map (Value.int .u8))
theorem ownMB.later {w w' : World} {B : Nat} {v : Value} {xs : List Int} (h : ownMB w B v xs) (hb : Below w.heap.size w w') : ownMB w' B v xs := ownsM.later h hb
/-- string(b) -/
theorem ownMB.conv {w : World} {B : Nat} {v : Value} {xs : List Int} (h : ownMB w B v xs) :
    (convert 51 9 v).run Tryz.prog w = .ok (.string (strOfNums xs)) w := by
  have h' := h
  obtain ⟨g, cap, cur, fz, rfl, hb, hg, hz, hl, hm, hs, ht⟩ := h
  rw [List.length_map]
  refine run_convert_bytes_arg w 51 5 Tryz.underlying51 Tryz.underlying5 g 0 xs.length cap xs rfl (fun i hi => ?_) 9 Tryz.underlying9
  have hc := ownsM.cells (g := g) (n := (xs.map (Value.int .u8)).length) (cap := cap) h' i (.int .u8 xs[i]) (by simp [List.getElem?_eq_getElem hi])
  have hadd : (⟨g, 0, none⟩ : Addr).add i = ⟨g, 0 + i, none⟩ := by unfold Addr.add; split <;> simp_all
  rw [hadd] at hc
  rw [hc]
  simp [List.getElem?_eq_getElem hi]
/-- []byte(s) -/
theorem conv_bytes (w : World) (s : ByteArray) : (convert 9 51 (.string s)).run Tryz.prog w = .ok (.slice (some ⟨w.heap.size, 0, none⟩) s.size (grownCap w s.size 0 5)) (Lib.bytesWorld w 5 s) :=
  Lib.run_convert_string_bytes w 9 51 5 s Tryz.underlying9 Tryz.underlying51 Tryz.underlying5
theorem conv_ownMB (w : World) (B : Nat) (s : ByteArray) (hB : B ≤ w.heap.size) (hs : s.size ≤ 140737488355328) : ownMB (Lib.bytesWorld w 5 s) B (.slice (some ⟨w.heap.size, 0, none⟩) s.size (grownCap w s.size 0 5)) (txtN s) ∧ Below w.heap.size w (Lib.bytesWorld w 5 s) := by
  unfold ownMB
  rw [txtN_cells]
  exact conv_own w B 5 s hB (by unfold maxLen; omega)
theorem strTxt (t : ByteArray) : strOfNums (txtN t) = t := by
  have : (strOfNums (txtN t)).data.toList = t.data.toList := by
    rw [strOfNums_data]
    unfold txtN
    rw [List.map_map]
    conv => rhs; rw [← List.map_id t.data.toList]
    apply List.map_congr_left
    intro x _
    simp
  cases h1 : strOfNums (txtN t)
  cases t
  rw [h1] at this
  congr 1
  exact Array.toList_inj.1 this
theorem txtStr (xs : List Int) (h : ∀ x ∈ xs, 0 ≤ x ∧ x < 256) : txtN (strOfNums xs) = xs := by
  unfold txtN
  rw [strOfNums_data, List.map_map]
  conv => rhs; rw [← List.map_id xs]
  apply List.map_congr_left
  intro x hx
  have := h x hx
  simp only [Function.comp, id]
  rw [UInt8.toNat_ofNat']
  omega
theorem strApp (xs ys : List Int) : strOfNums (xs ++ ys) = strOfNums xs ++ strOfNums ys := by
  have : (strOfNums (xs ++ ys)).data.toList = (strOfNums xs ++ strOfNums ys).data.toList := by
    rw [strOfNums_data, ByteArray.data_append, Array.toList_append, strOfNums_data, strOfNums_data, List.map_append]
  cases h1 : strOfNums (xs ++ ys)
  cases h2 : strOfNums xs ++ strOfNums ys
  rw [h1, h2] at this
  congr 1
  exact Array.toList_inj.1 this
theorem setCellP {w : World} {b j : Nat} {c : Array Value} {t : TypeId} {fz : Nat × Nat} (v : Value) (h : w.heap[b]? = some (.cells c t fz)) : (w.setCell ⟨b, j, none⟩ v).heap[b]? = some (.cells (c.setIfInBounds j v) t fz) := by
  have hb : b < w.heap.size := (Array.getElem?_eq_some_iff.1 h).1
  have he := (Array.getElem?_eq_some_iff.1 h).2
  show (w.heap.modify b _)[b]? = _
  rw [Array.getElem?_modify]
  simp [he, hb]
theorem ownsM.free {w : World} {B : Nat} {e : TypeId} {xs : List Value} {g n cap : Nat} (h : ownsM w B e (.slice (some ⟨g, 0, none⟩) n cap) xs) (j : Nat) (hj : j < xs.length) : w.frozen? ⟨g, j, none⟩ = false := by
  obtain ⟨g', cap', cur, fz, he, hb, hg, hz, hl, hm, hs, ht⟩ := h
  simp only [Value.slice.injEq, Option.some.injEq, Addr.mk.injEq, and_true] at he
  obtain ⟨rfl, rfl, rfl⟩ := he
  obtain ⟨f1, f2⟩ := fz
  simp only at hz
  simp [World.frozen?, hg]
  intro h1
  rcases hz with hz | hz <;> omega
theorem ownMB.set {w : World} {B : Nat} {xs : List Int} {g n cap : Nat} (h : ownMB w B (.slice (some ⟨g, 0, none⟩) n cap) xs) (j : Nat) (y : Int) : ownMB (w.setCell ⟨g, j, none⟩ (.int .u8 y)) B (.slice (some ⟨g, 0, none⟩) n cap) (xs.set j y) := by
  unfold ownMB ownsM at h ⊢
  obtain ⟨g', cap', cur, fz, he, hb, hg, hz, hl, hm, hs, ht⟩ := h
  simp only [Value.slice.injEq, Option.some.injEq, Addr.mk.injEq, and_true] at he
  obtain ⟨rfl, rfl, rfl⟩ := he
  refine ⟨g, cap, _, fz, by simp, hb, setCellP _ hg, hz, by simpa using hl, hm, by simpa using hs, ?_⟩
  rw [Array.toList_setIfInBounds, List.take_set]
  simp only [List.length_map, List.length_set] at ht ⊢
  rw [ht, List.map_set]
end Go.Proofs.YtlidkdnfibfnfaaGreatDoor
