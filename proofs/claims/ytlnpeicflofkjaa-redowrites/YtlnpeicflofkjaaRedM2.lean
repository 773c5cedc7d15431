import Derived.Test.YtlnpeicflofkjaaRedM1
import Derived.Test.YtlnpeicflofkjaaNumbers2
import Derived.Test.YtlnpeicflofkjaaRedW5
namespace Go.Proofs.Ytlnpeicflofkjaa
open Go.ChangeShapes Go.WideShapes Go.ChangeAt Go.RowKit
set_option linter.unusedVariables false
set_option maxRecDepth 100000
/-- A text's bytes as numbers. -/
def txtN (t : ByteArray) : List Int := t.data.toList.map fun x => (x.toNat : Int)
theorem txtN_len (t : ByteArray) : (txtN t).length = t.size := by unfold txtN; rw [List.length_map, Array.length_toList]; rfl
theorem txtN_cells (t : ByteArray) : (txtN t).map (Value.int .u8) = Lib.strCells t := by unfold txtN Lib.strCells; rw [List.map_map]; rfl
/-- The slice value v holds just the bytes xs, in a row of one's own, marked or not. -/
def ownMB (w : World) (B : Nat) (v : Value) (xs : List Int) : Prop := ownsM w B 5 v (xs.map (Value.int .u8))
theorem ownMB.later {w w' : World} {B : Nat} {v : Value} {xs : List Int} (h : ownMB w B v xs) (hb : Below w.heap.size w w') : ownMB w' B v xs := ownsM.later h hb
/-- What an append keeps: every block but the row's own, and no old block becomes the row's own. -/
def KeepG (v : Value) (w : World) (v' : Value) (w' : World) : Prop := (∀ k, k < w.heap.size → some k ≠ v.ownBlock → w'.heap[k]? = w.heap[k]?) ∧ ∀ k, k < w.heap.size → some k ≠ v.ownBlock → some k ≠ v'.ownBlock
theorem app_mstr {wr : World} {ops : Array Oper} {rest : List Oper} {o : Oper} {a : Act} {Q : Exit → Act → World → Prop} (hgd : o.guard = none) (s x : Operand)
    (ho : o.op = .call { callee := .builtin .append, args := #[s, x], argTypes := #[41, 9] })
    (B : Nat) (v : Value) (xs : List Int) (t : ByteArray) (hown : ownMB wr B v xs) (hs : a.eval s = v) (hx : a.eval x = .string t)
    (hlen : xs.length + t.size ≤ 140737488355328) (hB : B ≤ wr.heap.size)
    (h : ∀ v' w', ownMB w' B v' (xs ++ txtN t) → Below B wr w' → KeepG v wr v' w' → wpList Try.prog ops Q rest (a.put o.dst v') w') :
    wpList Try.prog ops Q (o :: rest) a wr := by
  obtain ⟨i0, hi, hz0, hz1, hz2⟩ := info_parts infoB
  refine wpList_plain hgd fun K hK => ?_
  obtain ⟨v', w', hr, h2, h3, h4⟩ := run_append_M_str (P := Try.prog) wr B 41 9 o.type 5 i0 Try.underlying41 Try.underlying9 hi hz0 hz1 hz2 v _ hown t (by simpa using hlen) hB
  unfold Oper.wp execOp
  simp only [ho, resolve, invoke, builtin, Sem.run_bind, Sem.run_pure, Result.andThen_ok, List.map_toArray, List.map_cons, List.map_nil, hs, hx, hr]
  refine hK _ _ (h v' w' ?_ ?_ ⟨fun k hk hne => h3.block k hk hne, h4⟩)
  · unfold ownMB; rw [List.map_append, txtN_cells]; exact h2
  · exact (Below.refl _ _).grown h3 hB (fun k hk => (ownsM.lt hown k hk).1)
theorem app_mone {wr : World} {ops : Array Oper} {rest : List Oper} {o : Oper} {a : Act} {Q : Exit → Act → World → Prop} (hgd : o.guard = none) (s x : Operand)
    (ho : o.op = .call { callee := .builtin .append, args := #[s, x], argTypes := #[41, 41] })
    (B : Nat) (v : Value) (xs : List Int) (c : Int) (hown : ownMB wr B v xs) (hs : a.eval s = v) (g : Nat) (hg : g = wr.heap.size) (hx : a.eval x = .slice (some ⟨g, 0, none⟩) 1 1)
    (hlen : xs.length + 1 ≤ 140737488355328) (hB : B ≤ wr.heap.size)
    (h : ∀ v' w', ownMB w' B v' (xs ++ [c]) → Below B wr w' → KeepG v wr v' w' → wpList Try.prog ops Q rest (a.put o.dst v') w') :
    wpList Try.prog ops Q (o :: rest) a (wr.alloc (.cells #[.int .u8 c] 5)) := by
  subst hg
  obtain ⟨i0, hi, hz0, hz1, hz2⟩ := info_parts infoB
  refine wpList_plain hgd fun K hK => ?_
  have hown2 : ownMB (wr.alloc (.cells #[.int .u8 c] 5)) B v xs := hown.later ((Below.refl _ _).alloc (Nat.le_refl _) _)
  obtain ⟨v', w', hr, h2, h3, h4⟩ := run_append_M_row (P := Try.prog) (wr.alloc (.cells #[.int .u8 c] 5)) B 41 o.type 5 i0 Try.underlying41 hi hz0 hz1 hz2 v _ hown2 ⟨wr.heap.size, 0, none⟩ 1 1 [.int .u8 c] rfl
    (fun j u hj => by
      match j, hj with
      | 0, hj => simp at hj; subst hj; simp [Addr.add])
    (fun u hu => by simp at hu; subst hu; rfl) (by simpa using hlen) (by rw [sizeAl]; omega)
  unfold Oper.wp execOp
  simp only [ho, resolve, invoke, builtin, Sem.run_bind, Sem.run_pure, Result.andThen_ok, List.map_toArray, List.map_cons, List.map_nil, hs, hx, hr]
  have hlt : ∀ k, k < wr.heap.size → k < (wr.alloc (.cells #[.int .u8 c] 5)).heap.size := fun k hk => by rw [sizeAl]; omega
  refine hK _ _ (h v' w' ?_ ?_ ⟨fun k hk hne => (h3.block k (hlt k hk) hne).trans (Below.heap_alloc _ _ k hk), fun k hk hne => h4 k (hlt k hk) hne⟩)
  · unfold ownMB; rw [List.map_append]; exact h2
  · exact ((Below.refl _ _).alloc hB _).grown h3 (by rw [sizeAl]; omega) (fun k hk => (ownsM.lt hown k hk).1)
/-- string(b) -/
theorem ownMB.conv {w : World} {B : Nat} {v : Value} {xs : List Int} (h : ownMB w B v xs) :
    (convert 41 9 v).run Try.prog w = .ok (.string (strOfNums xs)) w := by
  have h' := h
  obtain ⟨g, cap, cur, fz, rfl, hb, hg, hz, hl, hm, hs, ht⟩ := h
  rw [List.length_map]
  refine run_convert_bytes_arg w 41 5 Try.underlying41 Try.underlying5 g 0 xs.length cap xs rfl (fun i hi => ?_) 9 Try.underlying9
  have hc := ownsM.cells (g := g) (n := (xs.map (Value.int .u8)).length) (cap := cap) h' i (.int .u8 xs[i]) (by simp [List.getElem?_eq_getElem hi])
  have hadd : (⟨g, 0, none⟩ : Addr).add i = ⟨g, 0 + i, none⟩ := by unfold Addr.add; split <;> simp_all
  rw [hadd] at hc
  rw [hc]
  simp [List.getElem?_eq_getElem hi]
/-- []byte(s) -/
theorem conv_bytes (w : World) (s : ByteArray) : (convert 9 41 (.string s)).run Try.prog w = .ok (.slice (some ⟨w.heap.size, 0, none⟩) s.size (grownCap w s.size 0 5)) (Lib.bytesWorld w 5 s) :=
  Lib.run_convert_string_bytes w 9 41 5 s Try.underlying9 Try.underlying41 Try.underlying5
theorem conv_ownMB (w : World) (B : Nat) (s : ByteArray) (hB : B ≤ w.heap.size) (hs : s.size ≤ 140737488355328) : ownMB (Lib.bytesWorld w 5 s) B (.slice (some ⟨w.heap.size, 0, none⟩) s.size (grownCap w s.size 0 5)) (txtN s) ∧ Below w.heap.size w (Lib.bytesWorld w 5 s) := by
  unfold ownMB
  rw [txtN_cells]
  exact conv_own w B 5 s hB (by unfold maxLen; omega)
theorem strTxt (t : ByteArray) : strOfNums (txtN t) = t := by
  have : (strOfNums (txtN t)).data.toList = t.data.toList := by
    rw [strOfNums_data]
    unfold txtN
    rw [List.map_map]
    conv => rhs; rw [← List.map_id t.data.toList]
    apply List.map_congr_left
    intro x _
    simp
  cases h1 : strOfNums (txtN t)
  cases t
  rw [h1] at this
  congr 1
  exact Array.toList_inj.1 this
theorem txtStr (xs : List Int) (h : ∀ x ∈ xs, 0 ≤ x ∧ x < 256) : txtN (strOfNums xs) = xs := by
  unfold txtN
  rw [strOfNums_data, List.map_map]
  conv => rhs; rw [← List.map_id xs]
  apply List.map_congr_left
  intro x hx
  have := h x hx
  simp only [Function.comp, id]
  rw [UInt8.toNat_ofNat']
  omega
theorem strApp (xs ys : List Int) : strOfNums (xs ++ ys) = strOfNums xs ++ strOfNums ys := by
  have : (strOfNums (xs ++ ys)).data.toList = (strOfNums xs ++ strOfNums ys).data.toList := by
    rw [strOfNums_data, ByteArray.data_append, Array.toList_append, strOfNums_data, strOfNums_data, List.map_append]
  cases h1 : strOfNums (xs ++ ys)
  cases h2 : strOfNums xs ++ strOfNums ys
  rw [h1, h2] at this
  congr 1
  exact Array.toList_inj.1 this
end Go.Proofs.Ytlnpeicflofkjaa
