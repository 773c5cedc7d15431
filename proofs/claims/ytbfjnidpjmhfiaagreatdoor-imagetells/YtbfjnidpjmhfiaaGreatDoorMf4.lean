import Derived.Test.YtbfjnidpjmhfiaaGreatDoorRedM1
import Derived.Test.YtbfjnidpjmhfiaaGreatDoorNumbers2
import Derived.Test.YtbfjnidpjmhfiaaGreatDoorMf1
import Derived.Test.YtbfjnidpjmhfiaaGreatDoorRegG
import Derived.OwnWalk
import Derived.Laws.OwnMore
import Derived.Laws.Rows
namespace Go.Proofs.YtbfjnidpjmhfiaaGreatDoor
open Go.ChangeShapes Go.WideShapes Go.ChangeAt Go.RowKit
set_option linter.unusedVariables false
set_option maxRecDepth 100000
theorem sizeAl (w : World) (o : Obj) : (w.alloc o).heap.size = w.heap.size + 1 := by simp
/-- A text's bytes as numbers. -/
def txtN (t : ByteArray) : List Int := t.data.toList.map fun x => (x.toNat : Int)
theorem txtN_len (t : ByteArray) : (txtN t).length = t.size := by unfold txtN; rw [List.length_map, Array.length_toList]; rfl
theorem txtN_cells (t : ByteArray) : (txtN t).map (Value.int .u8) = Lib.strCells t := by unfold txtN Lib.strCells; rw [List.map_map]; rfl
/-- The slice value v holds just the bytes xs, in a row of one's own, marked or not. -/
def ownMB (w : World) (B : Nat) (v : Value) (xs : List Int) : Prop := ownsM w B 5 v (xs.map (Value.int .u8))
theorem ownMB.later {w w' : World} {B : Nat} {v : Value} {xs : List Int} (h : ownMB w B v xs) (hb : Below w.heap.size w w') : ownMB w' B v xs := ownsM.later h hb
/-- What an append keeps: every block but the row's own, and no old block becomes the row's own. -/
def KeepG (v : Value) (w : World) (v' : Value) (w' : World) : Prop := (∀ k, k < w.heap.size → some k ≠ v.ownBlock → w'.heap[k]? = w.heap[k]?) ∧ ∀ k, k < w.heap.size → some k ≠ v.ownBlock → some k ≠ v'.ownBlock
theorem app_mstr {wr : World} {ops : Array Oper} {rest : List Oper} {o : Oper} {a : Act} {Q : Exit → Act → World → Prop} (hgd : o.guard = none) (s x : Operand)
    (ho : o.op = .call { callee := .builtin .append, args := #[s, x], argTypes := #[64, 9] })
    (B : Nat) (v : Value) (xs : List Int) (t : ByteArray) (hown : ownMB wr B v xs) (hs : a.eval s = v) (hx : a.eval x = .string t)
    (hlen : xs.length + t.size ≤ 140737488355328) (hB : B ≤ wr.heap.size)
    (h : ∀ v' w', ownMB w' B v' (xs ++ txtN t) → Below B wr w' → KeepG v wr v' w' → wpList Tryz.prog ops Q rest (a.put o.dst v') w') :
    wpList Tryz.prog ops Q (o :: rest) a wr := by
  obtain ⟨i0, hi, hz0, hz1, hz2⟩ := info_parts infoB
  refine wpList_plain hgd fun K hK => ?_
  obtain ⟨v', w', hr, h2, h3, h4⟩ := run_append_M_str (P := Tryz.prog) wr B 64 9 o.type 5 i0 Tryz.underlying64 Tryz.underlying9 hi hz0 hz1 hz2 v _ hown t (by simpa using hlen) hB
  unfold Oper.wp execOp
  simp only [ho, resolve, invoke, builtin, Sem.run_bind, Sem.run_pure, Result.andThen_ok, List.map_toArray, List.map_cons, List.map_nil, hs, hx, hr]
  refine hK _ _ (h v' w' ?_ ?_ ⟨fun k hk hne => h3.block k hk hne, h4⟩)
  · unfold ownMB; rw [List.map_append, txtN_cells]; exact h2
  · exact (Below.refl _ _).grown h3 hB (fun k hk => (ownsM.lt hown k hk).1)
theorem app_mone {wr : World} {ops : Array Oper} {rest : List Oper} {o : Oper} {a : Act} {Q : Exit → Act → World → Prop} (hgd : o.guard = none) (s x : Operand)
    (ho : o.op = .call { callee := .builtin .append, args := #[s, x], argTypes := #[64, 64] })
    (B : Nat) (v : Value) (xs : List Int) (c : Int) (hown : ownMB wr B v xs) (hs : a.eval s = v) (g : Nat) (hg : g = wr.heap.size) (hx : a.eval x = .slice (some ⟨g, 0, none⟩) 1 1)
    (hlen : xs.length + 1 ≤ 140737488355328) (hB : B ≤ wr.heap.size)
    (h : ∀ v' w', ownMB w' B v' (xs ++ [c]) → Below B wr w' → KeepG v wr v' w' → wpList Tryz.prog ops Q rest (a.put o.dst v') w') :
    wpList Tryz.prog ops Q (o :: rest) a (wr.alloc (.cells #[.int .u8 c] 5)) := by
  subst hg
  obtain ⟨i0, hi, hz0, hz1, hz2⟩ := info_parts infoB
  refine wpList_plain hgd fun K hK => ?_
  have hown2 : ownMB (wr.alloc (.cells #[.int .u8 c] 5)) B v xs := hown.later ((Below.refl _ _).alloc (Nat.le_refl _) _)
  obtain ⟨v', w', hr, h2, h3, h4⟩ := run_append_M_row (P := Tryz.prog) (wr.alloc (.cells #[.int .u8 c] 5)) B 64 o.type 5 i0 Tryz.underlying64 hi hz0 hz1 hz2 v _ hown2 ⟨wr.heap.size, 0, none⟩ 1 1 [.int .u8 c] rfl
    (fun j u hj => by
      match j, hj with
      | 0, hj => simp at hj; subst hj; simp [Addr.add])
    (fun u hu => by simp at hu; subst hu; rfl) (by simpa using hlen) (by rw [sizeAl]; omega)
  unfold Oper.wp execOp
  simp only [ho, resolve, invoke, builtin, Sem.run_bind, Sem.run_pure, Result.andThen_ok, List.map_toArray, List.map_cons, List.map_nil, hs, hx, hr]
  have hlt : ∀ k, k < wr.heap.size → k < (wr.alloc (.cells #[.int .u8 c] 5)).heap.size := fun k hk => by rw [sizeAl]; omega
  refine hK _ _ (h v' w' ?_ ?_ ⟨fun k hk hne => (h3.block k (hlt k hk) hne).trans (Below.heap_alloc _ _ k hk), fun k hk hne => h4 k (hlt k hk) hne⟩)
  · unfold ownMB; rw [List.map_append]; exact h2
  · exact ((Below.refl _ _).alloc hB _).grown h3 (by rw [sizeAl]; omega) (fun k hk => (ownsM.lt hown k hk).1)
/-- string(b) -/
theorem ownMB.conv {w : World} {B : Nat} {v : Value} {xs : List Int} (h : ownMB w B v xs) :
    (convert 64 9 v).run Tryz.prog w = .ok (.string (strOfNums xs)) w := by
  have h' := h
  obtain ⟨g, cap, cur, fz, rfl, hb, hg, hz, hl, hm, hs, ht⟩ := h
  rw [List.length_map]
  refine run_convert_bytes_arg w 64 5 Tryz.underlying64 Tryz.underlying5 g 0 xs.length cap xs rfl (fun i hi => ?_) 9 Tryz.underlying9
  have hc := ownsM.cells (g := g) (n := (xs.map (Value.int .u8)).length) (cap := cap) h' i (.int .u8 xs[i]) (by simp [List.getElem?_eq_getElem hi])
  have hadd : (⟨g, 0, none⟩ : Addr).add i = ⟨g, 0 + i, none⟩ := by unfold Addr.add; split <;> simp_all
  rw [hadd] at hc
  rw [hc]
  simp [List.getElem?_eq_getElem hi]
/-- []byte(s) -/
theorem conv_bytes (w : World) (s : ByteArray) : (convert 9 64 (.string s)).run Tryz.prog w = .ok (.slice (some ⟨w.heap.size, 0, none⟩) s.size (grownCap w s.size 0 5)) (Lib.bytesWorld w 5 s) :=
  Lib.run_convert_string_bytes w 9 64 5 s Tryz.underlying9 Tryz.underlying64 Tryz.underlying5
theorem conv_ownMB (w : World) (B : Nat) (s : ByteArray) (hB : B ≤ w.heap.size) (hs : s.size ≤ 140737488355328) : ownMB (Lib.bytesWorld w 5 s) B (.slice (some ⟨w.heap.size, 0, none⟩) s.size (grownCap w s.size 0 5)) (txtN s) ∧ Below w.heap.size w (Lib.bytesWorld w 5 s) := by
  unfold ownMB
  rw [txtN_cells]
  exact conv_own w B 5 s hB (by unfold maxLen; omega)
theorem strTxt (t : ByteArray) : strOfNums (txtN t) = t := by
  have : (strOfNums (txtN t)).data.toList = t.data.toList := by
    rw [strOfNums_data]
    unfold txtN
    rw [List.map_map]
    conv => rhs; rw [← List.map_id t.data.toList]
    apply List.map_congr_left
    intro x _
    simp
  cases h1 : strOfNums (txtN t)
  cases t
  rw [h1] at this
  congr 1
  exact Array.toList_inj.1 this
theorem txtStr (xs : List Int) (h : ∀ x ∈ xs, 0 ≤ x ∧ x < 256) : txtN (strOfNums xs) = xs := by
  unfold txtN
  rw [strOfNums_data, List.map_map]
  conv => rhs; rw [← List.map_id xs]
  apply List.map_congr_left
  intro x hx
  have := h x hx
  simp only [Function.comp, id]
  rw [UInt8.toNat_ofNat']
  omega
theorem strApp (xs ys : List Int) : strOfNums (xs ++ ys) = strOfNums xs ++ strOfNums ys := by
  have : (strOfNums (xs ++ ys)).data.toList = (strOfNums xs ++ strOfNums ys).data.toList := by
    rw [strOfNums_data, ByteArray.data_append, Array.toList_append, strOfNums_data, strOfNums_data, List.map_append]
  cases h1 : strOfNums (xs ++ ys)
  cases h2 : strOfNums xs ++ strOfNums ys
  rw [h1, h2] at this
  congr 1
  exact Array.toList_inj.1 this
theorem wp_app_str {w : World} {o : Oper} {a : Act} {K : Act → World → Prop} {Q : Exit → Act → World → Prop} (s x : Operand) (t u : TypeId) (ho : o.op = .call { callee := .builtin .append, args := #[s, x], argTypes := #[t, u] }) {v xv v' : Value} {w' : World} (hs : a.eval s = v) (hx : a.eval x = xv)
    (hrun : (Builtin.append_ #[t, u] o.type #[v, xv]).run Tryz.prog w = .ok v' w') (h : K (a.put o.dst v') w') : o.wp Tryz.prog a w K Q := by
  unfold Oper.wp
  simp [execOp, ho, resolve, invoke, builtin, hs, hx, hrun, Result.andThen]
  exact h
/-- Nothing but the blocks of K is changed. -/
structure Kept (K : Nat → Prop) (w w' : World) : Prop where
  os : w'.os = w.os
  tape : w'.tape = w.tape
  output : w'.output = w.output
  size : w.heap.size ≤ w'.heap.size
  block : ∀ k, k < w.heap.size → ¬ K k → w'.heap[k]? = w.heap[k]?
theorem Kept.cell {K : Nat → Prop} {w w' : World} (h : Kept K w w') {p : Addr} (hp : p.block < w.heap.size) (hn : ¬ K p.block) : w'.cell? p = w.cell? p := World.cell?_of_block (w := w) (h.block p.block hp hn)
theorem Kept.below {K : Nat → Prop} {w w' : World} (h : Kept K w w') {B : Nat} (hB : B ≤ w.heap.size) (hK : ∀ k, k < B → ¬ K k) : Below B w w' := ⟨h.os, h.tape, h.output, h.size, fun k hk => h.block k (Nat.lt_of_lt_of_le hk hB) (hK k hk)⟩
/-- A writer in block g that has gathered the bytes xs, in block vb. -/
structure Wr (w : World) (B g vb : Nat) (xs : List Int) : Prop where
  ex : ∃ n cap, w.cell? ⟨g, 0, none⟩ = some (.slice (some ⟨vb, 0, none⟩) n cap) ∧ ownMB w B (.slice (some ⟨vb, 0, none⟩) n cap) xs
  fr : w.frozen? ⟨g, 0, none⟩ = false
  ne : vb ≠ g
  lo : B ≤ g
theorem Wr.keep {w w' : World} {B g vb : Nat} {xs : List Int} {K : Nat → Prop} (h : Wr w B g vb xs) (hk : Kept K w w') (h1 : ¬ K g) (h2 : ¬ K vb) : Wr w' B g vb xs := by
  obtain ⟨⟨n, cap, hc, ho⟩, hf, hne, hlo⟩ := h
  have hg : g < w.heap.size := cell_ltM hc
  have hv := (ownsM.lt ho vb rfl).2
  refine ⟨⟨n, cap, (hk.cell (p := ⟨g, 0, none⟩) hg h1).trans hc, ?_⟩, (World.frozen?_of_block (w := w) (hk.block g hg h1)).trans hf, hne, hlo⟩
  obtain ⟨g', cap', cur, fz, he, hb, hh, hr⟩ := ho
  have e : vb = g' := by injection he with he; injection he with he; injection he
  subst e
  exact ⟨vb, cap', cur, fz, he, hb, (hk.block vb hv h2).trans hh, hr⟩
set_option maxHeartbeats 1600000 in
theorem text_any (w : World) (B g vb : Nat) (xs : List Int) (t : ByteArray) (h : Wr w B g vb xs) (hl : xs.length + t.size ≤ 140737488355328) (hB : B ≤ w.heap.size) :
    Calls Tryz.prog 43 #[.pointer (some ⟨g, 0, none⟩), .string t] w fun e w' => e = .returned (.tuple #[]) ∧ ∃ vb', Wr w' B g vb' (xs ++ txtN t) ∧ (vb' = vb ∨ w.heap.size ≤ vb') ∧ Kept (fun k => k = g ∨ k = vb) w w' := by
  obtain ⟨⟨n, cap, hc, ho⟩, hf, hne, hlo⟩ := h
  have hgl : g < w.heap.size := cell_ltM hc
  have HO : Hid (ownMB w B (.slice (some ⟨vb, 0, none⟩) n cap) xs) := ho
  obtain ⟨i0, hi, hz0, hz1, hz2⟩ := info_parts infoB
  obtain ⟨v1, w1, hrun, hown, hgrow, hloc⟩ := run_append_M_str (P := Tryz.prog) w B 64 9 64 5 i0 Tryz.underlying64 Tryz.underlying9 hi hz0 hz1 hz2 _ _ ho t (by simpa using hl) hB
  have hg1 : w1.heap[g]? = w.heap[g]? := hgrow.block g hgl (fun e => by simp only [Value.ownBlock, Option.some.injEq] at e; exact hne e.symm)
  have c1 : w1.cell? ⟨g, 0, none⟩ = some (.slice (some ⟨vb, 0, none⟩) n cap) := (World.cell?_of_block (a := ⟨g, 0, none⟩) hg1).trans hc
  have f1 : w1.frozen? ⟨g, 0, none⟩ = false := (World.frozen?_of_block (a := ⟨g, 0, none⟩) hg1).trans hf
  have hv1 := hown
  obtain ⟨g', cap', cur, fz, he, hb, hh, hr⟩ := hv1
  subst he
  have hng : g' ≠ g := fun e => by
    refine hloc g hgl (fun e2 => ?_) (by rw [e]; rfl)
    simp only [Value.ownBlock, Option.some.injEq] at e2
    exact hne e2.symm
  have HFIN : Hid (∃ vb', Wr (w1.setCell ⟨g, 0, none⟩ (.slice (some ⟨g', 0, none⟩) (xs.map (Value.int .u8) ++ Lib.strCells t).length cap')) B g vb' (xs ++ txtN t) ∧ (vb' = vb ∨ w.heap.size ≤ vb') ∧ Kept (fun k => k = g ∨ k = vb) w (w1.setCell ⟨g, 0, none⟩ (.slice (some ⟨g', 0, none⟩) (xs.map (Value.int .u8) ++ Lib.strCells t).length cap'))) := by
    refine ⟨g', ⟨⟨_, _, World.cell?_setCell_same _ _ _ c1, ?_⟩, by rw [World.frozen?_setCell]; exact f1, hng, hlo⟩, ?_, ⟨hgrow.os, hgrow.tape, hgrow.output, by simpa using hgrow.size, fun k hk hn => (Below.heap_setCell _ _ _ _ (fun (e : k = g) => hn (Or.inl e))).trans (hgrow.block k hk (fun e => hn (Or.inr (by simpa [Value.ownBlock] using e))))⟩⟩
    · unfold ownMB
      rw [List.map_append, txtN_cells]
      exact ⟨g', cap', cur, fz, rfl, hb, (Below.heap_setCell _ _ _ _ (fun (e : g' = g) => hng e)).trans hh, hr⟩
    · by_cases hgl' : g' < w.heap.size
      · left
        by_cases e : g' = vb
        · exact e
        · exact absurd rfl (hloc g' hgl' (fun e2 => by simp only [Value.ownBlock, Option.some.injEq] at e2; exact e e2))
      · right; omega
  clear hown hgrow hloc hh hr hz0 hz1 hz2 hg1 ho
  generalize (xs.map (Value.int .u8) ++ Lib.strCells t).length = n1 at *
  go_enter Tryz.func43, Tryz.ntmps43
  go_wp2_with (at_builtin; refine wpList_plain (by rfl) fun _ hK => ?_; refine wp_app_str _ _ 64 9 (by rfl) (by rfl) (by rfl) hrun ?_; refine hK _ _ ?_)
  refine bodyPost_end (results_none rfl _ _ _) rfl ⟨rfl, ?_⟩
  exact HFIN.out
end Go.Proofs.YtbfjnidpjmhfiaaGreatDoor
