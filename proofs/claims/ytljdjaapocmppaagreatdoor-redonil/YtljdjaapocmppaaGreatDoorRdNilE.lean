import Derived.Test.YtljdjaapocmppaaGreatDoorRdUnm
namespace Go.Proofs.YtljdjaapocmppaaGreatDoor
open Go.ChangeShapes Go.WideShapes Go.ChangeAt Go.RowKit
set_option linter.unusedVariables false
set_option maxRecDepth 100000
theorem infoEr0 : (Tryz.prog.info? 38).map (fun i => (i.zero, i.size, i.bytes)) = some (some (.int .i64 0), 1, 8) := by kernel_rfl
/-- A list of errors in a row of the call's own. -/
def ownE (w : World) (B : Nat) (v : Value) (xs : List Int) : Prop := w.ownsRow B 38 1 v xs.length (xs.map (Value.int .i64))
theorem ownE_nil (w : World) (B : Nat) : ownE w B (.slice none 0 0) [] := World.ownsRow_nil _ _ _ _
theorem ownE.later {w w' : World} {B : Nat} {v : Value} {xs : List Int} (h : ownE w B v xs) (hb : Below w.heap.size w w') : ownE w' B v xs :=
  ownsRow_of_block h (fun g hg => by obtain ⟨h1, h2⟩ := World.ownsRow.lt h g hg; exact hb.block g h2)
theorem ownE.form {w : World} {B : Nat} {v : Value} {xs : List Int} (h : ownE w B v xs) : ∃ sp cap, v = .slice sp xs.length cap ∧ ∀ i (hi : i < xs.length), ∃ g, sp = some ⟨g, 0, none⟩ ∧ w.cell? ⟨g, i, none⟩ = some (.int .i64 xs[i]) := by
  rcases h.2 with ⟨rfl, hn⟩ | ⟨g, cap, cur, rfl, h1, h2, h3⟩
  · exact ⟨none, 0, by rw [hn], fun i hi => by omega⟩
  · refine ⟨some ⟨g, 0, none⟩, cap, rfl, fun i hi => ⟨g, rfl, ?_⟩⟩
    have := World.ownsRow.cellAt (g := g) (cap := cap) h i (by omega)
    rw [this]
    simp [List.getElem?_eq_getElem hi]
theorem app_errR {wr : World} {ops : Array Oper} {rest : List Oper} {o : Oper} {a : Act} {Q : Exit → Act → World → Prop} (hgd : o.guard = none) (s x : Operand)
    (ho : o.op = .call { callee := .builtin .append, args := #[s, x], argTypes := #[61, 61] })
    (B : Nat) (v : Value) (xs : List Int) (c : Int) (hown : ownE wr B v xs) (hs : a.eval s = v) (hx : a.eval x = .slice (some ⟨wr.heap.size, 0, none⟩) 1 1)
    (hlen : (xs.length + 1) * 8 ≤ 140737488355328) (hB : B ≤ wr.heap.size)
    (h : ∀ v' w', ownE w' B v' (xs ++ [c]) → Below B wr w' → wpList Tryz.prog ops Q rest (a.put o.dst v') w') :
    wpList Tryz.prog ops Q (o :: rest) a (wr.alloc (.cells #[.int .i64 c] 38)) := by
  obtain ⟨i0, hi, hz0, hz1, hz2⟩ := info_partsR infoEr0
  refine wpList_append_own _ hgd s x 61 ho B 38 i0 (.int .i64 0) 1 8 Tryz.underlying61 hi hz0 hz1 hz2 rfl (by decide) v xs.length _ hs (World.ownsRow.alloc hown _)
    ⟨wr.heap.size, 0, none⟩ 1 1 [.int .i64 c] hx rfl ?_ ?_ (by unfold maxLen; omega) (by omega) (by simp; omega) ?_
  · intro j u hj
    match j, hj with
    | 0, hj => simp at hj; subst hj; simp [Addr.add]
  · intro u hu; simp at hu; subst hu; rfl
  · intro v' w' hown' hgrow _
    refine h v' w' ?_ ?_
    · have : (xs ++ [c]).length = xs.length + 1 := by simp
      unfold ownE; rw [this, List.map_append]; exact hown'
    · exact ((Below.refl _ _).alloc hB _).grown hgrow (by simp; omega) (fun k hk => (World.ownsRow.lt hown k hk).1)
/-- What stands while nobody is asked: the law's argument in its block, and what came in. -/
abbrev RN (w0 : World) (ao : Option Addr) (us : List Int) (nm to : ByteArray) (i l bt : Int) (sl : Value) (W : World) : Prop := RC w0 w0.heap.size none none ao us nm to i l bt sl W
theorem RN.stepB {w0 : World} {ao : Option Addr} {us : List Int} {nm to : ByteArray} {i l bt : Int} {sl : Value} {W W' : World} (hb : Below (w0.heap.size + 1) W W') (h : RN w0 ao us nm to i l bt sl W) : RN w0 ao us nm to i l bt sl W' := by
  obtain ⟨c1, c2, c3, c4, c5, c6, H⟩ := h
  have hz : w0.heap.size < w0.heap.size + 1 := by omega
  exact ⟨(hb.cell (p := ⟨w0.heap.size, 1, none⟩) hz).trans c1, (hb.cell (p := ⟨w0.heap.size, 2, none⟩) hz).trans c2, (hb.cell (p := ⟨w0.heap.size, 3, none⟩) hz).trans c3, (hb.cell (p := ⟨w0.heap.size, 4, none⟩) hz).trans c4, (hb.cell (p := ⟨w0.heap.size, 5, none⟩) hz).trans c5, (hb.cell (p := ⟨w0.heap.size, 6, none⟩) hz).trans c6, ⟨Nat.lt_of_lt_of_le H.out.z hb.size, H.out.b.trans (hb.mono (by omega)), .inl rfl, .inl rfl, H.out.s.later (hb.mono (by omega))⟩⟩
theorem RN.step {w0 : World} {ao : Option Addr} {us : List Int} {nm to : ByteArray} {i l bt : Int} {sl : Value} {W W' : World} (hb : Below W.heap.size W W') (h : RN w0 ao us nm to i l bt sl W) : RN w0 ao us nm to i l bt sl W' := RC.step hb h
theorem RN.size {w0 : World} {ao : Option Addr} {us : List Int} {nm to : ByteArray} {i l bt : Int} {sl : Value} {W : World} (h : RN w0 ao us nm to i l bt sl W) : w0.heap.size + 1 ≤ W.heap.size := (RC.rs h).z
theorem RN_start (k : Int) (nm to : ByteArray) (i : Int) (ao : Option Addr) (cap : Nat) (l bt : Int) (pa : Option Addr) (pn pc : Nat) (us : List Int) (w : World) (hs : SeesN w w.heap.size ao us) :
    RN w ao us nm to i l bt (.slice ao us.length cap) (w.alloc (.cells #[.int .i64 k, .string nm, .string to, .int .i64 i, .slice ao us.length cap, .int .u64 l, .int .i64 bt, .slice pa pn pc] 26)) := by
  have hb := bel1 w (.cells #[.int .i64 k, .string nm, .string to, .int .i64 i, .slice ao us.length cap, .int .u64 l, .int .i64 bt, .slice pa pn pc] 26)
  exact ⟨by simp [go_sem], by simp [go_sem], by simp [go_sem], by simp [go_sem], by simp [go_sem], by simp [go_sem], ⟨by simp only [sizeA]; omega, hb, .inl rfl, .inl rfl, hs.later hb⟩⟩
/-- Asked of nobody: what is told, and what else stands. -/
abbrev RO (w0 : World) (ao : Option Addr) (us : List Int) (nm to : ByteArray) (i l bt : Int) (sl : Value) (v : Value) (xs : List Int) (W : World) : Prop :=
  W.cell? ⟨w0.heap.size, 1, none⟩ = some (.string nm) ∧ W.cell? ⟨w0.heap.size, 2, none⟩ = some (.string to) ∧ W.cell? ⟨w0.heap.size, 3, none⟩ = some (.int .i64 i) ∧ W.cell? ⟨w0.heap.size, 4, none⟩ = some sl ∧ W.cell? ⟨w0.heap.size, 5, none⟩ = some (.int .u64 l) ∧ W.cell? ⟨w0.heap.size, 6, none⟩ = some (.int .i64 bt) ∧ Hid (RS w0 w0.heap.size none none ao us W ∧ ownE W (w0.heap.size + 1) v xs)
theorem RO.mk {w0 : World} {ao : Option Addr} {us : List Int} {nm to : ByteArray} {i l bt : Int} {sl : Value} {v : Value} {xs : List Int} {W : World} (h : RN w0 ao us nm to i l bt sl W) (ho : ownE W (w0.heap.size + 1) v xs) : RO w0 ao us nm to i l bt sl v xs W := by
  obtain ⟨c1, c2, c3, c4, c5, c6, H⟩ := h
  exact ⟨c1, c2, c3, c4, c5, c6, ⟨H.out, ho⟩⟩
theorem RO.rn {w0 : World} {ao : Option Addr} {us : List Int} {nm to : ByteArray} {i l bt : Int} {sl : Value} {v : Value} {xs : List Int} {W : World} (h : RO w0 ao us nm to i l bt sl v xs W) : RN w0 ao us nm to i l bt sl W := by
  obtain ⟨c1, c2, c3, c4, c5, c6, H⟩ := h
  exact ⟨c1, c2, c3, c4, c5, c6, H.out.1⟩
theorem RO.own {w0 : World} {ao : Option Addr} {us : List Int} {nm to : ByteArray} {i l bt : Int} {sl : Value} {v : Value} {xs : List Int} {W : World} (h : RO w0 ao us nm to i l bt sl v xs W) : ownE W (w0.heap.size + 1) v xs := h.2.2.2.2.2.2.out.2
theorem RO.step {w0 : World} {ao : Option Addr} {us : List Int} {nm to : ByteArray} {i l bt : Int} {sl : Value} {v : Value} {xs : List Int} {W W' : World} (hb : Below W.heap.size W W') (h : RO w0 ao us nm to i l bt sl v xs W) : RO w0 ao us nm to i l bt sl v xs W' := RO.mk (RN.step hb (RO.rn h)) ((RO.own h).later hb)
theorem RO.drew {w0 : World} {ao : Option Addr} {us : List Int} {nm to : ByteArray} {i l bt : Int} {sl : Value} {v : Value} {xs : List Int} {W : World} (h : RO w0 ao us nm to i l bt sl v xs W) : RO w0 ao us nm to i l bt sl v xs W.drew := RO.step (Below.refl _ _).drew h
end Go.Proofs.YtljdjaapocmppaaGreatDoor
