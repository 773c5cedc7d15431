import Derived.Test.YtljdjaapocmppaaGreatDoorRdNil
namespace Go.Proofs.YtljdjaapocmppaaGreatDoor
open Go.ChangeShapes Go.WideShapes Go.ChangeAt Go.RowKit
set_option linter.unusedVariables false
set_option maxRecDepth 100000
theorem info_partsR {P : Program} {t : TypeId} {z : Value} {s b : Nat} (h : (P.info? t).map (fun i => (i.zero, i.size, i.bytes)) = some (some z, s, b)) : ∃ i0 : TypeInfo, P.info? t = some i0 ∧ i0.zero = some z ∧ i0.size = s ∧ i0.bytes = b := by
  match e : P.info? t with
  | none => rw [e] at h; cases h
  | some i0 =>
    rw [e] at h
    simp only [Option.map_some, Option.some.injEq, Prod.mk.injEq] at h
    exact ⟨i0, rfl, h.1, h.2.1, h.2.2⟩
theorem app_intR {wr : World} {ops : Array Oper} {rest : List Oper} {o : Oper} {a : Act} {Q : Exit → Act → World → Prop} (hgd : o.guard = none) (s x : Operand)
    (ho : o.op = .call { callee := .builtin .append, args := #[s, x], argTypes := #[22, 22] })
    (B : Nat) (v : Value) (xs : List Int) (c : Int) (hown : ownI wr B v xs) (hs : a.eval s = v) (hx : a.eval x = .slice (some ⟨wr.heap.size, 0, none⟩) 1 1)
    (hlen : (xs.length + 1) * 8 ≤ 140737488355328) (hB : B ≤ wr.heap.size)
    (h : ∀ v' w', ownI w' B v' (xs ++ [c]) → Below B wr w' → wpList Tryz.prog ops Q rest (a.put o.dst v') w') :
    wpList Tryz.prog ops Q (o :: rest) a (wr.alloc (.cells #[.int .i64 c] 3)) := by
  obtain ⟨i0, hi, hz0, hz1, hz2⟩ := infoI
  refine wpList_append_own _ hgd s x 22 ho B 3 i0 (.int .i64 0) 1 8 Tryz.underlying22 hi hz0 hz1 hz2 rfl (by decide) v xs.length _ hs (World.ownsRow.alloc hown _)
    ⟨wr.heap.size, 0, none⟩ 1 1 [.int .i64 c] hx rfl ?_ ?_ (by unfold maxLen; omega) (by omega) (by simp; omega) ?_
  · intro j u hj
    match j, hj with
    | 0, hj => simp at hj; subst hj; simp [Addr.add]
  · intro u hu; simp at hu; subst hu; rfl
  · intro v' w' hown' hgrow _
    refine h v' w' ?_ ?_
    · have : (xs ++ [c]).length = xs.length + 1 := by simp
      unfold ownI; rw [this, List.map_append]; exact hown'
    · exact ((Below.refl _ _).alloc hB _).grown hgrow (by simp; omega) (fun k hk => (World.ownsRow.lt hown k hk).1)
theorem copied_any (ao : Option Addr) (cap : Nat) (us : List Int) (B : Nat) (w : World) (hB : B ≤ w.heap.size) (hs : SeesN w B ao us) (hl : us.length * 8 ≤ 140737488351232) :
    Calls Tryz.prog 19 #[.slice ao us.length cap] w fun e w' => ∃ v, e = .returned v ∧ Below w.heap.size w w' := by
  have HA : Hid _ := hs
  clear hs
  go_enter Tryz.func19, Tryz.ntmps19
  go_wp2_with fail
  go_loopw [3, 4] (fun c i wr => ∃ k : Nat, k ≤ us.length ∧ i = .int .i64 k ∧ ownI wr w.heap.size c (us.take k) ∧ Below w.heap.size w wr) (fun _ i _ => us.length - (intOf i).toNat)
  case atStart => exact ⟨0, by omega, rfl, ownI_nil _ _, Below.refl _ _⟩
  case round =>
    obtain ⟨k, hk1, rfl, hown, hbel⟩ := hrel
    have HO : Hid (ownI wr w.heap.size _ (us.take k)) := hown
    have HW : Hid (Below w.heap.size w wr) := hbel
    have hsz : w.heap.size ≤ wr.heap.size := hbel.size
    clear hbel hown
    by_cases h1 : k < us.length
    · obtain ⟨b1, o1, e1, hb1, x0⟩ := HA.out k h1
      have y0 := (HW.out.cell (p := ⟨b1, o1 + k, none⟩) (by simp only; omega)).trans x0
      clear x0
      subst e1
      have HT : Hid (us.take (k + 1) = us.take k ++ [us[k]]) := by show _ = _; rw [List.take_add_one, List.getElem?_eq_getElem h1]; rfl
      have hlt : (us.take k).length = k := by rw [List.length_take]; omega
      have HL : Hid (((us.take k).length + 1) * 8 ≤ 140737488355328) := by show _ ≤ _; omega
      clear hlt
      go_wp2_with (at_builtin; refine app_intR (by rfl) _ _ (by rfl) w.heap.size _ (us.take k) us[k] HO.out (by rfl) (by rfl) HL.out hsz ?_; intro v' w6 hown6 hbel6; have HO6 : Hid (ownI w6 w.heap.size v' _) := hown6; have HB6 : Hid (Below w.heap.size w w6) := HW.out.trans hbel6; clear hown6 hbel6)
      go_roundw
      case rel => exact ⟨k + 1, by omega, by go_num, by rw [HT.out]; exact HO6.out, HB6.out⟩
      case measure => simp [intOf]; omega
    · go_wp2
      go_ret
      exact ⟨_, rfl, HW.out⟩
theorem num_any (n : Int) (w : World) : Calls Tryz.prog 21 #[.int .i64 n] w fun e w' => e = .returned (.int .i64 n) ∧ w' = w := by
  go_enter Tryz.func21, Tryz.ntmps21
  go_wp2
  go_ret
  exact ⟨rfl, rfl⟩
/-- What stands while the calls are made: the law's argument in its block, no device, no log. -/
structure RS (w0 : World) (n : Nat) (pd pl : Option Addr) (ao : Option Addr) (us : List Int) (W : World) : Prop where
  z : n < W.heap.size
  b : Below w0.heap.size w0 W
  d : NoD pd W
  l : NoD pl W
  s : SeesN W w0.heap.size ao us
theorem RS.step {w0 : World} {n : Nat} {pd pl ao : Option Addr} {us : List Int} {W W' : World} (h : RS w0 n pd pl ao us W) (hb : Below W.heap.size W W') : RS w0 n pd pl ao us W' :=
  ⟨Nat.lt_of_lt_of_le h.z hb.size, h.b.trans (hb.mono h.b.size), h.d.step hb, h.l.step hb, h.s.later (hb.mono h.b.size)⟩
/-- The same with the argument's cells. -/
abbrev RC (w0 : World) (n : Nat) (pd pl ao : Option Addr) (us : List Int) (nm to : ByteArray) (i l bt : Int) (sl : Value) (W : World) : Prop :=
  W.cell? ⟨n, 1, none⟩ = some (.string nm) ∧ W.cell? ⟨n, 2, none⟩ = some (.string to) ∧ W.cell? ⟨n, 3, none⟩ = some (.int .i64 i) ∧ W.cell? ⟨n, 4, none⟩ = some sl ∧ W.cell? ⟨n, 5, none⟩ = some (.int .u64 l) ∧ W.cell? ⟨n, 6, none⟩ = some (.int .i64 bt) ∧ Hid (RS w0 n pd pl ao us W)
theorem RC.step {w0 : World} {n : Nat} {pd pl ao : Option Addr} {us : List Int} {nm to : ByteArray} {i l bt : Int} {sl : Value} {W W' : World} (hb : Below W.heap.size W W') (h : RC w0 n pd pl ao us nm to i l bt sl W) : RC w0 n pd pl ao us nm to i l bt sl W' := by
  obtain ⟨c1, c2, c3, c4, c5, c6, H⟩ := h
  have hz := H.out.z
  exact ⟨(hb.cell (p := ⟨n, 1, none⟩) hz).trans c1, (hb.cell (p := ⟨n, 2, none⟩) hz).trans c2, (hb.cell (p := ⟨n, 3, none⟩) hz).trans c3, (hb.cell (p := ⟨n, 4, none⟩) hz).trans c4, (hb.cell (p := ⟨n, 5, none⟩) hz).trans c5, (hb.cell (p := ⟨n, 6, none⟩) hz).trans c6, H.out.step hb⟩
theorem RC.drew {w0 : World} {n : Nat} {pd pl ao : Option Addr} {us : List Int} {nm to : ByteArray} {i l bt : Int} {sl : Value} {W : World} (h : RC w0 n pd pl ao us nm to i l bt sl W) : RC w0 n pd pl ao us nm to i l bt sl W.drew := RC.step (Below.refl _ _).drew h
theorem RC.rs {w0 : World} {n : Nat} {pd pl ao : Option Addr} {us : List Int} {nm to : ByteArray} {i l bt : Int} {sl : Value} {W : World} (h : RC w0 n pd pl ao us nm to i l bt sl W) : RS w0 n pd pl ao us W := h.2.2.2.2.2.2
end Go.Proofs.YtljdjaapocmppaaGreatDoor
