import Derived.Test.YtoomekcglniohaaDoorSpF
namespace Go.Proofs.YtoomekcglniohaaDoor
open Go.ChangeShapes Go.WideShapes Go.ChangeAt Go.RowKit
set_option linter.unusedVariables false
set_option maxRecDepth 100000
/-- The slice value v holds the values vs, in blocks below B. -/
def SeesV (w : World) (B : Nat) (v : Value) (vs : List VL) : Prop :=
  ∃ ao cap, v = .slice ao vs.length cap ∧ vs.length ≤ cap ∧ (∀ i (hi : i < vs.length), ∃ b off, ao = some ⟨b, off, none⟩ ∧ b < B ∧ w.cell? ⟨b, off + i * 3, none⟩ = some (.int .i64 vs[i].1) ∧ w.cell? ⟨b, off + i * 3 + 1, none⟩ = some (.int .i64 vs[i].2.1) ∧ w.cell? ⟨b, off + i * 3 + 2, none⟩ = some (.string vs[i].2.2))
theorem SeesV.later {w w' : World} {B : Nat} {v : Value} {vs : List VL} (h : SeesV w B v vs) (hb : Below B w w') : SeesV w' B v vs := by
  obtain ⟨ao, cap, rfl, h1, h3⟩ := h
  refine ⟨ao, cap, rfl, h1, fun i hi => ?_⟩
  obtain ⟨b, off, e, hbB, c0, c1, c2⟩ := h3 i hi
  exact ⟨b, off, e, hbB, by rw [hb.cell hbB]; exact c0, by rw [hb.cell hbB]; exact c1, by rw [hb.cell hbB]; exact c2⟩
theorem SeesV.up {w : World} {B C : Nat} {v : Value} {vs : List VL} (h : SeesV w B v vs) (hb : B ≤ C) : SeesV w C v vs := by
  obtain ⟨a, cap, h1, h2, h3⟩ := h
  exact ⟨a, cap, h1, h2, fun i hi => by obtain ⟨b, off, e1, e2, e3⟩ := h3 i hi; exact ⟨b, off, e1, by omega, e3⟩⟩
theorem SeesV.form {w : World} {B : Nat} {v : Value} {vs : List VL} (h : SeesV w B v vs) : ∃ a cap, v = .slice a vs.length cap := by
  obtain ⟨a, cap, e, _⟩ := h
  exact ⟨a, cap, e⟩
theorem SeesV.cell {w : World} {B n cap : Nat} {a : Option Addr} {vs : List VL} (h : SeesV w B (.slice a n cap) vs) (i : Nat) (hi : i < vs.length) : ∃ b off, a = some ⟨b, off, none⟩ ∧ w.cell? ⟨b, off + i * 3, none⟩ = some (.int .i64 vs[i].1) ∧ w.cell? ⟨b, off + i * 3 + 1, none⟩ = some (.int .i64 vs[i].2.1) ∧ w.cell? ⟨b, off + i * 3 + 2, none⟩ = some (.string vs[i].2.2) := by
  obtain ⟨ao, cap', e, h1, h3⟩ := h
  injection e with e1 e2 e3
  subst e1
  obtain ⟨b, off, e, _, c0, c1, c2⟩ := h3 i hi
  exact ⟨b, off, e, c0, c1, c2⟩
theorem map_tx (l : List (List UInt8)) : (l.map tx).map (·.data.toList) = l := by
  induction l with
  | nil => rfl
  | cons a l ih => rw [List.map_cons, List.map_cons, ih, tx_list]
theorem take_map {α β : Type} (f : α → β) (l : List α) (k : Nat) (h : k < l.length) : (l.take k).map f ++ [f l[k]] = (l.take (k + 1)).map f := by
  rw [List.take_succ_eq_append_getElem h, List.map_append]
  rfl
set_option maxHeartbeats 4000000 in
theorem namesT (v : Value) (xs : List ByteArray) (B : Nat) (w : World) (hB : B ≤ w.heap.size) (hv : SeesG Value.string w B v xs) (hl : xs.length ≤ 1048576) (hx : ∀ i (h : i < xs.length), xs[i].size ≤ 1048576) (hlen : (listL (xs.map quotL)).length ≤ 70368744177664) (hg : GW w) :
    Calls Tryd.prog 20 #[v, .func (.func 21) #[] #[]] w fun e w' => e = .returned (.string (tx (listL (xs.map quotL)))) ∧ Below w.heap.size w w' := by
  obtain ⟨a, cap, rfl⟩ := hv.form
  have HV : Hid (SeesG Value.string w B (.slice a xs.length cap) xs) := hv
  have HX : Hid (∀ i (h : i < xs.length), xs[i].size ≤ 1048576) := hx
  have HL : Hid ((listL (xs.map quotL)).length ≤ 70368744177664) := hlen
  have HG : Hid (GW w) := hg
  clear hv hx hlen hg
  go_enter Tryd.func20, Tryd.ntmps20
  go_wp2
  go_loopw [5, 7, 10] (fun c _ x wr => ∃ k : Nat, k ≤ xs.length ∧ x = .int .i64 (k : Int) ∧ ownS wr w.heap.size c ((xs.take k).map fun s => tx (quotL s)) ∧ Below w.heap.size w wr) (fun _ _ x _ => xs.length - (intOf x).toNat)
  case atStart => exact ⟨0, by omega, rfl, ownS_nil _ _, Below.refl _ _⟩
  case round =>
    obtain ⟨k, hk, rfl, ho, hb⟩ := hrel
    obtain ⟨ca, cc, rfl⟩ := ho.isSlice
    have HO : Hid (ownS wr w.heap.size (.slice ca ((xs.take k).map fun s => tx (quotL s)).length cc) ((xs.take k).map fun s => tx (quotL s))) := ho
    have HB : Hid (Below w.heap.size w wr) := hb
    have hsz := hb.size
    have hln : ((xs.take k).map fun s => tx (quotL s)).length = k := by rw [List.length_map, List.length_take]; omega
    have HLN : Hid (∀ _ : Unit, ((xs.take k).map fun s => tx (quotL s)).length = k) := fun _ => hln
    clear ho hb
    by_cases hkl : k < xs.length
    · have hki : (k : Int) < (xs.length : Int) := by omega
      obtain ⟨b, off, rfl, x0⟩ := (HV.out.later (HB.out.mono hB)).cell k hkl
      have HC : Hid (∀ _ : Unit, _) := fun _ => quotedT xs[k] wr (HX.out k hkl) (HG.out.next HB.out)
      have HN : Hid ((xs.take k).map (fun s => tx (quotL s)) ++ [tx (quotL xs[k])] = (xs.take (k + 1)).map fun s => tx (quotL s)) := take_map (fun s => tx (quotL s)) xs k hkl
      generalize tx (quotL xs[k]) = X at *
      generalize xs[k] = s at *
      generalize (xs.take k).map (fun s => tx (quotL s)) = L at *
      clear hln
      go_wp2_with fail
      refine (HC.out ()).mono ?_
      rintro e w1 ⟨rfl, hb1⟩
      have HO1 : Hid (ownS w1 w.heap.size (.slice ca L.length cc) L) := HO.out.later hb1
      have HB1 : Hid (Below w.heap.size w w1) := HB.out.trans (hb1.mono HB.out.size)
      have hs1 := hb1.size
      clear hb1
      go_wp2_with (at_builtin; refine app_text (by rfl) _ _ (by rfl) w.heap.size _ L X HO1.out (by rfl) w1.heap.size rfl (by rfl) (by rw [HLN.out ()]; omega) (by omega) ?_; intro v' w2 ho2 hb2; obtain ⟨a2, c2, rfl⟩ := ho2.isSlice; have HO2 : Hid _ := ho2; have HB2 : Hid (Below w.heap.size w w2) := HB1.out.trans hb2; clear ho2 hb2)
      go_roundw
      case rel => exact ⟨k + 1, by omega, by go_num, by
        rw [← HN.out]
        have h : ownS w2 w.heap.size (.slice a2 (L ++ [X]).length c2) (L ++ [X]) := HO2.out
        rw [show (L ++ [X]).length = L.length + 1 from by simp] at h
        exact h, HB2.out⟩
      case measure => simp [intOf]; omega
    · have hki : ¬ (k : Int) < (xs.length : Int) := by omega
      have hke : k = xs.length := by omega
      have HE : Hid ((xs.take k).map (fun s => tx (quotL s)) = (xs.map quotL).map tx) := by rw [hke, List.take_length, List.map_map]; rfl
      have HJ : Hid (∀ _ : Unit, Calls Tryd.prog 32 #[.slice ca ((xs.take k).map fun s => tx (quotL s)).length cc, .string ⟨#[44, 32]⟩] wr fun e w' => e = .returned (.string (tx (listL (xs.map quotL)))) ∧ Below wr.heap.size wr w') := fun _ => by
        have e : ((xs.take k).map (fun s => tx (quotL s))).map (·.data.toList) = xs.map quotL := by rw [HE.out, map_tx]
        have := joinT _ _ _ wr HO.out (by rw [HLN.out ()]; omega) (by rw [e]; exact HL.out)
        rw [e] at this
        exact this
      clear hln HE
      generalize (xs.take k).map (fun s => tx (quotL s)) = L at *
      go_wp2_with fail
      refine (HJ.out ()).mono ?_
      rintro e w1 ⟨rfl, hb1⟩
      have HB1 : Hid (Below w.heap.size w w1) := HB.out.trans (hb1.mono HB.out.size)
      clear hb1
      go_wp2
      go_ret
      exact ⟨rfl, HB1.out⟩
set_option maxHeartbeats 4000000 in
theorem valuesT (v : Value) (xs : List VL) (B : Nat) (w : World) (hB : B ≤ w.heap.size) (hv : SeesV w B v xs) (hl : xs.length ≤ 1048576) (hx : ∀ i (h : i < xs.length), VOK xs[i]) (hlen : (listL (xs.map valL)).length ≤ 70368744177664) (hg : GW w) :
    Calls Tryd.prog 22 #[v, .func (.func 23) #[] #[]] w fun e w' => e = .returned (.string (tx (listL (xs.map valL)))) ∧ Below w.heap.size w w' := by
  obtain ⟨a, cap, rfl⟩ := hv.form
  have HV : Hid (SeesV w B (.slice a xs.length cap) xs) := hv
  have HX : Hid (∀ i (h : i < xs.length), VOK xs[i]) := hx
  have HL : Hid ((listL (xs.map valL)).length ≤ 70368744177664) := hlen
  have HG : Hid (GW w) := hg
  clear hv hx hlen hg
  go_enter Tryd.func22, Tryd.ntmps22
  go_wp2
  go_loopw [5, 7, 10] (fun c _ x wr => ∃ k : Nat, k ≤ xs.length ∧ x = .int .i64 (k : Int) ∧ ownS wr w.heap.size c ((xs.take k).map fun s => tx (valL s)) ∧ Below w.heap.size w wr) (fun _ _ x _ => xs.length - (intOf x).toNat)
  case atStart => exact ⟨0, by omega, rfl, ownS_nil _ _, Below.refl _ _⟩
  case round =>
    obtain ⟨k, hk, rfl, ho, hb⟩ := hrel
    obtain ⟨ca, cc, rfl⟩ := ho.isSlice
    have HO : Hid (ownS wr w.heap.size (.slice ca ((xs.take k).map fun s => tx (valL s)).length cc) ((xs.take k).map fun s => tx (valL s))) := ho
    have HB : Hid (Below w.heap.size w wr) := hb
    have hsz := hb.size
    have hln : ((xs.take k).map fun s => tx (valL s)).length = k := by rw [List.length_map, List.length_take]; omega
    have HLN : Hid (∀ _ : Unit, ((xs.take k).map fun s => tx (valL s)).length = k) := fun _ => hln
    clear ho hb
    by_cases hkl : k < xs.length
    · have hki : (k : Int) < (xs.length : Int) := by omega
      obtain ⟨b, off, rfl, x0, x1, x2⟩ := (HV.out.later (HB.out.mono hB)).cell k hkl
      have HAb : Hid (Below wr.heap.size wr (wr.alloc (.cells #[.int .i64 xs[k].1, .int .i64 xs[k].2.1, .string xs[k].2.2] 65))) := (Below.refl _ _).alloc (Nat.le_refl _) _
      have HC : Hid (∀ _ : Unit, _) := fun _ => valueT xs[k] (HX.out k hkl) (wr.alloc (.cells #[.int .i64 xs[k].1, .int .i64 xs[k].2.1, .string xs[k].2.2] 65)) (HG.out.next (HB.out.trans (HAb.out.mono HB.out.size)))
      have HN : Hid ((xs.take k).map (fun s => tx (valL s)) ++ [tx (valL xs[k])] = (xs.take (k + 1)).map fun s => tx (valL s)) := take_map (fun s => tx (valL s)) xs k hkl
      generalize tx (valL xs[k]) = X at *
      generalize xs[k] = s at *
      obtain ⟨s1, s2, s3⟩ := s
      dsimp only at *
      generalize (xs.take k).map (fun s => tx (valL s)) = L at *
      clear hln
      go_wp2_with fail
      refine (HC.out ()).mono ?_
      rintro e w1 ⟨rfl, hb1⟩
      have HO1 : Hid (ownS w1 w.heap.size (.slice ca L.length cc) L) := (HO.out.later HAb.out).later hb1
      have HB1 : Hid (Below w.heap.size w w1) := (HB.out.trans (HAb.out.mono HB.out.size)).trans (hb1.mono (by have := HAb.out.size; omega))
      have hs1 : wr.heap.size ≤ w1.heap.size := by have := hb1.size; have := HAb.out.size; omega
      clear hb1
      go_wp2_with (at_builtin; refine app_text (by rfl) _ _ (by rfl) w.heap.size _ L X HO1.out (by rfl) w1.heap.size rfl (by rfl) (by rw [HLN.out ()]; omega) (by omega) ?_; intro v' w2 ho2 hb2; obtain ⟨a2, c2, rfl⟩ := ho2.isSlice; have HO2 : Hid _ := ho2; have HB2 : Hid (Below w.heap.size w w2) := HB1.out.trans hb2; clear ho2 hb2)
      go_roundw
      case rel => exact ⟨k + 1, by omega, by go_num, by
        rw [← HN.out]
        have h : ownS w2 w.heap.size (.slice a2 (L ++ [X]).length c2) (L ++ [X]) := HO2.out
        rw [show (L ++ [X]).length = L.length + 1 from by simp] at h
        exact h, HB2.out⟩
      case measure => simp [intOf]; omega
    · have hki : ¬ (k : Int) < (xs.length : Int) := by omega
      have hke : k = xs.length := by omega
      have HE : Hid ((xs.take k).map (fun s => tx (valL s)) = (xs.map valL).map tx) := by rw [hke, List.take_length, List.map_map]; rfl
      have HJ : Hid (∀ _ : Unit, Calls Tryd.prog 32 #[.slice ca ((xs.take k).map fun s => tx (valL s)).length cc, .string ⟨#[44, 32]⟩] wr fun e w' => e = .returned (.string (tx (listL (xs.map valL)))) ∧ Below wr.heap.size wr w') := fun _ => by
        have e : ((xs.take k).map (fun s => tx (valL s))).map (·.data.toList) = xs.map valL := by rw [HE.out, map_tx]
        have := joinT _ _ _ wr HO.out (by rw [HLN.out ()]; omega) (by rw [e]; exact HL.out)
        rw [e] at this
        exact this
      clear hln HE
      generalize (xs.take k).map (fun s => tx (valL s)) = L at *
      go_wp2_with fail
      refine (HJ.out ()).mono ?_
      rintro e w1 ⟨rfl, hb1⟩
      have HB1 : Hid (Below w.heap.size w w1) := HB.out.trans (hb1.mono HB.out.size)
      clear hb1
      go_wp2
      go_ret
      exact ⟨rfl, HB1.out⟩
end Go.Proofs.YtoomekcglniohaaDoor
