import Derived.Test.YtppfgcdfmdmffaaSchP9
namespace Go.Proofs.Ytppfgcdfmdmffaa
open Go.ChangeShapes Go.WideShapes Go.ChangeAt Go.RowKit
set_option linter.unusedVariables false

theorem app_bytes {wr : World} {ops : Array Oper} {rest : List Oper} {o : Oper} {a : Act} {Q : Exit → Act → World → Prop} (hgd : o.guard = none) (s x : Operand)
    (ho : o.op = .call { callee := .builtin .append, args := #[s, x], argTypes := #[63, 63] })
    (B : Nat) (v : Value) (xs : List Int) (hown : ownB wr B v xs) (hs : a.eval s = v) (B' : Nat) (y : Value) (ys : List Int) (hy : ownB wr B' y ys) (hne : ys ≠ []) (hx : a.eval x = y)
    (hlen : xs.length + ys.length ≤ 140737488355328) (hB : B ≤ wr.heap.size)
    (h : ∀ v' w', ownB w' B v' (xs ++ ys) → Below B wr w' → wpList Try.prog ops Q rest (a.put o.dst v') w') :
    wpList Try.prog ops Q (o :: rest) a wr := by
  obtain ⟨i0, hi, hz0, hz1, hz2⟩ := info_parts infoB
  have hy' := hy
  rcases hy.2 with ⟨e, e2⟩ | ⟨g, cap, cur, e, hb, hg, hnc, hm, hcs, ht⟩
  · exact absurd (List.length_eq_zero_iff.1 e2) hne
  · subst e
    refine wpList_append_own _ hgd s x 63 ho B 5 i0 (.int .u8 0) 1 1 Try.underlying63 hi hz0 hz1 hz2 rfl (by decide) v xs.length _ hs hown
      ⟨g, 0, none⟩ ys.length cap (ys.map (Value.int .u8)) hx (by simp) ?_ ?_ (by unfold maxLen; omega) (by omega) hB ?_
    · intro j u hj
      have hjl : j < ys.length := by
        rcases Nat.lt_or_ge j ys.length with h | h
        · exact h
        · rw [List.getElem?_eq_none (by simpa using h)] at hj; cases hj
      have ea : (⟨g, 0, none⟩ : Addr).add j = ⟨g, j, none⟩ := by unfold Addr.add; split <;> simp_all
      rw [ea, World.ownsRow.cellAt hy' j (by simpa using hjl)]
      exact hj
    · intro u hu
      obtain ⟨z, _, rfl⟩ := List.mem_map.1 hu
      rfl
    · intro v' w' hown' hgrow _
      refine h v' w' ?_ ?_
      · unfold ownB; rw [List.length_append, List.map_append]; exact hown'
      · exact (Below.refl _ _).grown hgrow hB (fun k hk => (World.ownsRow.lt hown k hk).1)
set_option maxRecDepth 100000 in
theorem ownB.len {w : World} {B : Nat} {v : Value} {xs : List Int} (h : ownB w B v xs) : (Builtin.len_ #[63] 3 #[v]).run Try.prog w = .ok (.int .i64 xs.length) w := by
  rcases h with ⟨h1, ⟨rfl, h2⟩ | ⟨g, cap, cur, rfl, hb, hg, hr⟩⟩
  · rw [h2]; rfl
  · rfl
theorem boL_len (p : Int × Int × Int) (last : Bool) : (boL p last).length ≤ 2 := by
  unfold boL
  (repeat' split) <;> simp
theorem ok_step (vs : List (Int × Int × Int)) (k : Nat) (h : k < vs.length) : okP (vs.drop k) = (!(boL vs[k] (vs.drop (k + 1)).isEmpty).isEmpty && okP (vs.drop (k + 1))) ∧ boA (vs.drop k) = boL vs[k] (vs.drop (k + 1)).isEmpty ++ boA (vs.drop (k + 1)) := by
  rw [List.drop_eq_getElem_cons h]
  exact ⟨rfl, rfl⟩
set_option maxRecDepth 100000 in
set_option maxHeartbeats 3200000 in
theorem refEncode (a : Value) (vs : List (Int × Int × Int)) (B : Nat) (w : World) (hB : B ≤ w.heap.size) (ha : SeesP w B a vs) (hv : ∀ p ∈ vs, wfP p) (hl : vs.length ≤ 1048577) :
    Calls Try.prog 12 #[a] w fun e w' => e = .returned (encA vs) ∧ Below B w w' := by
  obtain ⟨ao, cap, rfl, hl1, hc1, hs1⟩ := ha
  have HA : Hid _ := hs1
  clear hs1
  have HF : Hid (∀ b, okP vs = b → encA vs = if b then .tuple #[.string (strOfNums (boA vs)), .int .i64 0] else .tuple #[.string ⟨#[]⟩, .int .i64 33]) := fun b hb => by rw [encA_ok, hb]
  go_enter Try.func12, Try.ntmps12
  go_wp2_with fail
  go_loopw [4, 5] (fun c i wr => ∃ (k : Nat) (acc : List Int), k ≤ vs.length ∧ i = .int .i64 (k : Int) ∧ acc.length ≤ 2 * k ∧ ownB wr w.heap.size c acc ∧ Below w.heap.size w wr ∧ acc ++ boA (vs.drop k) = boA vs ∧ okP vs = okP (vs.drop k)) (fun _ i _ => vs.length - (intOf i).toNat)
  case atStart => exact ⟨0, [], by omega, rfl, by simp, ownB_nil _ _, Below.refl _ _, by simp, by simp⟩
  case round =>
    obtain ⟨k, acc, hk, rfl, hal, hown, hbel, hv1, hv2⟩ := hrel
    have HO : Hid (ownB wr w.heap.size _ acc) := hown
    have HB : Hid (Below w.heap.size w wr) := hbel
    have HV1 : Hid (acc ++ boA (vs.drop k) = boA vs) := hv1
    have HV2 : Hid (okP vs = okP (vs.drop k)) := hv2
    clear hown hbel hv1 hv2
    by_cases h1 : k < vs.length
    · obtain ⟨b1, o1, e1, hb1, x0, x1, x2⟩ := HA.out k h1
      have hbw : b1 < w.heap.size := by omega
      have y0 := (HB.out.cell (p := ⟨b1, o1 + k * 3, none⟩) hbw).trans x0
      have y1 := (HB.out.cell (p := ⟨b1, o1 + k * 3 + 1, none⟩) hbw).trans x1
      have y2 := (HB.out.cell (p := ⟨b1, o1 + k * 3 + 2, none⟩) hbw).trans x2
      clear x0 x1 x2
      subst e1
      have h1' : (k : Int) < (vs.length : Int) := by omega
      have hwf := hv _ (List.getElem_mem h1)
      obtain ⟨s1, s2⟩ := ok_step vs k h1
      have hlast : ((k : Int) == (vs.length : Int) - 1) = (vs.drop (k + 1)).isEmpty := by
        rw [Bool.eq_iff_iff]
        simp only [beq_iff_eq, List.isEmpty_iff, List.drop_eq_nil_iff]
        omega
      have hC := fun W => bytesOf_any vs[k] (vs.drop (k + 1)).isEmpty W hwf
      have hbl := boL_len vs[k] (vs.drop (k + 1)).isEmpty
      have HC : Hid _ := hC
      have HS1 : Hid _ := s1
      have HS2 : Hid _ := s2
      clear hC s1 s2 hwf HA
      generalize (vs.drop (k + 1)).isEmpty = la at *
      generalize boL vs[k] la = bs at *
      go_wp2_with fail
      refine (HC.out _).mono ?_
      rintro e w1 ⟨bv, rfl, hob, hb⟩
      have HOb : Hid (ownB w1 wr.heap.size bv bs) := hob
      have HO1 : Hid (ownB w1 w.heap.size _ acc) := HO.out.same fun k hk _ => hb.block k hk
      have HB1 : Hid (Below w.heap.size w w1) := HB.out.trans (hb.mono HB.out.size)
      have hln := hob.len
      clear hob hb HC HO HB y0 y1 y2
      cases bs with
      | nil =>
        have HR : Hid _ := HF.out false (by rw [HV2.out, HS1.out]; rfl)
        simp only [List.length_nil] at hln
        clear HF HV1 HV2 HS1 HS2 HO1 HOb
        go_wp2
        go_ret2
        exact ⟨by rw [HR.out]; rfl, HB1.out.mono hB⟩
      | cons x xr =>
        have hz : (((x :: xr).length : Int) == 0) = false := by simp; omega
        have hbl2 : acc.length + (x :: xr).length ≤ 140737488355328 := by omega
        have hBr : w.heap.size ≤ w1.heap.size := HB1.out.size
        have HBL : Hid ((x :: xr).length ≤ 2) := hbl
        have HAL : Hid (acc.length ≤ 2 * k) := hal
        clear hbl hal
        generalize hbs : x :: xr = bs at *
        have hne : bs ≠ [] := by rw [← hbs]; simp
        have HNE : Hid _ := hne
        have HIE : Hid (bs.isEmpty = false) := by show _ = _; rw [← hbs]; rfl
        clear hbs hne
        go_wp2_with (at_builtin; refine app_bytes (by rfl) _ _ (by rfl) w.heap.size _ acc HO1.out (by rfl) wr.heap.size _ bs HOb.out HNE.out (by rfl) hbl2 hBr ?_; intro v' w6 hown6 hbel6; have HO6 : Hid (ownB w6 w.heap.size v' (acc ++ bs)) := hown6; have HB6 : Hid (Below w.heap.size w w6) := HB1.out.trans hbel6; clear hown6 hbel6)
        go_roundw
        case rel => exact ⟨k + 1, acc ++ bs, by omega, by go_num, by have := HBL.out; have := HAL.out; rw [List.length_append]; omega, HO6.out, HB6.out, by rw [List.append_assoc, ← HS2.out]; exact HV1.out, by rw [HV2.out, HS1.out, HIE.out]; rfl⟩
        case measure => simp [intOf]; omega
    · have e : k = vs.length := by omega
      subst e
      rw [List.drop_length] at HV1 HV2
      have h2 := HV1.out
      simp only [boA, List.append_nil] at h2
      have h3 := HO.out
      rw [h2] at h3
      have HO2 : Hid (ownB wr w.heap.size _ (boA vs)) := h3
      clear h2 h3
      have hcv := HO2.out.conv
      have HR : Hid _ := HF.out true HV2.out
      have hlt : ¬ ((vs.length : Nat) : Int) < ((vs.length : Nat) : Int) := by omega
      clear HV1 HV2 HF HO HA
      go_wp2
      go_ret2
      exact ⟨by rw [HR.out]; rfl, HB.out.mono hB⟩
end Go.Proofs.Ytppfgcdfmdmffaa
