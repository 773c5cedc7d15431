import Derived.Test.YtdpebhdjcgiboaaGreatKSoD
namespace Go.Proofs.YtdpebhdjcgiboaaGreat
set_option linter.unusedSimpArgs false
open Go.ChangeShapes Go.WideShapes Go.ChangeAt Go.RowKit Go.MuLone Go.RwLone
set_option linter.unusedVariables false
set_option maxRecDepth 100000
set_option maxHeartbeats 6400000
theorem meet_any (w : World) (kb bb mb : Nat) (vv ev : Value) (V : List (Vi (List Int))) (E : List Nat) (h : Wlk w kb bb mb vv ev V E) (v : Vi (List Int)) (hv : IsSt v.1) (hl : V.length < 100000000000) :
    Calls Tryz.prog 85 #[.pointer (some ⟨kb, 0, none⟩), .agg (viC v).toArray] w fun e w' => e = .returned (.tuple #[]) ∧ ∃ vv', Wlk w' kb bb mb vv' ev (meetP V v) E ∧ (∀ g, vv'.ownBlock = some g → vv.ownBlock = some g ∨ w.heap.size ≤ g) ∧ Keeps (fun y => y = kb ∨ y = mb ∨ vv.ownBlock = some y) w w' := by
  have HV := viC_row hv.l
  obtain ⟨R, hR⟩ : ∃ R, viC v = R := ⟨_, rfl⟩
  obtain ⟨row, hrow⟩ : ∃ row, rowU v.1 = row := ⟨_, rfl⟩
  have hrl : row.length = 24 := by rw [← hrow]; simp [rowU, hv.l]
  have HRL : Hid (R.length = 26 ∧ row.length = 24 ∧ (∀ (j : Nat) (u : Value), row[j]? = some u → R[j]? = some u) ∧ ∀ u ∈ R, u.oneCell' = true) := by
    refine ⟨by rw [← hR]; exact viC_len v, hrl, fun j u hj => ?_, by rw [← hR]; exact viC_one v⟩
    rw [← hR, HV, hrow, List.getElem?_append_left (List.getElem?_eq_some_iff.1 hj).1]
    exact hj
  have HRW : Hid (viC v = R ∧ rowU v.1 = row) := ⟨hR, hrow⟩
  rw [hR]
  obtain ⟨Sv, hSv⟩ : ∃ Sv, V.map (·.1) = Sv := ⟨_, rfl⟩
  have HSV : Hid (V.map (·.1) = Sv) := hSv
  have hsl : Sv.length < 100000000000 := by rw [← hSv, List.length_map]; exact hl
  have hlk : ∀ X, SetM X mb Sv → (Instr.lookup 126 (.map (some mb)) (.agg row.toArray) true).run Tryz.prog X = .ok (.tuple #[.agg #[], .bool (decide (v.1 ∈ Sv))]) X := fun X hX => by rw [← hrow]; exact set_look hX v.1 hv
  have HLK : Hid (∀ X, SetM X mb Sv → (Instr.lookup 126 (.map (some mb)) (.agg row.toArray) true).run Tryz.prog X = .ok (.tuple #[.agg #[], .bool (decide (v.1 ∈ Sv))]) X) := hlk
  have hpt : ∀ X, SetM X mb Sv → ∃ w', (Instr.mapUpdate 126 (.map (some mb)) (.agg row.toArray) (.agg #[])).run Tryz.prog X = .ok () w' ∧ SetM w' mb (Sv ++ [v.1]) ∧ Keeps (fun x => x = mb) X w' := fun X hX => by rw [← hrow]; exact set_put hX v.1 hv (by unfold maxLen; omega)
  have HPT : Hid (∀ X, SetM X mb Sv → ∃ w', (Instr.mapUpdate 126 (.map (some mb)) (.agg row.toArray) (.agg #[])).run Tryz.prog X = .ok () w' ∧ SetM w' mb (Sv ++ [v.1]) ∧ Keeps (fun x => x = mb) X w') := hpt
  have k0 : Keeps (fun _ => False) w (w.alloc (.cells R.toArray 182)) := (Keeps.refl _ _).alloc _
  have e0 : (w.alloc (.cells R.toArray 182)).heap[w.heap.size]? = some (.cells R.toArray 182) := heap_alloc_last _ _ _ rfl
  have H0 : Hid (Keeps (fun _ => False) w (w.alloc (.cells R.toArray 182)) ∧ (w.alloc (.cells R.toArray 182)).heap[w.heap.size]? = some (.cells R.toArray 182) ∧ Wlk (w.alloc (.cells R.toArray 182)) kb bb mb vv ev V E) := ⟨k0, e0, h.keeps k0 (fun _ e => e.elim)⟩
  have HH : Hid (Wlk w kb bb mb vv ev V E ∧ IsSt v.1 ∧ V.length < 100000000000) := ⟨h, hv, hl⟩
  obtain ⟨q, hq⟩ : ∃ q, decide (v.1 ∈ Sv) = q := ⟨_, rfl⟩
  have HQ : Hid (decide (v.1 ∈ Sv) = q) := hq
  rw [hq] at HLK
  have hi1 : (Tryz.prog.info? 179).map (·.size) = some row.length := by rw [hrl]; exact iSt
  have HI : Hid ((Tryz.prog.info? 179).map (·.size) = some row.length) := hi1
  clear h hv hl hSv hsl HV hR hrow hrl hlk hpt k0 e0 hq hi1
  go_enter Tryz.func85, Tryz.ntmps85
  go_wp2_with fail
  generalize w.alloc (.cells R.toArray 182) = w0 at *
  have HS : Hid (∀ X, Keeps (fun _ => False) w0 X → X.cell? ⟨kb, 2, none⟩ = some (.map (some mb)) ∧ X.cell? ⟨kb, 1, none⟩ = some vv ∧ Hid (X.rangeAt w.heap.size 0 R ∧ X.rangeAt w.heap.size 0 row ∧ SetM X mb Sv)) := fun X k => by
    have hk := H0.out.2.2.keeps k (fun _ e => e.elim)
    have hr : X.heap[w.heap.size]? = some (.cells R.toArray 182) := (k.block _ (Array.getElem?_eq_some_iff.1 H0.out.2.1).1 (fun e => e)).trans H0.out.2.1
    have r1 : X.rangeAt w.heap.size 0 R := fun j u hj => by
      rw [Nat.zero_add, cell?_heap hr j, List.getElem?_toArray]
      exact hj
    exact ⟨(cell?_heap hk.k 2).trans rfl, (cell?_heap hk.k 1).trans rfl, r1, fun j u hj => r1 j u (HRL.out.2.2.1 j u hj), by rw [← HSV.out]; exact hk.s⟩
  have s1 := HS.out w0.drew (Keeps.refl _ _).drew
  (refine wp_region_held_drew (S := (fun X => X.cell? ⟨kb, 2, none⟩ = some (.map (some mb)) ∧ X.cell? ⟨kb, 1, none⟩ = some vv ∧ Hid (X.rangeAt w.heap.size 0 R ∧ X.rangeAt w.heap.size 0 row ∧ SetM X mb Sv))) (by kernel_rfl) s1 (fun hHeld => ?_); simp only [List.size_toArray, List.length_cons, List.length_nil, Nat.reduceAdd, Array.replicate_succ, Array.replicate_zero, List.push_toArray, List.append_toArray, List.nil_append, List.cons_append])
  clear s1
  refine rgT 0 (h := ?_)
  refine rgT 1 (h := ?_)
  refine rgT 2 (h := ?_)
  refine rgT 3 (h := ?_)
  refine rgT 4 (h := ?_)
  refine rgL 5 179 (.tmp 11) w.heap.size 0 row _ (hR := fun X hX => hX.2.2.out.2.1) (hu := uSt) (hi := HI.out) (h := ?_)
  refine rgT 6 (v := .tuple #[.agg #[], .bool q]) (hy := fun X hX => by have hl := HLK.out X hX.2.2.out.2.2; go_simp) (h := ?_)
  refine rgT 7 (h := ?_)
  refine rgT 8 (h := ?_)
  refine rgT 9 (h := ?_)
  (refine rgS 10 (h := fun K hK => ?_); go_simp)
  (refine hK.out _ _ (HS.out _ ((Keeps.refl _ _).alloc _).drew) (fun hHeld => ?_); clear hK K; try simp only [Act.put, List.setIfInBounds_toArray, List.set_cons_zero, List.set_cons_succ])
  (refine rgS 11 (h := fun K hK => ?_); go_simp)
  (refine hK.out _ _ (HS.out _ ((Keeps.refl _ _).alloc _).drew) (fun hHeld => ?_); clear hK K; try simp only [Act.put, List.setIfInBounds_toArray, List.set_cons_zero, List.set_cons_succ])
  refine rgT 12 (h := ?_)
  refine wpAnyH_done (by kernel_rfl) ?_ _
  clear hHeld
  have H1 : Hid (Keeps (fun _ => False) w0 (w0.alloc (.cells #[] 149)).drew) := ((Keeps.refl _ _).alloc _).drew
  generalize (w0.alloc (.cells #[] 149)).drew = w1 at *
  clear HLK
  clear hHeld
  cases q
  · go_wp2_with fail
    clear hHeld
    have s1 := HS.out w1.drew H1.out.drew
    obtain ⟨w3, hput, hs3, k3⟩ := HPT.out w1.drew s1.2.2.out.2.2
    (refine wp_region_held_drew (S := (fun X => X.cell? ⟨kb, 2, none⟩ = some (.map (some mb)) ∧ X.cell? ⟨kb, 1, none⟩ = some vv ∧ Hid (X.rangeAt w.heap.size 0 R ∧ X.rangeAt w.heap.size 0 row))) (by kernel_rfl) ⟨s1.1, s1.2.1, s1.2.2.out.1, s1.2.2.out.2.1⟩ (fun hHeld => ?_); simp only [List.size_toArray, List.length_cons, List.length_nil, Nat.reduceAdd, Array.replicate_succ, Array.replicate_zero, List.push_toArray, List.append_toArray, List.nil_append, List.cons_append])
    refine rgT 0 (h := ?_)
    refine rgT 1 (h := ?_)
    refine rgT 2 (h := ?_)
    refine rgT 3 (h := ?_)
    refine rgT 4 (h := ?_)
    refine rgL 5 179 (.tmp 21) w.heap.size 0 row _ (hR := fun X hX => hX.2.2.out.2) (hu := uSt) (hi := HI.out) (h := ?_)
    refine rgT 6 (h := ?_)
    have H3 : Hid (SetM w3 mb (Sv ++ [v.1]) ∧ Keeps (fun x => x = mb) w1 w3) := ⟨hs3, ((Keeps.refl _ _).drew).trans k3⟩
    have kb3 : w3.heap[kb]? = some (.cells (wkA bb vv mb ev) 128) := (H3.out.2.block kb (by have := H0.out.2.2.lt (.inl rfl); have := H1.out.size; omega) (by show ¬ kb = mb; exact H0.out.2.2.km)).trans (H0.out.2.2.keeps H1.out (fun _ e => e.elim)).k
    have HS3 : Hid (∀ X, Keeps (fun _ => False) w3 X → X.cell? ⟨kb, 2, none⟩ = some (.map (some mb)) ∧ X.cell? ⟨kb, 1, none⟩ = some vv ∧ Hid (X.rangeAt w.heap.size 0 R ∧ X.rangeAt w.heap.size 0 row)) := fun X k => by
      have hk : X.heap[kb]? = some (.cells (wkA bb vv mb ev) 128) := (k.block kb (Array.getElem?_eq_some_iff.1 kb3).1 (fun e => e)).trans kb3
      have hr1 : w1.heap[w.heap.size]? = some (.cells R.toArray 182) := (H1.out.block _ (Array.getElem?_eq_some_iff.1 H0.out.2.1).1 (fun e => e)).trans H0.out.2.1
      have hr3 : w3.heap[w.heap.size]? = some (.cells R.toArray 182) := (H3.out.2.block _ (Array.getElem?_eq_some_iff.1 hr1).1 (by show ¬ w.heap.size = mb; have := HH.out.1.lt (.inr (.inl rfl)); omega)).trans hr1
      have hr : X.heap[w.heap.size]? = some (.cells R.toArray 182) := (k.block _ (Array.getElem?_eq_some_iff.1 hr3).1 (fun e => e)).trans hr3
      have r1 : X.rangeAt w.heap.size 0 R := fun j u hj => by
        rw [Nat.zero_add, cell?_heap hr j, List.getElem?_toArray]
        exact hj
      exact ⟨(cell?_heap hk 2).trans rfl, (cell?_heap hk 1).trans rfl, r1, fun j u hj => r1 j u (HRL.out.2.2.1 j u hj)⟩
    have s3 := HS3.out w3 (Keeps.refl _ _)
    (refine rgS 7 (h := fun K hK => ?_); go_simp)
    (refine hK.out _ _ s3 (fun hHeld => ?_); clear hK K; try simp only [Act.put, List.setIfInBounds_toArray, List.set_cons_zero, List.set_cons_succ])
    refine wpAnyH_done (by kernel_rfl) ?_ _
    clear hHeld s1 s3 hput hs3 k3
    have HK3 : Hid (w3.heap[kb]? = some (.cells (wkA bb vv mb ev) 128)) := kb3
    clear kb3 hHeld
    go_wp2_with fail
    have HSD : Hid (w3.drew.heap[w.heap.size]? = some (.cells R.toArray 182)) := by
      have hr1 : w1.heap[w.heap.size]? = some (.cells R.toArray 182) := (H1.out.block _ (Array.getElem?_eq_some_iff.1 H0.out.2.1).1 (fun e => e)).trans H0.out.2.1
      exact (H3.out.2.block _ (Array.getElem?_eq_some_iff.1 hr1).1 (by show ¬ w.heap.size = mb; have := HH.out.1.lt (.inr (.inl rfl)); omega)).trans hr1
    have HOV : Hid (OwG viC 182 26 w3.drew 0 vv V) := owK (owK (owK HH.out.1.v H0.out.1 (fun _ _ e => e)) H1.out (fun _ _ e => e)) H3.out.2.drew (fun g hg e => (HH.out.1.vd hg).2.1 e)
    have FIN : Hid (∀ b cap w5, (OwG viC 182 26 w5 0 (.slice (some ⟨b, 0, none⟩) (V.length + 1) cap) (V ++ [v]) ∧ Keeps (fun k => vv.ownBlock = some k) w3.drew w5 ∧ w5.heap[kb]? = some (.cells (wkA bb vv mb ev) 128) ∧ (vv.ownBlock = some b ∨ w3.heap.size ≤ b)) → Wlk (w5.setCell ⟨kb, 1, none⟩ (.slice (some ⟨b, 0, none⟩) (V.length + 1) cap)) kb bb mb (.slice (some ⟨b, 0, none⟩) (V.length + 1) cap) ev (meetP V v) E ∧ (∀ g, (Value.slice (some ⟨b, 0, none⟩) (V.length + 1) cap).ownBlock = some g → vv.ownBlock = some g ∨ w.heap.size ≤ g) ∧ Keeps (fun y => y = kb ∨ y = mb ∨ vv.ownBlock = some y) w (w5.setCell ⟨kb, 1, none⟩ (.slice (some ⟨b, 0, none⟩) (V.length + 1) cap))) := fun b cap w5 h5 => by
      have hm : meetP V v = V ++ [v] := by
        unfold meetP
        rw [if_neg]
        rw [HSV.out]
        exact of_decide_eq_false HQ.out
      rw [hm]
      have k03 : Keeps (fun y => y = mb) w w3 := ((H0.out.1.trans H1.out).mono (fun _ e => e.elim)).trans H3.out.2
      have s5 : SetM w5 mb ((V ++ [v]).map (·.1)) := by
        rw [List.map_append, HSV.out]
        exact (H3.out.1.keeps (Keeps.refl (fun _ => False) _).drew (fun e => e)).keeps h5.2.1 (fun e => (HH.out.1.vd e).2.1 rfl)
      have e5 : OwG enC 3 1 w5 0 ev E := owK (owK HH.out.1.e k03.drew (fun g hg e => (HH.out.1.ed hg).2.1 e)) h5.2.1 (fun g hg e => (HH.out.1.ed hg).2.2 e)
      refine ⟨wk_setV h5.2.2.1 h5.1 s5 e5, fun g hg => ?_, ?_⟩
      · have hg2 : b = g := by injection hg
        subst hg2
        have := k03.size
        exact h5.2.2.2.imp id (fun e => by omega)
      · refine Keeps.setCell (B := fun y => y = kb ∨ y = mb ∨ vv.ownBlock = some y) ?_ (.inl rfl) _
        exact ((k03.drew.mono (fun y e => .inr (.inl e))).trans (h5.2.1.mono (fun y e => .inr (.inr e))))
    have s4 := HS3.out w3.drew (Keeps.refl _ _).drew
    have c4 := s4.2.1
    have c5 : (w3.alloc (.cells R.toArray 182)).drew.cell? ⟨kb, 1, none⟩ = some vv := (HS3.out _ ((Keeps.refl _ _).alloc _).drew).2.1
    (refine wp_region_held_drew (S := (fun X => Hid (X.rangeAt w.heap.size 0 R))) (by kernel_rfl) s4.2.2.out.1 (fun hHeld => ?_); simp only [List.size_toArray, List.length_cons, List.length_nil, Nat.reduceAdd, Array.replicate_succ, Array.replicate_zero, List.push_toArray, List.append_toArray, List.nil_append, List.cons_append])
    clear s4
    refine rgT 0 (h := ?_)
    refine rgT 1 (h := ?_)
    refine rgT 2 (h := ?_)
    refine rgT 3 (h := ?_)
    have hiR : (Tryz.prog.info? 182).map (·.size) = some R.length := by rw [HRL.out.1]; kernel_rfl
    refine rgL 5 182 (.tmp 3) w.heap.size 0 R _ (hR := fun X hX => hX.out) (hu := Tryz.underlying182) (hi := hiR) (h := ?_)
    obtain ⟨z, hz, hzs⟩ := infoVi
    obtain ⟨ie, hie, z1, z2, z3⟩ := info_parts hz
    have HZ : Hid ((Tryz.prog.info? 182).map (fun i => (i.zero, i.size, i.bytes)) = some (some z, 26, 208) ∧ z.cells.size = 26 ∧ Tryz.prog.info? 182 = some ie ∧ ie.zero = some z ∧ ie.size = 26) := ⟨hz, hzs, hie, z1, z2⟩
    have HSA : Hid ((w3.drew.alloc (.cells R.toArray 182)).rangeAt w.heap.size 0 R) := (HS3.out _ ((Keeps.refl _ _).drew.alloc _)).2.2.out.1
    clear hie z1 z2 z3 hz hzs hiR
    (refine wpAnyH_ready (rs := [4, 6]) (by kernel_rfl) (by simp) ?_; refine rgA 4 (by rfl) (fun K hK => ?_) (rgA 6 (by rfl) (fun K hK => ?_) AllReadyH.nil) <;> rw [if_pos (by rfl)])
    · go_simp
      (refine hK.out _ _ hHeld (fun hHeld => ?_); clear hK K; try simp only [Act.put, List.setIfInBounds_toArray, List.set_cons_zero, List.set_cons_succ])
      (refine rgS 6 (h := fun K hK => ?_); rw [if_pos (by rfl)])
      refine wp_build_one 125 182 (.tmp 29) (by rfl) R 26 ie z Tryz.underlying125 HZ.out.2.2.1 HZ.out.2.2.2.1 HZ.out.2.2.2.2 (by decide) (by decide) HRL.out.1 (by rfl) ?_
      (refine hK.out _ _ HSA (fun hHeld => ?_); clear hK K; try simp only [Act.put, List.setIfInBounds_toArray, List.set_cons_zero, List.set_cons_succ])
      (refine rgS 7 (h := fun K hK => ?_); rw [if_pos (by rfl)])
      refine app_st_wp (cs := viC) (wr := w3.drew) _ _ 125 182 (by rfl) Tryz.underlying125 HZ.out.1 HZ.out.2.1 (by decide) viC_len vv V v HOV.out (by rfl) w3.drew.heap.size rfl (by rfl) (viC_one v) _ (by rw [HRW.out.1]) (by have := HH.out.2.2; unfold maxLen; omega) (by have := HH.out.2.2; omega) ?_
      intro b cap w5 ho5 hk5 hb5
      have k5 : Keeps (fun k => vv.ownBlock = some k) w3.drew w5 := hk5.elim (·.2) (fun e => e.2.mono (fun _ e => e.elim))
      have kb5 : w5.heap[kb]? = some (.cells (wkA bb vv mb ev) 128) := (k5.block kb (Array.getElem?_eq_some_iff.1 HK3.out).1 (fun e => (HH.out.1.vd e).1 rfl)).trans HK3.out
      have H5 : Hid (OwG viC 182 26 w5 0 (.slice (some ⟨b, 0, none⟩) (V.length + 1) cap) (V ++ [v]) ∧ Keeps (fun k => vv.ownBlock = some k) w3.drew w5 ∧ w5.heap[kb]? = some (.cells (wkA bb vv mb ev) 128) ∧ (vv.ownBlock = some b ∨ w3.heap.size ≤ b)) := ⟨ho5, k5, kb5, hk5.imp (·.1) (·.1)⟩
      have HR5 : Hid (∀ X, Keeps (fun y => y = kb) w5 X → X.rangeAt w.heap.size 0 R) := fun X kx j u hj => by
        have hr := HSD.out
        have hr5 : w5.heap[w.heap.size]? = some (.cells R.toArray 182) := (H5.out.2.1.block _ (Array.getElem?_eq_some_iff.1 hr).1 (fun e => by have := HH.out.1.lt (.inr (.inr (.inl e))); omega)).trans hr
        have hrX : X.heap[w.heap.size]? = some (.cells R.toArray 182) := (kx.block _ (Array.getElem?_eq_some_iff.1 hr5).1 (by show ¬ w.heap.size = kb; have := HH.out.1.lt (.inl rfl); omega)).trans hr5
        rw [Nat.zero_add, cell?_heap hrX j, List.getElem?_toArray]
        exact hj
      (refine hK.out _ _ (HR5.out _ (Keeps.refl _ _)) (fun hHeld => ?_); clear hK K; try simp only [Act.put, List.setIfInBounds_toArray, List.set_cons_zero, List.set_cons_succ])
      refine rgT 8 (h := ?_)
      refine rgT 9 (h := ?_)
      have c6 := (cell?_heap kb5 1).trans rfl
      have f6 := frozen?_heap kb5 1
      clear ho5 hk5 hb5 k5 kb5 hHeld
      (refine rgS 10 (h := fun K hK => ?_); go_simp)
      (refine hK.out _ _ (HR5.out _ (Keeps.setCell (B := fun y => y = kb) (Keeps.refl _ _) rfl _)) (fun hHeld => ?_); clear hK K; try simp only [Act.put, List.setIfInBounds_toArray, List.set_cons_zero, List.set_cons_succ])
      refine wpAnyH_done (by kernel_rfl) ?_ _
      clear c4 c5 c6 f6
      refine ⟨rfl, .tuple #[], by simp [results, Tryz.results85], rfl, .slice (some ⟨b, 0, none⟩) (V.length + 1) cap, ?_⟩
      exact FIN.out b cap w5 H5.out
    · refine wp_build_one 125 182 (.tmp 29) (by rfl) R 26 ie z Tryz.underlying125 HZ.out.2.2.1 HZ.out.2.2.2.1 HZ.out.2.2.2.2 (by decide) (by decide) HRL.out.1 (by rfl) ?_
      (refine hK.out _ _ HSA (fun hHeld => ?_); clear hK K; try simp only [Act.put, List.setIfInBounds_toArray, List.set_cons_zero, List.set_cons_succ])
      (refine rgS 4 (h := fun K hK => ?_); go_simp)
      (refine hK.out _ _ HSA (fun hHeld => ?_); clear hK K; try simp only [Act.put, List.setIfInBounds_toArray, List.set_cons_zero, List.set_cons_succ])
      (refine rgS 7 (h := fun K hK => ?_); rw [if_pos (by rfl)])
      refine app_st_wp (cs := viC) (wr := w3.drew) _ _ 125 182 (by rfl) Tryz.underlying125 HZ.out.1 HZ.out.2.1 (by decide) viC_len vv V v HOV.out (by rfl) w3.drew.heap.size rfl (by rfl) (viC_one v) _ (by rw [HRW.out.1]) (by have := HH.out.2.2; unfold maxLen; omega) (by have := HH.out.2.2; omega) ?_
      intro b cap w5 ho5 hk5 hb5
      have k5 : Keeps (fun k => vv.ownBlock = some k) w3.drew w5 := hk5.elim (·.2) (fun e => e.2.mono (fun _ e => e.elim))
      have kb5 : w5.heap[kb]? = some (.cells (wkA bb vv mb ev) 128) := (k5.block kb (Array.getElem?_eq_some_iff.1 HK3.out).1 (fun e => (HH.out.1.vd e).1 rfl)).trans HK3.out
      have H5 : Hid (OwG viC 182 26 w5 0 (.slice (some ⟨b, 0, none⟩) (V.length + 1) cap) (V ++ [v]) ∧ Keeps (fun k => vv.ownBlock = some k) w3.drew w5 ∧ w5.heap[kb]? = some (.cells (wkA bb vv mb ev) 128) ∧ (vv.ownBlock = some b ∨ w3.heap.size ≤ b)) := ⟨ho5, k5, kb5, hk5.imp (·.1) (·.1)⟩
      have HR5 : Hid (∀ X, Keeps (fun y => y = kb) w5 X → X.rangeAt w.heap.size 0 R) := fun X kx j u hj => by
        have hr := HSD.out
        have hr5 : w5.heap[w.heap.size]? = some (.cells R.toArray 182) := (H5.out.2.1.block _ (Array.getElem?_eq_some_iff.1 hr).1 (fun e => by have := HH.out.1.lt (.inr (.inr (.inl e))); omega)).trans hr
        have hrX : X.heap[w.heap.size]? = some (.cells R.toArray 182) := (kx.block _ (Array.getElem?_eq_some_iff.1 hr5).1 (by show ¬ w.heap.size = kb; have := HH.out.1.lt (.inl rfl); omega)).trans hr5
        rw [Nat.zero_add, cell?_heap hrX j, List.getElem?_toArray]
        exact hj
      (refine hK.out _ _ (HR5.out _ (Keeps.refl _ _)) (fun hHeld => ?_); clear hK K; try simp only [Act.put, List.setIfInBounds_toArray, List.set_cons_zero, List.set_cons_succ])
      refine rgT 8 (h := ?_)
      refine rgT 9 (h := ?_)
      have c6 := (cell?_heap kb5 1).trans rfl
      have f6 := frozen?_heap kb5 1
      clear ho5 hk5 hb5 k5 kb5 hHeld
      (refine rgS 10 (h := fun K hK => ?_); go_simp)
      (refine hK.out _ _ (HR5.out _ (Keeps.setCell (B := fun y => y = kb) (Keeps.refl _ _) rfl _)) (fun hHeld => ?_); clear hK K; try simp only [Act.put, List.setIfInBounds_toArray, List.set_cons_zero, List.set_cons_succ])
      refine wpAnyH_done (by kernel_rfl) ?_ _
      clear c4 c5 c6 f6
      refine ⟨rfl, .tuple #[], by simp [results, Tryz.results85], rfl, .slice (some ⟨b, 0, none⟩) (V.length + 1) cap, ?_⟩
      exact FIN.out b cap w5 H5.out
  · go_wp2
    refine ⟨rfl, .tuple #[], by simp [results, Tryz.results85], rfl, vv, ?_⟩
    have hm : meetP V v = V := by
      unfold meetP
      rw [if_pos]
      rw [HSV.out]
      exact of_decide_eq_true HQ.out
    rw [hm]
    have kk : Keeps (fun _ => False) w w1 := H0.out.1.trans H1.out
    exact ⟨HH.out.1.keeps kk (fun _ e => e.elim), fun g hg => .inl hg, kk.mono (fun _ e => e.elim)⟩
end Go.Proofs.YtdpebhdjcgiboaaGreat

namespace Go.Proofs.YtdpebhdjcgiboaaGreat
open Go.ChangeShapes Go.WideShapes Go.ChangeAt Go.RowKit Go.MuLone Go.RwLone
set_option linter.unusedVariables false
set_option maxRecDepth 100000
set_option maxHeartbeats 6400000
/-- An exploration over a bench. -/
structure Wb (w : World) (G : Nat → Prop) (B : Bd) (bb hb qb : Nat) (tv : Value) (a : Hp × Ls) (kb mb : Nat) (vv ev : Value) (V : List (Vi (List Int))) (E : List Nat) : Prop where
  b : BnF w G B bb hb qb tv a
  k : Wlk w kb bb mb vv ev V E
  d : ∀ y, fK kb mb vv ev y → ¬ G y
  c : Can B.wd B.n a.2
section
variable {w w' : World} {G : Nat → Prop} {B : Bd} {bb hb qb : Nat} {tv : Value} {a : Hp × Ls} {kb mb : Nat} {vv ev : Value} {V : List (Vi (List Int))} {E : List Nat}
theorem Wb.still (h : Wb w G B bb hb qb tv a kb mb vv ev V E) (k : Keeps (fun _ => False) w w') : Wb w' G B bb hb qb tv a kb mb vv ev V E :=
  ⟨h.b.still k, h.k.keeps k (fun _ e => e.elim), h.d, h.c⟩
/-- The bench is moved. -/
theorem Wb.bench {a' : Hp × Ls} (h : Wb w G B bb hb qb tv a kb mb vv ev V E) (b : BnF w' G B bb hb qb tv a') (c : Can B.wd B.n a'.2) (k : Keeps G w w') : Wb w' G B bb hb qb tv a' kb mb vv ev V E :=
  ⟨b, h.k.keeps k (fun y hy e => h.d y e hy), h.d, c⟩
/-- The visits are moved. -/
theorem Wb.walk {vv' ev' : Value} {V' : List (Vi (List Int))} {E' : List Nat} (h : Wb w G B bb hb qb tv a kb mb vv ev V E) (k : Wlk w' kb bb mb vv' ev' V' E') (hk : Keeps (fun y => fK kb mb vv ev y) w w') (hn : ∀ g, fK kb mb vv' ev' g → fK kb mb vv ev g ∨ w.heap.size ≤ g) : Wb w' G B bb hb qb tv a kb mb vv' ev' V' E' :=
  ⟨h.b.keeps hk (fun y e => h.d y e), k, fun y hy hG => (hn y hy).elim (fun e => h.d y e hG) (fun e => by have := h.b.gl y hG; omega), h.c⟩
end
/-- What a visit's state is, as a bench holds it. -/
theorem visit_at {w : World} {vv : Value} {V : List (Vi (List Int))} (h : OwG viC 182 26 w 0 vv V) {i : Nat} (hi : i < V.length) : ∃ g cap, vv = .slice (some ⟨g, 0, none⟩) V.length cap ∧ w.rangeAt g (i * 26) (viC V[i]) := by
  obtain ⟨g, cap, e, _, _⟩ := owG_some h (by intro e; rw [e] at hi; simp at hi)
  refine ⟨g, cap, e, fun j u hj => ?_⟩
  subst e
  have hj2 : j < 26 := by
    have := (List.getElem?_eq_some_iff.1 hj).1
    rwa [viC_len] at this
  have e2 := flat_get viC 26 viC_len V i hi j hj2
  rw [World.ownsRow.cellAt h (i * 26 + j) (by
    have := Nat.mul_le_mul_right 26 (show i + 1 ≤ V.length from hi)
    omega), e2]
  exact hj
/-- Are the first t threads done? -/
def allT (T : Ts (List Int)) (s : List Int) (t : Nat) : Bool := (List.range t).all (fun m => T.dn s m)
theorem allT_succ (T : Ts (List Int)) (s : List Int) (t : Nat) : allT T s (t + 1) = (allT T s t && T.dn s t) := by
  unfold allT
  rw [List.range_succ, List.all_append]
  simp
/-- In the midst of leaving a visit. -/
def Lv (w wr : World) (G : Nat → Prop) (B : Bd) (bb hb qb : Nat) (tv : Value) (kb mb : Nat) (vv ev : Value) (V : List (Vi (List Int))) (E : List Nat) (s0 : List Int) (i t : Nat) : Prop :=
  ∃ a vv' r, Wb wr G B bb hb qb tv a kb mb vv' ev (V ++ r) E ∧ Vo (tsL B.ins B.n) s0 (V ++ r) i t ∧ (∀ u ∈ V ++ r, Gs B.wd B.n u.1) ∧ Keeps (fun y => G y ∨ fK kb mb vv ev y) w wr ∧ ∀ g, vv'.ownBlock = some g → vv.ownBlock = some g ∨ w.heap.size ≤ g
end Go.Proofs.YtdpebhdjcgiboaaGreat

namespace Go.Proofs.YtdpebhdjcgiboaaGreat
set_option linter.unusedSimpArgs false
open Go.ChangeShapes Go.WideShapes Go.ChangeAt Go.RowKit Go.MuLone Go.RwLone
set_option linter.unusedVariables false
set_option maxRecDepth 100000
set_option maxHeartbeats 6400000
section
variable {w wr w' : World} {G : Nat → Prop} {B : Bd} {bb hb qb : Nat} {tv : Value} {kb mb : Nat} {vv ev : Value} {V : List (Vi (List Int))} {E : List Nat} {s0 : List Int} {i t : Nat}
/-- A thread that is done is passed over. -/
theorem Lv.pass {a : Hp × Ls} {vv' : Value} {r : List (Vi (List Int))} {v : Vi (List Int)} (hW : Wb wr G B bb hb qb tv a kb mb vv' ev (V ++ r) E) (vo : Vo (tsL B.ins B.n) s0 (V ++ r) i t) (gs : ∀ u ∈ V ++ r, Gs B.wd B.n u.1) (k : Keeps (fun y => G y ∨ fK kb mb vv ev y) w wr) (hn : ∀ g, vv'.ownBlock = some g → vv.ownBlock = some g ∨ w.heap.size ≤ g) (hv : V[i]? = some v) (hd : (tsL B.ins B.n).dn v.1 t = true) : Lv w wr G B bb hb qb tv kb mb vv ev V E s0 i (t + 1) :=
  ⟨a, vv', r, hW, vo.pass (p := v) _ (by rw [List.getElem?_append_left (List.getElem?_eq_some_iff.1 hv).1]; exact hv) hd, gs, k, hn⟩
/-- A thread's step is met. -/
theorem Lv.meet {a : Hp × Ls} {vv' vv2 : Value} {r : List (Vi (List Int))} {v : Vi (List Int)} (hW : Wb wr G B bb hb qb tv a kb mb vv' ev (V ++ r) E) (vo : Vo (tsL B.ins B.n) s0 (V ++ r) i t) (gs : ∀ u ∈ V ++ r, Gs B.wd B.n u.1) (k : Keeps (fun y => G y ∨ fK kb mb vv ev y) w wr) (hn : ∀ g, vv'.ownBlock = some g → vv.ownBlock = some g ∨ w.heap.size ≤ g) (hv : V[i]? = some v) (ht : t < B.n) (hd : (tsL B.ins B.n).dn v.1 t = false) (g2 : Gs B.wd B.n ((tsL B.ins B.n).st v.1 t))
    (hk : Wlk w' kb bb mb vv2 ev (meetP (V ++ r) ((tsL B.ins B.n).st v.1 t, i, t)) E) (hn2 : ∀ g, vv2.ownBlock = some g → vv'.ownBlock = some g ∨ wr.heap.size ≤ g) (k2 : Keeps (fun y => y = kb ∨ y = mb ∨ vv'.ownBlock = some y) wr w') : Lv w w' G B bb hb qb tv kb mb vv ev V E s0 i (t + 1) := by
  obtain ⟨r2, hr2⟩ := meet_pre (V ++ r) ((tsL B.ins B.n).st v.1 t, i, t)
  have vo2 := vo.meet (p := v) _ (by rw [List.getElem?_append_left (List.getElem?_eq_some_iff.1 hv).1]; exact hv) ht hd
  have gs2 : ∀ u ∈ meetP (V ++ r) ((tsL B.ins B.n).st v.1 t, i, t), Gs B.wd B.n u.1 := by
    unfold meetP
    intro u hu
    split at hu
    · exact gs u hu
    · rcases List.mem_append.1 hu with e | e
      · exact gs u e
      · rw [List.mem_singleton.1 e]; exact g2
  rw [hr2, List.append_assoc] at hk vo2 gs2
  have ks := k.size
  refine ⟨a, vv2, r ++ r2, hW.walk hk (k2.mono (fun y e => e.elim .inl (fun e => .inr (e.elim .inl (fun e => .inr (.inl e)))))) (fun g hg => ?_), vo2, gs2, ?_, fun g hg => (hn2 g hg).elim (hn g) (fun e => .inr (by omega))⟩
  · rcases hg with e | e | e | e
    · exact .inl (.inl e)
    · exact .inl (.inr (.inl e))
    · exact (hn2 g e).elim (fun e => .inl (.inr (.inr (.inl e)))) .inr
    · exact .inl (.inr (.inr (.inr e)))
  · refine ⟨k2.os.trans k.os, k2.tape.trans k.tape, k2.output.trans k.output, Nat.le_trans ks k2.size, fun x hx hnx => ?_⟩
    refine (k2.block x (by omega) (fun e => ?_)).trans (k.block x hx hnx)
    rcases e with e | e | e
    · exact hnx (.inr (.inl e))
    · exact hnx (.inr (.inr (.inl e)))
    · exact (hn x e).elim (fun e => hnx (.inr (.inr (.inr (.inl e))))) (fun e => by omega)
end
/-- A visit left. -/
def Left (w w' : World) (G : Nat → Prop) (B : Bd) (bb hb qb : Nat) (tv : Value) (kb mb : Nat) (vv ev : Value) (V : List (Vi (List Int))) (E : List Nat) (s0 : List Int) (i : Nat) (v : Vi (List Int)) : Prop :=
  ∃ a' vv' ev' r, Wb w' G B bb hb qb tv a' kb mb vv' ev' (V ++ r) (E ++ if allT (tsL B.ins B.n) v.1 B.n = true then [i] else []) ∧ Vo (tsL B.ins B.n) s0 (V ++ r) (i + 1) 0 ∧ (∀ u ∈ V ++ r, Gs B.wd B.n u.1) ∧ Keeps (fun y => G y ∨ fK kb mb vv ev y) w w' ∧ ∀ g, fK kb mb vv' ev' g → fK kb mb vv ev g ∨ w.heap.size ≤ g
theorem leave_any (w : World) (G : Nat → Prop) (B : Bd) (hB : BdOk B) (bb hb qb : Nat) (tv : Value) (a : Hp × Ls) (kb mb : Nat) (vv ev : Value) (V : List (Vi (List Int))) (E : List Nat) (h : Wb w G B bb hb qb tv a kb mb vv ev V E) (hn4 : 1 ≤ B.n ∧ B.n ≤ 4) (hw4 : 1 ≤ B.wd ∧ B.wd ≤ 4) (s0 : List Int) (i : Nat) (v : Vi (List Int)) (hv : V[i]? = some v) (vo : Vo (tsL B.ins B.n) s0 V i 0) (gs : ∀ u ∈ V, Gs B.wd B.n u.1) (few : ∀ V' j, Vo (tsL B.ins B.n) s0 V' i j → V'.length < 100000000000) (hE : E.length ≤ i) :
    Calls Tryz.prog 87 #[.pointer (some ⟨kb, 0, none⟩), .int .i64 (i : Int)] w fun e w' => e = .returned (.tuple #[]) ∧ Left w w' G B bb hb qb tv kb mb vv ev V E s0 i v := by
  obtain ⟨gt, ct, htv, -, -⟩ := owG_some h.b.ot (by intro e; have := congrArg List.length e; simp at this; omega)
  rw [List.length_map, List.length_range] at htv
  subst htv
  have hi := (List.getElem?_eq_some_iff.1 hv).1
  have hi11 : V.length < 100000000000 := few V 0 vo
  obtain ⟨dc, df, de⟩ := (gs v (List.mem_of_getElem? hv)).dec hw4.2 hn4.2
  have hst : IsSt v.1 := (gs v (List.mem_of_getElem? hv)).st
  obtain ⟨row, hrow⟩ : ∃ row, rowU v.1 = row := ⟨_, rfl⟩
  have hrl : row.length = 24 := by rw [← hrow]; simp [rowU, hst.l]
  have HRW : Hid (rowU v.1 = row ∧ row.length = 24 ∧ ∀ (j : Nat) (u : Value), row[j]? = some u → (viC v)[j]? = some u) := ⟨hrow, hrl, fun j u hj => by
    rw [viC_row hst.l, hrow, List.getElem?_append_left (List.getElem?_eq_some_iff.1 hj).1]; exact hj⟩
  have HI : Hid ((Tryz.prog.info? 179).map (·.size) = some row.length) := by rw [hrl]; exact iSt
  have HD : Hid (Can B.wd B.n (decS v.1) ∧ Fit B.wd (decS v.1) ∧ encS (decS v.1) = v.1) := ⟨dc, df, de⟩
  have HRES : Hid (∀ (X : World) (a' : Hp × Ls), BnF X G B bb hb qb (.slice (some ⟨gt, 0, none⟩) B.n ct) a' → Can B.wd B.n a'.2 → Calls Tryz.prog 90 #[.pointer (some ⟨bb, 0, none⟩), .agg row.toArray] X fun e w' => e = .returned (.tuple #[]) ∧ BnF w' G B bb hb qb (.slice (some ⟨gt, 0, none⟩) B.n ct) (a'.1, decS v.1) ∧ Keeps (fB B) X w') := fun X a' b' c' => by
    have := restore_any X G B hB bb hb qb _ a' b' hn4 hw4 c' (decS v.1) dc df.w (fun i hi => df.p i)
    rw [de, hrow] at this
    exact this
  have HV : Hid (V[i]? = some v ∧ (∀ V' j, Vo (tsL B.ins B.n) s0 V' i j → V'.length < 100000000000)) := ⟨hv, few⟩
  have HLV : Hid (Lv w w G B bb hb qb (.slice (some ⟨gt, 0, none⟩) B.n ct) kb mb vv ev V E s0 i 0) := ⟨a, vv, [], by rw [List.append_nil]; exact ⟨h, vo, gs, Keeps.refl _ _, fun g hg => .inl hg⟩⟩
  have c0 := (cell?_heap h.k.k 0).trans rfl
  have c1 := (cell?_heap h.b.be 2).trans rfl
  have n0 : (0 : Int) ≤ (B.n : Int) := Int.natCast_nonneg _
  clear h vo gs few hv dc df de hrow hrl hst
  go_enter Tryz.func87, Tryz.ntmps87
  go_wp2_with fail
  clear c0 c1
  go_loopw [4, 15] (fun q c wr => ∃ t : Nat, c = .int .i64 t ∧ q = .bool (allT (tsL B.ins B.n) v.1 t) ∧ t ≤ B.n ∧ Lv w wr G B bb hb qb (.slice (some ⟨gt, 0, none⟩) B.n ct) kb mb vv ev V E s0 i t) (fun _ c _ => B.n - (intOf c).toNat)
  case atStart => exact ⟨0, rfl, rfl, by omega, HLV.out⟩
  case round =>
    rename World => wr
    obtain ⟨t, rfl, rfl, ht, hL⟩ := hrel
    obtain ⟨a1, vv1, r, hW, hvo, hgs, hk, hnw⟩ := hL
    have HQ : Hid (Wb wr G B bb hb qb (.slice (some ⟨gt, 0, none⟩) B.n ct) a1 kb mb vv1 ev (V ++ r) E ∧ Vo (tsL B.ins B.n) s0 (V ++ r) i t ∧ (∀ u ∈ V ++ r, Gs B.wd B.n u.1) ∧ Keeps (fun y => G y ∨ fK kb mb vv ev y) w wr ∧ ∀ g, vv1.ownBlock = some g → vv.ownBlock = some g ∨ w.heap.size ≤ g) := ⟨hW, hvo, hgs, hk, hnw⟩
    have t0 : (0 : Int) ≤ (t : Int) := Int.natCast_nonneg _
    obtain ⟨q, hq⟩ : ∃ q, allT (tsL B.ins B.n) v.1 t = q := ⟨_, rfl⟩
    have HQQ : Hid (allT (tsL B.ins B.n) v.1 t = q) := hq
    rw [hq]
    clear hq
    by_cases h5 : t < B.n
    · have t1 : (t : Int) < (B.n : Int) := by omega
      have ht4 : t < 4 := by omega
      have cT : wr.cell? ⟨gt, t, none⟩ = some (.pointer (some ⟨B.T t, 0, none⟩)) := by
        have : OwG thC 31 1 wr 0 (.slice (some ⟨gt, 0, none⟩) ((List.range B.n).map B.T).length ct) ((List.range B.n).map B.T) := by rw [List.length_map, List.length_range]; exact hW.b.ot
        rw [World.ownsRow.cellAt this t (by simpa using h5)]
        have := flat_get thC 1 (fun _ => rfl) ((List.range B.n).map B.T) t (by simpa using h5) 0 (by decide)
        rw [Nat.mul_one, Nat.add_zero] at this
        rw [this]
        simp [thC]
      have hil : i < (V ++ r).length := by rw [List.length_append]; omega
      obtain ⟨gv, cv, hvv, hrg⟩ := visit_at hW.k.v hil
      have hVi : (V ++ r)[i] = v := by
        have e1 : (V ++ r)[i]? = some v := by rw [List.getElem?_append_left hi]; exact HV.out.1
        rw [List.getElem?_eq_getElem hil] at e1
        injection e1
      rw [hVi] at hrg
      subst hvv
      have HSX : Hid (∀ (X : World), Wlk X kb bb mb (.slice (some ⟨gv, 0, none⟩) (V ++ r).length cv) ev (V ++ r) E → X.cell? ⟨kb, 0, none⟩ = some (.pointer (some ⟨bb, 0, none⟩)) ∧ X.cell? ⟨kb, 1, none⟩ = some (.slice (some ⟨gv, 0, none⟩) (V ++ r).length cv) ∧ Hid (X.rangeAt gv (i * 26) row)) := fun X hX => by
        obtain ⟨gv', cv', hvv', hrg'⟩ := visit_at hX.v hil
        injection hvv' with e1
        injection e1 with e1
        injection e1 with e1
        subst e1
        rw [hVi] at hrg'
        exact ⟨(cell?_heap hX.k 0).trans rfl, (cell?_heap hX.k 1).trans rfl, fun j u hj => hrg' j u (HRW.out.2.2 j u hj)⟩
      have sx := HSX.out wr hW.k
      clear hrg hVi hW hvo hgs hk hnw
      obtain ⟨nv, hnv⟩ : ∃ nv, (V ++ r).length = nv := ⟨_, rfl⟩
      have HNV : Hid ((V ++ r).length = nv) := hnv
      rw [hnv] at hil sx
      have i0 : (0 : Int) ≤ (i : Int) := Int.natCast_nonneg _
      have i1 : (i : Int) < (nv : Int) := by omega
      clear hnv
      go_wp2_with fail
      (refine wp_region_held_drew (S := (fun X => X.cell? ⟨kb, 0, none⟩ = some (.pointer (some ⟨bb, 0, none⟩)) ∧ X.cell? ⟨kb, 1, none⟩ = some (.slice (some ⟨gv, 0, none⟩) nv cv) ∧ Hid (X.rangeAt gv (i * 26) row))) (by kernel_rfl) sx (fun hHeld => ?_); simp only [List.size_toArray, List.length_cons, List.length_nil, Nat.reduceAdd, Array.replicate_succ, Array.replicate_zero, List.push_toArray, List.append_toArray, List.nil_append, List.cons_append])
      clear sx
      refine rgT 0 (h := ?_)
      refine rgT 1 (h := ?_)
      refine rgT 2 (h := ?_)
      refine rgT 3 (h := ?_)
      refine rgT 4 (h := ?_)
      refine rgT 5 (h := ?_)
      refine rgT 6 (h := ?_)
      refine rgT 7 (h := ?_)
      refine rgT 8 (h := ?_)
      refine rgT 9 (h := ?_)
      refine rgT 10 (h := ?_)
      refine rgL 11 179 (.tmp 30) gv (i * 26) row _ (hR := fun X hX => hX.2.2.out) (hu := uSt) (hi := HI.out) (h := ?_)
      (refine rgS 12 (h := fun K hK => ?_); go_simp)
      refine (HRES.out wr.drew a1 (HQ.out.1.b.still (Keeps.refl _ _).drew) HQ.out.1.c).mono ?_
      rintro e w1 ⟨rfl, b1, k1⟩
      have HW1 : Hid (Wb w1 G B bb hb qb (.slice (some ⟨gt, 0, none⟩) B.n ct) (a1.1, decS v.1) kb mb (.slice (some ⟨gv, 0, none⟩) (V ++ r).length cv) ev (V ++ r) E) := (HQ.out.1.still (Keeps.refl _ _).drew).bench b1 HD.out.1 (k1.mono (fun y e => HQ.out.1.b.lo y e))
      have s1 := HSX.out w1 HW1.out.k
      rw [HNV.out] at s1
      (refine hK.out _ _ s1 (fun hHeld => ?_); clear hK K; try simp only [Act.put, List.setIfInBounds_toArray, List.set_cons_zero, List.set_cons_succ])
      refine wpAnyH_done (by kernel_rfl) ?_ _
      clear hHeld s1 cT
      clear hHeld
      have HK1 : Hid (Keeps (fun y => G y ∨ fK kb mb vv ev y) w w1) := HQ.out.2.2.2.1.trans (((Keeps.refl _ _).drew).trans (k1.mono (fun y e => .inl (HQ.out.1.b.lo y e))))
      clear b1 k1
      go_wp2_with fail
      refine (done_all w1 (B.T t) B.L (B.ia t) (B.ins t).length (B.cap t) ((decS v.1).rg t) ((decS v.1).pl t) (HW1.out.b.o.th t h5)).mono ?_
      rintro e w2 ⟨rfl, k2⟩
      obtain ⟨d, hd⟩ : ∃ d, decide ((B.ins t).length ≤ (decS v.1).pl t) = d := ⟨_, rfl⟩
      rw [hd]
      have HDN : Hid ((tsL B.ins B.n).dn v.1 t = d) := hd
      have HW2 : Hid (Wb w2 G B bb hb qb (.slice (some ⟨gt, 0, none⟩) B.n ct) (a1.1, decS v.1) kb mb (.slice (some ⟨gv, 0, none⟩) (V ++ r).length cv) ev (V ++ r) E) := HW1.out.still k2
      have HK2 : Hid (Keeps (fun y => G y ∨ fK kb mb vv ev y) w w2) := HK1.out.trans (k2.mono (fun _ e => e.elim))
      clear hd k2 HW1 HK1
      cases d
      · go_wp2_with fail
        refine (Bo.call hB w2 (decS v.1) t h5 HW2.out.b.o).mono ?_
        rintro e w3 ⟨rfl, o3, k3⟩
        have c3 : Can B.wd B.n (stB B (decS v.1) t) := stI_can HD.out.1 h5 (fun x hx => (hB.sd t h5 x hx).1)
        have f3 : Fit B.wd (stB B (decS v.1) t) := stI_fit HD.out.2.1 (fun x hx => hB.sd t h5 x hx) (hB.ln t h5)
        have b3 : BnF w3 G B bb hb qb (.slice (some ⟨gt, 0, none⟩) B.n ct) (a1.1, stB B (decS v.1) t) := HW2.out.b.moved (D := fun _ => False) o3 (k3.mono (fun _ e => .inr e)) (fun _ e => e.elim)
        have hst3 : (tsL B.ins B.n).st v.1 t = encS (stB B (decS v.1) t) := rfl
        generalize dnB B (stB B (decS v.1) t) t = dd at *
        generalize stB B (decS v.1) t = s3 at *
        have HS3 : Hid ((tsL B.ins B.n).st v.1 t = encS s3 ∧ Can B.wd B.n s3 ∧ Fit B.wd s3) := ⟨hst3, c3, f3⟩
        have HW3 : Hid (Wb w3 G B bb hb qb (.slice (some ⟨gt, 0, none⟩) B.n ct) (a1.1, s3) kb mb (.slice (some ⟨gv, 0, none⟩) (V ++ r).length cv) ev (V ++ r) E) := HW2.out.bench b3 c3 (k3.mono (fun y e => HW2.out.b.lo y e))
        have HK3 : Hid (Keeps (fun y => G y ∨ fK kb mb vv ev y) w w3) := HK2.out.trans (k3.mono (fun y e => .inl (HW2.out.b.lo y e)))
        have cK : w3.cell? ⟨kb, 0, none⟩ = some (.pointer (some ⟨bb, 0, none⟩)) := (cell?_heap HW3.out.k.k 0).trans rfl
        clear o3 k3 b3 hst3 c3 f3 HW2 HK2
        go_wp2_with fail
        refine (state_any w3 G B hB bb hb qb _ (a1.1, s3) HW3.out.b hn4 hw4 HS3.out.2.1 (fun i hi => HS3.out.2.2.p i)).mono ?_
        rintro e w4 ⟨rfl, b4, k4⟩
        have HW4 : Hid (Wb w4 G B bb hb qb (.slice (some ⟨gt, 0, none⟩) B.n ct) (a1.1, s3) kb mb (.slice (some ⟨gv, 0, none⟩) (V ++ r).length cv) ev (V ++ r) E) := HW3.out.bench b4 HS3.out.2.1 (k4.mono (fun y e => HW3.out.b.lo y (.inl e)))
        have HK4 : Hid (Keeps (fun y => G y ∨ fK kb mb vv ev y) w w4) := HK3.out.trans (k4.mono (fun y e => .inl (HW3.out.b.lo y (.inl e))))
        obtain ⟨row2, hrow2⟩ : ∃ row2, rowU (encS s3) = row2 := ⟨_, rfl⟩
        have hrl2 : row2.length = 24 := by rw [← hrow2]; exact rowU_len s3
        have hvi : viC (encS s3, i, t) = row2 ++ [Value.int .i64 (i : Int), Value.int .i64 (t : Int)] := by rw [viC_row (encS_len s3)]; show rowU (encS s3) ++ _ = _; rw [hrow2]
        have hlen : (V ++ r).length < 100000000000 := HV.out.2 _ _ HQ.out.2.1
        have HMT := meet_any w4 kb bb mb (.slice (some ⟨gv, 0, none⟩) (V ++ r).length cv) ev (V ++ r) E HW4.out.k (encS s3, i, t) (enc_st HS3.out.2.1 HS3.out.2.2) hlen
        rw [hvi] at HMT
        have HMM : Hid (∀ _ : Unit, _) := fun _ => HMT
        rw [hrow2]
        clear HMT b4 k4 cK hlen HW3 HK3 hvi
        have HR2 : Hid (row2.length = 24) := hrl2
        clear hrl2 hrow2
        go_wp2_with (refine wpList_visit (by rfl) (.tmp 42) (.tmp 43) (.tmp 44) (by rfl) row2 (i : Int) (t : Int) HR2.out (by rfl) (by rfl) (by rfl) ?_)
        refine (HMM.out ()).mono ?_
        rintro e w5 ⟨rfl, vv5, k5, hn5, kk5⟩
        have HL5 : Hid (Lv w w5 G B bb hb qb (.slice (some ⟨gt, 0, none⟩) B.n ct) kb mb vv ev V E s0 i (t + 1)) := Lv.meet HW4.out HQ.out.2.1 HQ.out.2.2.1 HK4.out HQ.out.2.2.2.2 HV.out.1 h5 HDN.out ⟨s3, HS3.out.2.1, HS3.out.2.2, HS3.out.1⟩ (by rw [HS3.out.1]; exact k5) hn5 kk5
        clear k5 hn5 kk5 HMM HW4 HK4
        go_wp2
        go_roundw
        case rel => exact ⟨t + 1, by go_num, by rw [allT_succ, HDN.out, Bool.and_false], by omega, HL5.out⟩
        case measure => simp [intOf]; omega
      · go_wp2
        go_roundw
        case rel => exact ⟨t + 1, by go_num, by rw [allT_succ, HQQ.out, HDN.out, Bool.and_true], by omega, Lv.pass HW2.out HQ.out.2.1 HQ.out.2.2.1 HK2.out HQ.out.2.2.2.2 HV.out.1 HDN.out⟩
        case measure => simp [intOf]; omega
    · obtain rfl : t = B.n := by omega
      clear hW hvo hgs hk hnw
      cases q
      · go_wp2
        refine ⟨rfl, .tuple #[], by simp [results, Tryz.results87], rfl, ?_⟩
        refine ⟨a1, vv1, ev, r, ?_⟩
        rw [HQQ.out, if_neg (by decide), List.append_nil]
        refine ⟨HQ.out.1, HQ.out.2.1.left _, HQ.out.2.2.1, HQ.out.2.2.2.1, fun g hg => ?_⟩
        rcases hg with e | e | e | e
        · exact .inl (.inl e)
        · exact .inl (.inr (.inl e))
        · exact (HQ.out.2.2.2.2 g e).elim (fun e => .inl (.inr (.inr (.inl e)))) .inr
        · exact .inl (.inr (.inr (.inr e)))
      · have c3 := (cell?_heap HQ.out.1.k.k 3).trans rfl
        go_wp2_with (at_builtin; refine hideG ?_)
        change wpList _ _ _ _ _ _
        refine app_st (cs := enC) (wr := wr) (by rfl) _ _ 91 3 (by rfl) Tryz.underlying91 infoEn rfl (by decide) (fun _ => rfl) _ E i HQ.out.1.k.e (by rfl) wr.heap.size rfl (by rfl) (by intro u hu; simp [enC] at hu; subst hu; rfl) _ rfl (by unfold maxLen; omega) (by omega) ?_
        intro b cap w6 ho6 hk6 hb6
        have k6 : Keeps (fun k => ev.ownBlock = some k) wr w6 := hk6.elim (·.2) (fun e => e.2.mono (fun _ e => e.elim))
        have kb6 : w6.heap[kb]? = some (.cells (wkA bb vv1 mb ev) 128) := (k6.block kb (Array.getElem?_eq_some_iff.1 HQ.out.1.k.k).1 (fun e => (HQ.out.1.k.ed e).1 rfl)).trans HQ.out.1.k.k
        have H6 : Hid (OwG enC 3 1 w6 0 (.slice (some ⟨b, 0, none⟩) (E.length + 1) cap) (E ++ [i]) ∧ Keeps (fun k => ev.ownBlock = some k) wr w6 ∧ w6.heap[kb]? = some (.cells (wkA bb vv1 mb ev) 128) ∧ (ev.ownBlock = some b ∨ wr.heap.size ≤ b)) := ⟨ho6, k6, kb6, hk6.imp (·.1) (·.1)⟩
        have c6 := (cell?_heap kb6 3).trans rfl
        have f6 := frozen?_heap kb6 3
        clear ho6 hk6 hb6 k6 kb6 c3
        go_wp2
        refine ⟨rfl, .tuple #[], by simp [results, Tryz.results87], rfl, ?_⟩
        refine ⟨a1, vv1, .slice (some ⟨b, 0, none⟩) (E.length + 1) cap, r, ?_⟩
        rw [HQQ.out, if_pos rfl]
        obtain ⟨o6, k6, kb6, n6⟩ := H6.out
        obtain ⟨hW, hvo, hgs, hk, hnw⟩ := HQ.out
        have ks := hk.size
        have hset : Wlk (w6.setCell ⟨kb, 3, none⟩ (.slice (some ⟨b, 0, none⟩) (E.length + 1) cap)) kb bb mb vv1 (.slice (some ⟨b, 0, none⟩) (E.length + 1) cap) (V ++ r) (E ++ [i]) := wk_setE kb6 (owK hW.k.v k6 (fun g hg e => (hW.k.vd hg).2.2 e)) (hW.k.s.keeps k6 (fun e => (hW.k.ed e).2.1 rfl)) o6
        have kk6 : Keeps (fun y => fK kb mb vv1 ev y) wr (w6.setCell ⟨kb, 3, none⟩ (.slice (some ⟨b, 0, none⟩) (E.length + 1) cap)) := Keeps.setCell (B := fun y => fK kb mb vv1 ev y) (k6.mono (fun y e => .inr (.inr (.inr e)))) (.inl rfl) _
        have nw6 : ∀ g, fK kb mb vv1 (.slice (some ⟨b, 0, none⟩) (E.length + 1) cap) g → fK kb mb vv1 ev g ∨ wr.heap.size ≤ g := fun g hg => by
          rcases hg with e | e | e | e
          · exact .inl (.inl e)
          · exact .inl (.inr (.inl e))
          · exact .inl (.inr (.inr (.inl e)))
          · have hg2 : b = g := by injection e
            subst hg2
            exact n6.imp (fun e => .inr (.inr (.inr e))) id
        have old : ∀ g, fK kb mb vv1 ev g → fK kb mb vv ev g ∨ w.heap.size ≤ g := fun g hg => by
          rcases hg with e | e | e | e
          · exact .inl (.inl e)
          · exact .inl (.inr (.inl e))
          · exact (hnw g e).elim (fun e => .inl (.inr (.inr (.inl e)))) .inr
          · exact .inl (.inr (.inr (.inr e)))
        refine ⟨hW.walk hset kk6 nw6, hvo.left _, hgs, ?_, fun g hg => (nw6 g hg).elim (old g) (fun e => .inr (by omega))⟩
        refine ⟨kk6.os.trans hk.os, kk6.tape.trans hk.tape, kk6.output.trans hk.output, Nat.le_trans ks kk6.size, fun x hx hnx => ?_⟩
        exact (kk6.block x (by omega) (fun e => (old x e).elim (fun e => hnx (.inr e)) (fun e => by omega))).trans (hk.block x hx hnx)
end Go.Proofs.YtdpebhdjcgiboaaGreat

namespace Go.Proofs.YtdpebhdjcgiboaaGreat
open Go.ChangeShapes Go.WideShapes Go.ChangeAt Go.RowKit Go.MuLone Go.RwLone
set_option linter.unusedVariables false
set_option maxRecDepth 100000
set_option maxHeartbeats 6400000
/-- Is the visit k one in which all threads are done? -/
def endB (T : Ts (List Int)) (V : List (Vi (List Int))) (k : Nat) : Bool := match V[k]? with
  | some v => allT T v.1 T.n
  | none => false
/-- The ends among the first i visits. -/
def endsP (T : Ts (List Int)) (V : List (Vi (List Int))) (i : Nat) : List Nat := (List.range i).filter (endB T V)
theorem ends_len (T : Ts (List Int)) (V : List (Vi (List Int))) (i : Nat) : (endsP T V i).length ≤ i := by
  have := List.length_filter_le (endB T V) (List.range i)
  rw [List.length_range] at this
  exact this
theorem ends_step (T : Ts (List Int)) (V r : List (Vi (List Int))) (i : Nat) (v : Vi (List Int)) (hv : V[i]? = some v) : endsP T V i ++ (if allT T v.1 T.n = true then [i] else []) = endsP T (V ++ r) (i + 1) := by
  have hi := (List.getElem?_eq_some_iff.1 hv).1
  have e1 : endsP T (V ++ r) i = endsP T V i := by
    unfold endsP
    apply List.filter_congr
    intro k hk
    have hk := List.mem_range.1 hk
    unfold endB
    rw [List.getElem?_append_left (by omega)]
  have e2 : endB T (V ++ r) i = allT T v.1 T.n := by
    unfold endB
    rw [List.getElem?_append_left hi, hv]
  unfold endsP at *
  rw [List.range_succ, List.filter_append, e1]
  congr 1
  rw [List.filter_cons, e2]
  split <;> rfl
theorem ends_in {T : Ts (List Int)} {V : List (Vi (List Int))} {i k : Nat} : k ∈ endsP T V i ↔ k < i ∧ ∃ v, V[k]? = some v ∧ allT T v.1 T.n = true := by
  unfold endsP
  rw [List.mem_filter, List.mem_range]
  refine and_congr_right (fun _ => ?_)
  unfold endB
  cases V[k]? with
  | none => simp
  | some v => simp
theorem few_all {cs : List Int} {tl : List (List I8)} (hsd : soundP cs tl = true) {V : List (Vi (List Int))} {i j : Nat} (h : Vo (tsL (insL tl) tl.length) (encS (begA cs tl).2) V i j) : V.length ≤ 6103515625 := by
  obtain ⟨hc4, hn4, _⟩ := sound_facts hsd
  have h1 := h.few _ (R := 14) (fun ws t hw => word_ten hsd hw)
  have h2 : ((tsL (insL tl) tl.length).n + 1) ^ 14 ≤ 5 ^ 14 := Nat.pow_le_pow_left (by show tl.length + 1 ≤ 5; omega) 14
  have h3 : (5 : Nat) ^ 14 = 6103515625 := by decide
  omega
theorem beg_fit {cs : List Int} {tl : List (List I8)} (hco : csOk cs) : Fit cs.length (begA cs tl).2 := by
  refine ⟨fun i hi => ?_, fun i r => by show (0 : Int) ≤ 0 ∧ (0 : Int) < _; omega, fun i => Nat.zero_le _⟩
  show 0 ≤ wds cs i ∧ wds cs i < 18446744073709551616
  unfold wds
  rw [List.getElem?_eq_getElem hi]
  exact hco _ (List.getElem_mem hi)
/-- All that an exploration has found. -/
structure Ex (w w' : World) (cs : List Int) (tl : List (List I8)) (G : Nat → Prop) (B : Bd) (bb hb qb : Nat) (tv : Value) (a : Hp × Ls) (kb mb : Nat) (vv ev : Value) (V : List (Vi (List Int))) (i : Nat) : Prop where
  h : Wb w' G B bb hb qb tv a kb mb vv ev V (endsP (tsL B.ins B.n) V i)
  o : Vo (tsL B.ins B.n) (encS (begA cs tl).2) V i 0
  g : ∀ u ∈ V, Gs B.wd B.n u.1
  f : ∀ y, fK kb mb vv ev y → w.heap.size ≤ y
  b : ∀ y, G y → w.heap.size ≤ y
  k : Below w.heap.size w w'
structure BdIs (B : Bd) (cs : List Int) (tl : List (List I8)) : Prop where
  ok : BdOk B
  n : B.n = tl.length
  w : B.wd = cs.length
  i : B.ins = insL tl
/-- An exploration at the visit i. -/
def ExI (w w' : World) (cs : List Int) (tl : List (List I8)) (G : Nat → Prop) (B : Bd) (bb hb qb : Nat) (tv : Value) (kb mb i : Nat) : Prop := ∃ a vv ev V, i ≤ V.length ∧ Ex w w' cs tl G B bb hb qb tv a kb mb vv ev V i
/-- What an exploration leaves. -/
def Exp (w w' : World) (cs : List Int) (tl : List (List I8)) (kb : Nat) : Prop := ∃ G B bb hb qb tv a mb vv ev V, BdIs B cs tl ∧ Ex w w' cs tl G B bb hb qb tv a kb mb vv ev V V.length
theorem explore_any (w : World) (C : Nat) (ca : Option Addr) (cc : Nat) (ta : Option Addr) (tc : Nat) (tvf : Nat → Value) (cs : List Int) (tl : List (List I8)) (h : LitG w C ca cc ta tc tvf cs tl) (hC : C ≤ w.heap.size) (hsd : soundP cs tl = true) (hco : csOk cs) (hio : ∀ l ∈ tl, ∀ x ∈ l, immOk x) :
    Calls Tryz.prog 44 #[.agg (litC ca cs.length cc ta tl.length tc)] w fun e w' => ∃ kb, e = .returned (.tuple #[.pointer (some ⟨kb, 0, none⟩), .int .i64 0]) ∧ Exp w w' cs tl kb := by
  obtain ⟨hc4, hn4, -⟩ := sound_facts hsd
  have k0 : Keeps (fun _ => False) w (w.alloc (.cells (litC ca cs.length cc ta tl.length tc) 49)) := (Keeps.refl _ _).alloc _
  have HL := layB (w.alloc (.cells (litC ca cs.length cc ta tl.length tc) 49)) C ca cc ta tc tvf cs tl (h.later (k0.below hC (fun _ _ e => e))) (by rw [szAl]; omega) hsd hco hio
  have HLL : Hid (∀ _ : Unit, _) := fun _ => HL
  have HK0 : Hid (Keeps (fun _ => False) w (w.alloc (.cells (litC ca cs.length cc ta tl.length tc) 49)) ∧ soundP cs tl = true ∧ csOk cs) := ⟨k0, hsd, hco⟩
  clear h HL k0 hsd hco hio
  go_enter Tryz.func44, Tryz.ntmps44
  go_wp2_with fail
  refine (HLL.out ()).mono ?_
  rintro e w2 ⟨B, bb, hb, qb, tv, rfl, hB, hBn, hBw, hBi, b⟩
  have HBB : Hid (BdIs B cs tl) := ⟨hB, hBn, hBw, hBi⟩
  have HB : Hid (BnF w2 (fun y => (w.alloc (.cells (litC ca cs.length cc ta tl.length tc) 49)).heap.size ≤ y ∧ y < w2.heap.size) B bb hb qb tv (begA cs tl) ∧ Below w.heap.size w w2) := ⟨BnF.of b, (HK0.out.1.below (Nat.le_refl _) (fun _ _ e => e)).trans (b.bl.mono (by rw [szAl]; omega))⟩
  clear b hB hBn hBw hBi HLL
  have HN : Hid (w.heap.size ≤ (w.alloc (.cells (litC ca cs.length cc ta tl.length tc) 49)).heap.size) := by show _ ≤ _; rw [szAl]; omega
  generalize (w.alloc (.cells (litC ca cs.length cc ta tl.length tc) 49)).heap.size = N at *
  have hmk : (Instr.makeMap 126 none).run Tryz.prog w2 = .ok (.map (some w2.heap.size)) (w2.alloc (.map #[] 0)) := rfl
  have hsz3 : (w2.alloc (.map #[] 0)).heap.size = w2.heap.size + 1 := szAl _ _
  go_wp2_with fail
  clear hmk hsz3
  have HW4 : Hid (Wb ((w2.alloc (.map #[] 0)).alloc (.cells (wkA bb (.slice none 0 0) w2.heap.size (.slice none 0 0)) 128)) (fun y => N ≤ y ∧ y < w2.heap.size) B bb hb qb tv (begA cs tl) (w2.heap.size + 1) w2.heap.size (.slice none 0 0) (.slice none 0 0) [] []) := by
    refine ⟨HB.out.1.still (((Keeps.refl _ _).alloc _).alloc _), ⟨heap_alloc_last _ _ _ (szAl _ _).symm, OwG.nil _ _ _ _ _, (SetM.made w2).keeps ((Keeps.refl (fun _ => False) _).alloc _) (fun e => e), OwG.nil _ _ _ _ _⟩, fun y hy hG => ?_, ?_⟩
    · rcases hy with e | e | e | e
      · omega
      · omega
      · cases e
      · cases e
    · rw [HBB.out.w, HBB.out.n]; exact beg_can cs tl
  have HK4 : Hid (Below w.heap.size w ((w2.alloc (.map #[] 0)).alloc (.cells (wkA bb (.slice none 0 0) w2.heap.size (.slice none 0 0)) 128)) ∧ w.heap.size ≤ N ∧ w.heap.size ≤ w2.heap.size) := ⟨(HB.out.2.alloc HB.out.2.size _).alloc (by rw [szAl]; have := HB.out.2.size; omega) _, HN.out, HB.out.2.size⟩
  generalize (w2.alloc (.map #[] 0)).alloc (.cells (wkA bb (.slice none 0 0) w2.heap.size (.slice none 0 0)) 128) = w4 at *
  have hBn : 1 ≤ B.n ∧ B.n ≤ 4 := by rw [HBB.out.n]; exact hn4
  have hBw : 1 ≤ B.wd ∧ B.wd ≤ 4 := by rw [HBB.out.w]; exact hc4
  refine (state_any w4 (fun y => N ≤ y ∧ y < w2.heap.size) B HBB.out.ok bb hb qb tv (begA cs tl) HW4.out.b hBn hBw HW4.out.c (fun i hi => Nat.zero_le _)).mono ?_
  rintro e w5 ⟨rfl, b5, k5⟩
  have HW5 : Hid (Wb w5 (fun y => N ≤ y ∧ y < w2.heap.size) B bb hb qb tv (begA cs tl) (w2.heap.size + 1) w2.heap.size (.slice none 0 0) (.slice none 0 0) [] []) := HW4.out.bench b5 HW4.out.c (k5.mono (fun y e => HW4.out.b.lo y (.inl e)))
  have HK5 : Hid (Below w.heap.size w w5) := HK4.out.1.trans (k5.below HK4.out.1.size (fun y hy e => by have := HW4.out.b.lo y (.inl e); have := HK4.out.2.1; omega))
  have hco := HK0.out.2.2
  have c0 : Can B.wd B.n (begA cs tl).2 := HW4.out.c
  have f0 : Fit B.wd (begA cs tl).2 := by rw [HBB.out.w]; exact beg_fit hco
  obtain ⟨row, hrow⟩ : ∃ row, rowU (encS (begA cs tl).2) = row := ⟨_, rfl⟩
  have HR : Hid (row.length = 24) := by show _ = _; rw [← hrow]; exact rowU_len _
  have hvi : viC (encS (begA cs tl).2, 0, 0) = row ++ [Value.int .i64 0, Value.int .i64 0] := by rw [viC_row (encS_len _)]; show rowU (encS (begA cs tl).2) ++ _ = _; rw [hrow]; rfl
  have HMT := meet_any w5 (w2.heap.size + 1) bb w2.heap.size (.slice none 0 0) (.slice none 0 0) [] [] HW5.out.k (encS (begA cs tl).2, 0, 0) (enc_st c0 f0) (by decide)
  rw [hvi] at HMT
  have HMM : Hid (∀ _ : Unit, _) := fun _ => HMT
  have HC : Hid (Can B.wd B.n (begA cs tl).2 ∧ Fit B.wd (begA cs tl).2) := ⟨c0, f0⟩
  rw [hrow]
  clear b5 k5 hco c0 f0 hrow hvi HMT
  go_wp2_with (refine wpList_visit0 (by rfl) (.tmp 22) (by rfl) row HR.out (by rfl) ?_)
  refine (HMM.out ()).mono ?_
  rintro e w6 ⟨rfl, vv6, k6, hn6, kk6⟩
  have hn6' : ∀ g, vv6.ownBlock = some g → w5.heap.size ≤ g := fun g hg => (hn6 g hg).elim (fun e => by cases e) id
  have HX : Hid (ExI w w6 cs tl (fun y => N ≤ y ∧ y < w2.heap.size) B bb hb qb tv (w2.heap.size + 1) w2.heap.size 0) := by
    refine ⟨begA cs tl, vv6, .slice none 0 0, [(encS (begA cs tl).2, 0, 0)], by simp, ⟨?_, Vo.start _ _, fun u hu => ?_, fun y hy => ?_, fun y hy => by have := HK4.out.2.1; omega, ?_⟩⟩
    · refine HW5.out.walk k6 (kk6.mono (fun y e => e.elim .inl (fun e => .inr (e.elim .inl (fun e => .inr (.inl e)))))) (fun g hg => ?_)
      rcases hg with e | e | e | e
      · exact .inl (.inl e)
      · exact .inl (.inr (.inl e))
      · exact .inr (hn6' g e)
      · cases e
    · rw [List.mem_singleton.1 hu]
      exact ⟨(begA cs tl).2, HC.out.1, HC.out.2, rfl⟩
    · have := HK4.out.2.2
      rcases hy with e | e | e | e
      · omega
      · omega
      · have := hn6' y e; have := HK5.out.size; omega
      · cases e
    · refine HK5.out.trans (kk6.below HK5.out.size (fun y hy e => ?_))
      have := HK4.out.2.2
      rcases e with e | e | e
      · omega
      · omega
      · cases e
  clear k6 hn6 kk6 hn6' HMM HW5 HK5 HW4 HK4 HR HC
  go_wp2_with fail
  go_loopw [7] (fun c wr => ∃ i : Nat, c = .int .i64 i ∧ ExI w wr cs tl (fun y => N ≤ y ∧ y < w2.heap.size) B bb hb qb tv (w2.heap.size + 1) w2.heap.size i) (fun c _ => 6103515625 - (intOf c).toNat)
  case atStart => exact ⟨0, rfl, HX.out⟩
  case round =>
    rename World => wr
    obtain ⟨i, rfl, hX⟩ := hrel
    obtain ⟨a, vv, ev, V, hi, hE⟩ := hX
    obtain ⟨va, vc, rfl⟩ := hE.h.k.v.form
    have hfe : ∀ V' j, Vo (tsL B.ins B.n) (encS (begA cs tl).2) V' i j → V'.length ≤ 6103515625 := fun V' j h' => by
      rw [HBB.out.i, HBB.out.n] at h'
      exact few_all HK0.out.2.1 h'
    have hfew := hfe V 0 hE.o
    have HE : Hid (Ex w wr cs tl (fun y => N ≤ y ∧ y < w2.heap.size) B bb hb qb tv a (w2.heap.size + 1) w2.heap.size (.slice va V.length vc) ev V i ∧ ∀ V' j, Vo (tsL B.ins B.n) (encS (begA cs tl).2) V' i j → V'.length ≤ 6103515625) := ⟨hE, hfe⟩
    have c1 := (cell?_heap hE.h.k.k 1).trans rfl
    have i0 : (0 : Int) ≤ (i : Int) := Int.natCast_nonneg _
    clear hE hfe
    by_cases h5 : i < V.length
    · have i1 : (i : Int) < (V.length : Int) := by omega
      go_wp2_with fail
      refine (leave_any wr _ B HBB.out.ok bb hb qb tv a (w2.heap.size + 1) w2.heap.size _ ev V _ HE.out.1.h hBn hBw _ i V[i] (List.getElem?_eq_getElem h5) HE.out.1.o HE.out.1.g (fun V' j h' => by have := HE.out.2 V' j h'; omega) (ends_len _ _ _)).mono ?_
      rintro e w7 ⟨rfl, hL⟩
      have HN7 : Hid (ExI w w7 cs tl (fun y => N ≤ y ∧ y < w2.heap.size) B bb hb qb tv (w2.heap.size + 1) w2.heap.size (i + 1)) := by
        obtain ⟨a7, vv7, ev7, r7, hW7, vo7, gs7, k7, n7⟩ := hL
        have hx := HE.out.1
        have hsz := hx.k.size
        refine ⟨a7, vv7, ev7, V ++ r7, by rw [List.length_append]; omega, ⟨?_, vo7, gs7, fun y hy => (n7 y hy).elim (hx.f y) (fun e => by omega), hx.b, ?_⟩⟩
        · rw [← ends_step (tsL B.ins B.n) V r7 i V[i] (List.getElem?_eq_getElem h5)]
          exact hW7
        · exact hx.k.trans (k7.below hsz (fun y hy e => e.elim (fun e => by have := hx.b y e; omega) (fun e => by have := hx.f y e; omega)))
      clear hL c1 HE
      go_wp2
      go_roundw
      case rel => exact ⟨i + 1, by go_num, HN7.out⟩
      case measure => simp [intOf]; omega
    · obtain rfl : i = V.length := by omega
      go_wp2
      go_ret2
      exact ⟨_, rfl, _, B, bb, hb, qb, tv, a, _, _, ev, V, HBB.out, HE.out.1⟩
end Go.Proofs.YtdpebhdjcgiboaaGreat
