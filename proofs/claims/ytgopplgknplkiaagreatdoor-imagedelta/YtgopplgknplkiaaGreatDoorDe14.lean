import Derived.Test.YtgopplgknplkiaaGreatDoorDe13
namespace Go.Proofs.YtgopplgknplkiaaGreatDoor
set_option linter.unusedSimpArgs false
open Go.ChangeShapes Go.WideShapes Go.ChangeAt Go.RowKit
set_option linter.unusedVariables false
set_option maxRecDepth 100000
set_option maxHeartbeats 25600000 in
theorem refDecD_any (w : World) (b : ByteArray) (hs : b.size ≤ 1125899906842624) (Y : Prop) (i0 g0 : Int) (ps0 : List ER) (hY : Y → DoYes b i0 g0 ps0) : Calls Tryz.prog 11 #[.string b] w (RdC w b Y) := by
  have hb0 : Below w.heap.size w (w.alloc (.cells #[.int .i64 0, .int .u64 0, .int .u64 0, .slice none 0 0, .int .i64 0, .slice none 0 0] 26)) := (Below.refl _ _).alloc (Nat.le_refl _) _
  have HB0 : Hid _ := hb0
  have HZ0 : Hid (Fp6 (w.alloc (.cells #[.int .i64 0, .int .u64 0, .int .u64 0, .slice none 0 0, .int .i64 0, .slice none 0 0] 26)) w.heap.size (.int .i64 0) (.int .u64 0) (.int .u64 0) (.slice none 0 0) (.int .i64 0) (.slice none 0 0)) := heap_alloc_new w _
  have HO : Hid (∀ _ : Unit, _) := fun _ => opened_any b mgDB (w.alloc (.cells #[.int .i64 0, .int .u64 0, .int .u64 0, .slice none 0 0, .int .i64 0, .slice none 0 0] 26)) rfl hs
  have HY : Hid (Y → DoYes b i0 g0 ps0) := hY
  have hsz : (b.extract 8 (b.size - 4)).size ≤ 1125899906842624 := by rw [ByteArray.size_extract]; omega
  clear hb0 hY
  go_enter Tryz.func11, Tryz.ntmps11
  go_wp2_with fail
  generalize hw0 : w.alloc (.cells #[.int .i64 0, .int .u64 0, .int .u64 0, .slice none 0 0, .int .i64 0, .slice none 0 0] 26) = y0 at *
  clear hw0
  refine (HO.out ()).mono ?_
  rintro e w1 ⟨hb1, hor⟩
  have HZ1 : Hid (Fp6 w1 w.heap.size (.int .i64 0) (.int .u64 0) (.int .u64 0) (.slice none 0 0) (.int .i64 0) (.slice none 0 0)) := HZ0.out.later hb1 HZ0.out.lt
  have HB1 : Hid (Below w.heap.size w w1) := HB0.out.trans (hb1.mono HB0.out.size)
  have hyz := HZ0.out.lt
  clear hb1 HO HB0 HZ0
  rcases hor.symm with ⟨hne, rfl⟩ | ⟨h0, C, rfl, hR, hrd⟩
  · have HNE : Hid (opE b mgDB ≠ 0) := hne
    have hnd : (opE b mgDB != 0) = true := by rw [bne_iff_ne]; exact hne
    have HNY : Hid (¬ Y) := fun y => hne (HY.out y).1
    have z0 : w1.cell? ⟨w.heap.size, 0, none⟩ = some (.int .i64 0) := HZ1.out.cell 0
    have z1 : w1.cell? ⟨w.heap.size, 1, none⟩ = some (.int .u64 0) := HZ1.out.cell 1
    have z2 : w1.cell? ⟨w.heap.size, 2, none⟩ = some (.int .u64 0) := HZ1.out.cell 2
    have z3 : w1.cell? ⟨w.heap.size, 3, none⟩ = some (.slice none 0 0) := HZ1.out.cell 3
    have z4 : w1.cell? ⟨w.heap.size, 4, none⟩ = some (.int .i64 0) := HZ1.out.cell 4
    have z5 : w1.cell? ⟨w.heap.size, 5, none⟩ = some (.slice none 0 0) := HZ1.out.cell 5
    have o0 := HZ1.out.free 0
    have o1 := HZ1.out.free 1
    have o2 := HZ1.out.free 2
    have o3 := HZ1.out.free 3
    have o4 := HZ1.out.free 4
    have o5 := HZ1.out.free 5
    clear hor hne
    generalize hoe : opE b mgDB = oe at *
    have HOE : Hid (opE b mgDB = oe) := hoe
    clear hoe
    go_wp2
    refine bodyPost_ret (ret_fp1 rfl _ _ _ _ _ _ _ _ w.heap.size (by rfl) (HZ1.out.setAll _ _ _ _ _ _)) rfl ⟨?_, .inr ⟨HNY.out, ?_⟩⟩
    · exact (((((HB1.out.setCell (p := ⟨w.heap.size, 0, none⟩) (Nat.le_refl _) _).setCell (p := ⟨w.heap.size, 1, none⟩) (Nat.le_refl _) _).setCell (p := ⟨w.heap.size, 2, none⟩) (Nat.le_refl _) _).setCell (p := ⟨w.heap.size, 3, none⟩) (Nat.le_refl _) _).setCell (p := ⟨w.heap.size, 4, none⟩) (Nat.le_refl _) _).setCell (p := ⟨w.heap.size, 5, none⟩) (Nat.le_refl _) _
    · show _ = Ending.returned (.tuple #[_, .int .i64 (if opE b mgDB = 0 then 125 else opE b mgDB)])
      rw [HOE.out, if_neg HNE.out]
      rfl
  · have HOP : Hid (opE b mgDB = 0) := h0
    have hzc : w.heap.size < C := Nat.lt_of_lt_of_le hyz hR
    have HC1 : Hid (Cu w1 C (b.extract 8 (b.size - 4)) 0 false) := hrd
    have HY0 : Hid (Y → mayD i0 g0 ps0 ∧ (∀ p ∈ ps0, p.wf) ∧ HasAt (b.extract 8 (b.size - 4)) 0 (encD i0 g0 ps0)) := fun y => ⟨(HY.out y).2.2.1, (HY.out y).2.2.2, (HY.out y).has⟩
    clear hor h0 hrd hR hyz
    generalize hss : b.extract 8 (b.size - 4) = s at *
    clear hss
    have HN1 : Hid (∀ _ : Unit, _) := fun _ => smallU C s 0 false w1 HC1.out (Nat.zero_le _) hsz
    go_wp2_with fail
    refine (HN1.out ()).mono ?_
    rintro e w2 ⟨hf, x1, p1, bad1, rfl, hcu, lb1, ub1, hp1, hx⟩
    have HY1 : Hid (Y → x1 = i0 ∧ bad1 = false ∧ HasAt s p1 (uvB g0 ++ (uvB ps0.length ++ encEs 0 ps0))) := fun y => by
      obtain ⟨⟨⟨g1, g2⟩, _⟩, _, hh⟩ := HY0.out y
      exact cu_stepD hx (by omega) (by omega) ⟨rfl, hh⟩
    have hba : Below w2.heap.size w2 (w2.alloc (.cells #[.int .i64 x1, .int .u64 0, .int .u64 0, .slice none 0 0, .int .i64 0, .slice none 0 0] 26)) := (Below.refl _ _).alloc (Nat.le_refl _) _
    have hC2 := hcu.lt
    have HS2 : Hid (RdS w C w2.heap.size (w2.heap.size + 1) s x1 0 (w2.alloc (.cells #[.int .i64 x1, .int .u64 0, .int .u64 0, .slice none 0 0, .int .i64 0, .slice none 0 0] 26)) p1 bad1 (.slice none 0 0) []) := ⟨(HB1.out.trans (hf.toBelow.mono (Nat.le_of_lt hzc))).trans (hba.mono (Nat.le_trans HB1.out.size hf.toBelow.size)), (HZ1.out.fr hf (by omega)).later hba (by have := (HZ1.out.fr hf (by omega)).lt; omega), hcu.later hba hC2, heap_alloc_new w2 _, ownE_nil _ _, hzc, by omega, by omega, by omega, by omega, by simp⟩
    clear hba hf hcu hx HN1 HC1 HB1 HZ1
    go_wp2_with fail
    generalize hya : w2.alloc (.cells #[.int .i64 x1, .int .u64 0, .int .u64 0, .slice none 0 0, .int .i64 0, .slice none 0 0] 26) = y2 at *
    generalize hgg : w2.heap.size = g at *
    clear hya hgg hC2
    have HN2 : Hid (∀ _ : Unit, _) := fun _ => smallU C s p1 bad1 y2 HS2.out.cu hp1 hsz
    refine (HN2.out ()).mono ?_
    rintro e w3 ⟨hf, x2, p2, bad2, rfl, hcu, lb2, ub2, hp2, hx⟩
    have HY2 : Hid (Y → x1 = i0 ∧ x2 = g0 ∧ bad2 = false ∧ HasAt s p2 (uvB ps0.length ++ encEs 0 ps0)) := fun y => by
      obtain ⟨⟨_, ⟨m1, m2⟩, _⟩, _, _⟩ := HY0.out y
      obtain ⟨e1, hh⟩ := HY1.out y
      exact ⟨e1, cu_stepD hx (by omega) (by omega) hh⟩
    have hS3 := HS2.out.read hf hcu
    have c4 : w3.cell? ⟨g, 4, none⟩ = some (.int .i64 0) := hS3.hg.cell 4
    have f4 := hS3.hg.free 4
    have HS3 : Hid (RdS w C g (g + 1) s x1 x2 (w3.setCell ⟨g, 4, none⟩ (.int .i64 x2)) p2 bad2 (.slice none 0 0) []) := hS3.put 4 _ (hS3.hg.set4 _)
    clear hf hcu hx HN2 HS2 HY1 hS3 hp1
    go_wp2_with fail
    generalize hya : w3.setCell ⟨g, 4, none⟩ (.int .i64 x2) = y3 at *
    clear hya c4 f4
    have HN4 : Hid (∀ _ : Unit, _) := fun _ => smallU C s p2 bad2 y3 HS3.out.cu hp2 hsz
    refine (HN4.out ()).mono ?_
    rintro e w5 ⟨hf, x4, p4, bad4, rfl, hcu, lb4, ub4, hp4, hx⟩
    have HY4 : Hid (Y → x1 = i0 ∧ x2 = g0 ∧ x4 = ps0.length ∧ bad4 = false ∧ HasAt s p4 (encEs 0 ps0)) := fun y => by
      obtain ⟨⟨_, _, ⟨m0, m1⟩, _⟩, _, _⟩ := HY0.out y
      obtain ⟨e1, e2, hh⟩ := HY2.out y
      exact ⟨e1, e2, cu_stepD hx (by omega) (by omega) hh⟩
    have HS5 : Hid (RdS w C g (g + 1) s x1 x2 w5 p4 bad4 (.slice none 0 0) []) := HS3.out.read hf hcu
    clear hf hcu hx HN4 HS3 HY2 hp2
    obtain ⟨n, rfl⟩ := Int.eq_ofNat_of_zero_le lb4
    go_wp2_with fail
    go_loopw [8, 9] (fun h i wr => ∃ (k p : Nat) (bad : Bool) (last : Int) (v : Value) (ps : List ER), k ≤ n ∧ i = .int .i64 k ∧ h = .int .u64 last ∧ 0 ≤ last ∧ last ≤ 18446744073709551615 ∧ p ≤ s.size ∧ ps.length = k ∧ (∀ q ∈ ps, q.wf) ∧ RdS w C g (g + 1) s x1 x2 wr p bad v ps ∧ (Y → ps = ps0.take k ∧ last = lastE ps0 k ∧ bad = false ∧ HasAt s p (encEs last (ps0.drop k)))) (fun _ i _ => n - (intOf i).toNat)
    case atStart => exact ⟨0, p4, bad4, 0, .slice none 0 0, [], by omega, rfl, rfl, by omega, by omega, hp4, rfl, (fun _ h => by cases h), HS5.out, fun y => ⟨rfl, rfl, (HY4.out y).2.2.2.1, (HY4.out y).2.2.2.2⟩⟩
    case round =>
      obtain ⟨k, p, bad, last, v, ps, hk, rfl, rfl, hl0, hl1, hps, hlen, hwf, hS, hyy⟩ := hrel
      have HSk : Hid (RdS w C g (g + 1) s x1 x2 wr p bad v ps) := hS
      have HWF : Hid (∀ q ∈ ps, q.wf) := hwf
      have HLN : Hid (ps.length = k) := hlen
      have HYk : Hid (Y → ps = ps0.take k ∧ last = lastE ps0 k ∧ bad = false ∧ HasAt s p (encEs last (ps0.drop k))) := hyy
      clear hS hwf hlen hyy HS5
      have cb : wr.cell? ⟨C, 2, none⟩ = some (.bool bad) := HSk.out.cu.cell 2
      by_cases hgo : k < n ∧ bad = false
      · obtain ⟨hlt, rfl⟩ := hgo
        have HYP : Hid (Y → mayE (ps0.getD k ⟨0, 0, ⟨#[]⟩⟩) ∧ last ≤ (ps0.getD k ⟨0, 0, ⟨#[]⟩⟩).beg) := fun y => by
          have hkl : k < ps0.length := by have := (HY4.out y).2.2.1; omega
          obtain ⟨hm, _, _⟩ := HY0.out y
          have hok := okEs_drop hm.2.2.2 (ps0.length - k) k (by omega)
          rw [(drop_getE ps0 k _ hkl).2]
          rw [List.drop_eq_getElem_cons hkl] at hok
          exact ⟨hok.2.1, by rw [(HYk.out y).2.1]; exact hok.1⟩
        have HYn : Hid (Y → ps ++ [ps0.getD k ⟨0, 0, ⟨#[]⟩⟩] = ps0.take (k + 1) ∧ (ps0.getD k ⟨0, 0, ⟨#[]⟩⟩).beg = lastE ps0 (k + 1)) := fun y => by
          have hkl : k < ps0.length := by have := (HY4.out y).2.2.1; omega
          rw [(drop_getE ps0 k _ hkl).2, lastE_succ hkl, (HYk.out y).1]
          exact ⟨(List.take_succ_eq_append_getElem hkl).symm, rfl⟩
        have HY1 : Hid (Y → HasAt s p (uvB ((ps0.getD k ⟨0, 0, ⟨#[]⟩⟩).beg - last) ++ (uvB ((ps0.getD k ⟨0, 0, ⟨#[]⟩⟩).fin - (ps0.getD k ⟨0, 0, ⟨#[]⟩⟩).beg) ++ (blB (ps0.getD k ⟨0, 0, ⟨#[]⟩⟩).key ++ encEs (ps0.getD k ⟨0, 0, ⟨#[]⟩⟩).beg (ps0.drop (k + 1)))))) := fun y => by
          have hkl : k < ps0.length := by have := (HY4.out y).2.2.1; omega
          have := (HYk.out y).2.2.2
          rw [(drop_getE ps0 k ⟨0, 0, ⟨#[]⟩⟩ hkl).1, encEs, encE] at this
          simp only [List.append_assoc] at this
          exact this
        generalize ps0.getD k ⟨0, 0, ⟨#[]⟩⟩ = P at *
        generalize hDD : ps0.drop (k + 1) = D at *
        have HDD : Hid (ps0.drop (k + 1) = D) := hDD
        clear hDD
        have HN1 : Hid (∀ _ : Unit, _) := fun _ => numberU C s p false wr HSk.out.cu hps hsz
        go_wp2_with fail
        refine (HN1.out ()).mono ?_
        rintro e v1 ⟨hf, a1, q1, d1, rfl, hcu, la1, ua1, hq1, hx⟩
        have HE1 : Hid (Y → IntKind.u64.wrap (last + a1) = P.beg) := fun y => by
          obtain ⟨⟨m1, m2, m3, _⟩, h2⟩ := HYP.out y
          have e := (cu_stepD hx (by omega) (by omega) ⟨rfl, HY1.out y⟩).1
          rw [IntKind.wrap_u64]
          omega
        have HY2 : Hid (Y → d1 = false ∧ HasAt s q1 _) := fun y => (cu_stepD hx (by have := (HYP.out y).2; omega) (by obtain ⟨⟨m1, m2, m3, _⟩, h2⟩ := HYP.out y; omega) ⟨rfl, HY1.out y⟩).2
        have HL1 : Hid (0 ≤ IntKind.u64.wrap (last + a1) ∧ IntKind.u64.wrap (last + a1) ≤ 18446744073709551615) := by show _ ∧ _; rw [IntKind.wrap_u64]; omega
        have hS1 := HSk.out.read hf hcu
        have hb3 := hS1.b3
        have hb1 := hS1.b1
        have hba : Below v1.heap.size v1 (v1.alloc (.cells #[.int .u64 (IntKind.u64.wrap (last + a1)), .int .u64 0, .string ⟨#[]⟩] 46)) := (Below.refl _ _).alloc (Nat.le_refl _) _
        have HS1 : Hid (XdS w C g (g + 1) s x1 x2 v ps v1.heap.size (v1.alloc (.cells #[.int .u64 (IntKind.u64.wrap (last + a1)), .int .u64 0, .string ⟨#[]⟩] 46)) q1 d1 ⟨IntKind.u64.wrap (last + a1), 0, ⟨#[]⟩⟩) := ⟨hS1.later hba, heap_alloc_new v1 _, by omega, by omega, fun k hk => by have := (hS1.own.own k hk).2; omega⟩
        clear hf hcu hx hba hb3 hb1 hS1 HN1 HSk HYk HY1 hps cb
        go_wp2_with fail
        generalize hya : v1.alloc (.cells #[.int .u64 (IntKind.u64.wrap (last + a1)), .int .u64 0, .string ⟨#[]⟩] 46) = y1 at *
        generalize hgg : v1.heap.size = q at *
        generalize hgl : IntKind.u64.wrap (last + a1) = L1 at *
        clear hya hgg hgl
        have e1 : y1.cell? ⟨q, 0, none⟩ = some (.int .u64 L1) := HS1.out.x.cell 0
        have HN3 : Hid (∀ _ : Unit, _) := fun _ => numberU C s q1 d1 y1.drew HS1.out.drew.base.cu hq1 hsz
        (refine wp_region_held_drew (S := (fun W => W.cell? ⟨q, 0, none⟩ = some (.int .u64 L1))) (by kernel_rfl) e1 (fun hHeld => ?_); simp only [List.size_toArray, List.length_cons, List.length_nil, Nat.reduceAdd, Array.replicate_succ, Array.replicate_zero, List.push_toArray, List.append_toArray, List.nil_append, List.cons_append])
        (refine tk0 (v := ?_) (by kernel_rfl) (by kernel_rfl) (by kernel_rfl) (fun _ _ _ h => h) (Or.inl ⟨by rfl, ?_⟩) (by assumption) ?_; rotate_left; (focus (intro w hSw; (try dsimp only at hSw); go_simp; (try first | (rw [dif_pos (by omega)]; simp only [Result.andThen_ok]) | rw [if_pos (by omega)]); (try with_reducible rfl); done)); try simp only [Act.put, List.setIfInBounds_toArray, List.set_cons_zero, List.set_cons_succ])
        (refine tk1 (v := ?_) (by kernel_rfl) (by kernel_rfl) (by kernel_rfl) (fun _ _ _ h => h) (Or.inl ⟨by rfl, ?_⟩) (by assumption) ?_; rotate_left; (focus (intro w hSw; (try dsimp only at hSw); go_simp; (try first | (rw [dif_pos (by omega)]; simp only [Result.andThen_ok]) | rw [if_pos (by omega)]); (try with_reducible rfl); done)); try simp only [Act.put, List.setIfInBounds_toArray, List.set_cons_zero, List.set_cons_succ])
        (refine tk2 (v := ?_) (by kernel_rfl) (by kernel_rfl) (by kernel_rfl) (fun _ _ _ h => h) (Or.inl ⟨by rfl, ?_⟩) (by assumption) ?_; rotate_left; (focus (intro w hSw; (try dsimp only at hSw); go_simp; (try first | (rw [dif_pos (by omega)]; simp only [Result.andThen_ok]) | rw [if_pos (by omega)]); (try with_reducible rfl); done)); try simp only [Act.put, List.setIfInBounds_toArray, List.set_cons_zero, List.set_cons_succ])
        (refine wpAnyH_ready (rs := [3]) (by kernel_rfl) (by simp) ?_; refine ar3 (fun K hK => ?_) AllReadyH.nil; go_simp)
        refine (HN3.out ()).mono ?_
        rintro e v3 ⟨hf, a3, q3, d3, rfl, hcu, la3, ua3, hq3, hx⟩
        have HE3 : Hid (Y → IntKind.u64.wrap (L1 + a3) = P.fin) := fun y => by
          obtain ⟨⟨m1, m2, m3, _⟩, h2⟩ := HYP.out y
          have e := (cu_stepD hx (by omega) (by omega) (HY2.out y)).1
          have e2 := HE1.out y
          rw [IntKind.wrap_u64]
          omega
        have HY3 : Hid (Y → d3 = false ∧ HasAt s q3 _) := fun y => (cu_stepD hx (by obtain ⟨⟨m1, m2, m3, _⟩, h2⟩ := HYP.out y; omega) (by obtain ⟨⟨m1, m2, m3, _⟩, h2⟩ := HYP.out y; omega) (HY2.out y)).2
        have HL2 : Hid (0 ≤ IntKind.u64.wrap (L1 + a3) ∧ IntKind.u64.wrap (L1 + a3) ≤ 18446744073709551615) := by show _ ∧ _; rw [IntKind.wrap_u64]; omega
        have hS3 := HS1.out.drew.read hf hcu
        have e2 : v3.cell? ⟨q, 0, none⟩ = some (.int .u64 L1) := hS3.x.cell 0
        have c2 : v3.cell? ⟨q, 1, none⟩ = some (.int .u64 0) := hS3.x.cell 1
        have f2 := hS3.x.free 1
        have HS3 : Hid (XdS w C g (g + 1) s x1 x2 v ps q (v3.setCell ⟨q, 1, none⟩ (.int .u64 (IntKind.u64.wrap (L1 + a3)))) q3 d3 ⟨L1, IntKind.u64.wrap (L1 + a3), ⟨#[]⟩⟩) := hS3.put 1 _ (Er3.set1 hS3.x _)
        have e3 : (v3.setCell ⟨q, 1, none⟩ (.int .u64 (IntKind.u64.wrap (L1 + a3)))).cell? ⟨q, 0, none⟩ = some (.int .u64 L1) := HS3.out.x.cell 0
        clear hf hcu hx hS3 HN3 HS1 HY2 hq1
        go_wp2_with fail
        (refine hK.out _ _ e2 (fun hHeld => ?_); clear hK K; try simp only [Act.put, List.setIfInBounds_toArray, List.set_cons_zero, List.set_cons_succ])
        (refine tk4 (v := ?_) (by kernel_rfl) (by kernel_rfl) (by kernel_rfl) (fun _ _ _ h => h) (Or.inl ⟨by rfl, ?_⟩) (by assumption) ?_; rotate_left; (focus (intro w hSw; (try dsimp only at hSw); go_simp; (try first | (rw [dif_pos (by omega)]; simp only [Result.andThen_ok]) | rw [if_pos (by omega)]); (try with_reducible rfl); done)); try simp only [Act.put, List.setIfInBounds_toArray, List.set_cons_zero, List.set_cons_succ])
        (refine tk5 (v := ?_) (by kernel_rfl) (by kernel_rfl) (by kernel_rfl) (fun _ _ _ h => h) (Or.inl ⟨by rfl, ?_⟩) (by assumption) ?_; rotate_left; (focus (intro w hSw; (try dsimp only at hSw); go_simp; (try first | (rw [dif_pos (by omega)]; simp only [Result.andThen_ok]) | rw [if_pos (by omega)]); (try with_reducible rfl); done)); try simp only [Act.put, List.setIfInBounds_toArray, List.set_cons_zero, List.set_cons_succ])
        (refine wpAnyH_ready (rs := [6]) (by kernel_rfl) (by simp) ?_; refine ar6 (fun K hK => ?_) AllReadyH.nil; go_simp)
        (refine hK.out _ _ e3 (fun hHeld => ?_); clear hK K; try simp only [Act.put, List.setIfInBounds_toArray, List.set_cons_zero, List.set_cons_succ])
        refine wpAnyH_done (by kernel_rfl) ?_ _
        generalize hya : v3.setCell ⟨q, 1, none⟩ (.int .u64 (IntKind.u64.wrap (L1 + a3))) = y3 at *
        generalize hgg : IntKind.u64.wrap (L1 + a3) = L2 at *
        clear hya hgg c2 f2 e1 e2 e3 hHeld
        have HN4 : Hid (∀ _ : Unit, _) := fun _ => textU C s q3 d3 y3 HS3.out.base.cu hq3 hsz
        go_wp2_with fail
        refine (HN4.out ()).mono ?_
        rintro e v8 ⟨hf, a8, q8, d8, rfl, hcu, ua8, hq8, hx⟩
        have hst : Y → a8 = P.key ∧ d8 = false ∧ HasAt s q8 _ := fun y => cu_stepT hx (by obtain ⟨⟨m1, m2, m3, m4, m5⟩, h2⟩ := HYP.out y; omega) (HY3.out y)
        have HE8 : Hid (Y → a8 = P.key) := fun y => (hst y).1
        have HYs8 : Hid (Y → d8 = false ∧ HasAt s q8 _) := fun y => (hst y).2
        have hS8 := HS3.out.read hf hcu
        have c8 : v8.cell? ⟨q, 2, none⟩ = some (.string ⟨#[]⟩) := hS8.x.cell 2
        have f8 := hS8.x.free 2
        have k3 : v8.cell? ⟨g, 5, none⟩ = some v := hS8.base.hg.cell 5
        have hqg : q ≠ g := by have := hS8.q1; omega
        have hgv : g < v8.heap.size := hS8.base.hg.lt
        have r0 : v8.cell? ⟨q, 0, none⟩ = some (.int .u64 L1) := hS8.x.cell 0
        have r1 : v8.cell? ⟨q, 1, none⟩ = some (.int .u64 L2) := hS8.x.cell 1
        have HS8 : Hid (XdS w C g (g + 1) s x1 x2 v ps q (v8.setCell ⟨q, 2, none⟩ (.string a8)) q8 d8 ⟨L1, L2, a8⟩) := hS8.put 2 _ (Er3.set2 hS8.x _)
        clear hf hcu hx hst hS8 HN4 HS3 HY3 hq3
        have HXE : Hid (Y → (⟨L1, L2, a8⟩ : ER) = P) := fun y => by
          rw [HE1.out y, HE3.out y, HE8.out y]
        have HXW : Hid (ER.wf ⟨L1, L2, a8⟩) := ⟨HL1.out.1, HL1.out.2, HL2.out.1, HL2.out.2⟩
        clear HE1 HE3 HE8
        obtain ⟨ao, cap, rfl, -, -⟩ := HS8.out.base.own.slice
        have HLen : Hid ((ps.length + 1) * 32 ≤ 140737488355328) := by have := HLN.out; show _ ≤ _; omega
        go_wp2_with (at_builtin; refine hideG ?_)
        change wpList _ _ _ _ _ _
        refine app_er (by rfl) _ _ (by rfl) (g + 1) _ ps ⟨L1, L2, a8⟩ HS8.out.base.own (by rfl) v8.heap.size (by simp) (by rfl) HLen.out (by simp; omega) ?_
        intro v' w' ho' hb' hk'
        obtain ⟨a', n', c', rfl⟩ := ho'.isSlice
        have HS9 : Hid _ := HS8.out.base.app ho' hb'
        have k4 : w'.cell? ⟨g, 5, none⟩ = some (.slice ao ps.length cap) := (HS8.out.base.hg.later hb' (by omega)).cell 5
        have k5 := (HS8.out.base.hg.later hb' (by omega)).free 5
        have HYe : Hid (Y → ps ++ [⟨L1, L2, a8⟩] = ps0.take (k + 1) ∧ L1 = lastE ps0 (k + 1) ∧ d8 = false ∧ HasAt s q8 (encEs L1 (ps0.drop (k + 1)))) := fun y => by
          rw [HDD.out]
          have e := HXE.out y
          have e2 : L1 = P.beg := congrArg ER.beg e
          rw [e, e2]
          exact ⟨(HYn.out y).1, (HYn.out y).2, HYs8.out y⟩
        clear ho' hb' hk' HS8 k3 c8 f8
        go_wp2
        go_roundw
        case rel => exact ⟨k + 1, q8, d8, L1, _, ps ++ [⟨L1, L2, a8⟩], by omega, by go_num, rfl, HL1.out.1, HL1.out.2, hq8, by rw [List.length_append, HLN.out]; rfl, (fun y hy => by rcases List.mem_append.1 hy with h | h; exact HWF.out _ h; rw [List.mem_singleton.1 h]; exact HXW.out), HS9.out, HYe.out⟩
        case measure => simp [intOf]; omega
      · have HYF : Hid (Y → bad = false ∧ mayD x1 x2 ps ∧ sealM mgDl (encD x1 x2 ps) = b) := fun y => by
          obtain ⟨h1, _, h3, _⟩ := HYk.out y
          obtain ⟨e1, e2, e4, _⟩ := HY4.out y
          have hkn : ¬ k < n := fun h => hgo ⟨h, h3⟩
          have hps : ps = ps0 := by rw [h1, List.take_of_length_le (by omega)]
          rw [e1, e2, hps]
          exact ⟨h3, (HY0.out y).1, (HY.out y).seal⟩
        obtain ⟨ao, cap, rfl, -, -⟩ := HSk.out.own.slice
        clear HYk
        by_cases hlt : k < n
        · have hbt : bad = true := by
            cases bad
            · exact absurd ⟨hlt, rfl⟩ hgo
            · rfl
          subst hbt
          have HNY : Hid (¬ Y) := fun y => by have := (HYF.out y).1; cases this
          clear hgo HYF
          have c0 : wr.cell? ⟨g, 0, none⟩ = some (.int .i64 x1) := HSk.out.hg.cell 0
          have c1 : wr.cell? ⟨g, 1, none⟩ = some (.int .u64 0) := HSk.out.hg.cell 1
          have c2 : wr.cell? ⟨g, 2, none⟩ = some (.int .u64 0) := HSk.out.hg.cell 2
          have c3 : wr.cell? ⟨g, 3, none⟩ = some (.slice none 0 0) := HSk.out.hg.cell 3
          have c4 : wr.cell? ⟨g, 4, none⟩ = some (.int .i64 x2) := HSk.out.hg.cell 4
          have c5 : wr.cell? ⟨g, 5, none⟩ = some (.slice ao ps.length cap) := HSk.out.hg.cell 5
          have HEn : Hid (∀ _ : Unit, _) := fun _ => refEncD_any wr x1 x2 0 0 none ao 0 0 cap ps HSk.out.own.sees HWF.out
          go_wp2_with fail
          refine (HEn.out ()).mono ?_
          rintro e w6 ⟨hme, hmn, hb6⟩
          have HS6 : Hid (RdS w C g (g + 1) s x1 x2 w6 p true (.slice ao ps.length cap) ps) := HSk.out.later hb6
          clear hb6 HEn HSk c0 c1 c2 c3 c4 c5 cb
          have cb : w6.cell? ⟨C, 2, none⟩ = some (.bool true) := HS6.out.cu.cell 2
          have c0 : w6.cell? ⟨g, 0, none⟩ = some (.int .i64 x1) := HS6.out.hg.cell 0
          have c1 : w6.cell? ⟨g, 1, none⟩ = some (.int .u64 0) := HS6.out.hg.cell 1
          have c2 : w6.cell? ⟨g, 2, none⟩ = some (.int .u64 0) := HS6.out.hg.cell 2
          have c3 : w6.cell? ⟨g, 3, none⟩ = some (.slice none 0 0) := HS6.out.hg.cell 3
          have c4 : w6.cell? ⟨g, 4, none⟩ = some (.int .i64 x2) := HS6.out.hg.cell 4
          have c5 : w6.cell? ⟨g, 5, none⟩ = some (.slice ao ps.length cap) := HS6.out.hg.cell 5
          have z0 : w6.cell? ⟨w.heap.size, 0, none⟩ = some (.int .i64 0) := HS6.out.z.cell 0
          have z1 : w6.cell? ⟨w.heap.size, 1, none⟩ = some (.int .u64 0) := HS6.out.z.cell 1
          have z2 : w6.cell? ⟨w.heap.size, 2, none⟩ = some (.int .u64 0) := HS6.out.z.cell 2
          have z3 : w6.cell? ⟨w.heap.size, 3, none⟩ = some (.slice none 0 0) := HS6.out.z.cell 3
          have z4 : w6.cell? ⟨w.heap.size, 4, none⟩ = some (.int .i64 0) := HS6.out.z.cell 4
          have z5 : w6.cell? ⟨w.heap.size, 5, none⟩ = some (.slice none 0 0) := HS6.out.z.cell 5
          have o0 := HS6.out.z.free 0
          have o1 := HS6.out.z.free 1
          have o2 := HS6.out.z.free 2
          have o3 := HS6.out.z.free 3
          have o4 := HS6.out.z.free 4
          have o5 := HS6.out.z.free 5
          have hzg := HS6.out.r2
          have hzn : w.heap.size ≠ g := by omega
          by_cases hm : mayD x1 x2 ps
          · obtain rfl := hme hm
            clear hme hmn hm
            generalize sealM mgDl (encD x1 x2 ps) = sl at *
            go_wp2
            refine bodyPost_ret (ret_fp1 rfl _ _ _ _ _ _ _ _ w.heap.size (by rfl) (HS6.out.z.setAll _ _ _ _ _ _)) rfl ⟨?_, .inr ⟨HNY.out, ?_⟩⟩
            · exact (((((HS6.out.bel.setCell (p := ⟨w.heap.size, 0, none⟩) (Nat.le_refl _) _).setCell (p := ⟨w.heap.size, 1, none⟩) (Nat.le_refl _) _).setCell (p := ⟨w.heap.size, 2, none⟩) (Nat.le_refl _) _).setCell (p := ⟨w.heap.size, 3, none⟩) (Nat.le_refl _) _).setCell (p := ⟨w.heap.size, 4, none⟩) (Nat.le_refl _) _).setCell (p := ⟨w.heap.size, 5, none⟩) (Nat.le_refl _) _
            · show _ = Ending.returned (.tuple #[_, .int .i64 (if opE b mgDB = 0 then 125 else opE b mgDB)])
              rw [if_pos HOP.out]
              rfl
          · obtain rfl := hmn hm
            clear hme hmn hm
            go_wp2
            refine bodyPost_ret (ret_fp1 rfl _ _ _ _ _ _ _ _ w.heap.size (by rfl) (HS6.out.z.setAll _ _ _ _ _ _)) rfl ⟨?_, .inr ⟨HNY.out, ?_⟩⟩
            · exact (((((HS6.out.bel.setCell (p := ⟨w.heap.size, 0, none⟩) (Nat.le_refl _) _).setCell (p := ⟨w.heap.size, 1, none⟩) (Nat.le_refl _) _).setCell (p := ⟨w.heap.size, 2, none⟩) (Nat.le_refl _) _).setCell (p := ⟨w.heap.size, 3, none⟩) (Nat.le_refl _) _).setCell (p := ⟨w.heap.size, 4, none⟩) (Nat.le_refl _) _).setCell (p := ⟨w.heap.size, 5, none⟩) (Nat.le_refl _) _
            · show _ = Ending.returned (.tuple #[_, .int .i64 (if opE b mgDB = 0 then 125 else opE b mgDB)])
              rw [if_pos HOP.out]
              rfl
        · clear hgo
          cases bad
          · skip
            have c0 : wr.cell? ⟨g, 0, none⟩ = some (.int .i64 x1) := HSk.out.hg.cell 0
            have c1 : wr.cell? ⟨g, 1, none⟩ = some (.int .u64 0) := HSk.out.hg.cell 1
            have c2 : wr.cell? ⟨g, 2, none⟩ = some (.int .u64 0) := HSk.out.hg.cell 2
            have c3 : wr.cell? ⟨g, 3, none⟩ = some (.slice none 0 0) := HSk.out.hg.cell 3
            have c4 : wr.cell? ⟨g, 4, none⟩ = some (.int .i64 x2) := HSk.out.hg.cell 4
            have c5 : wr.cell? ⟨g, 5, none⟩ = some (.slice ao ps.length cap) := HSk.out.hg.cell 5
            have HEn : Hid (∀ _ : Unit, _) := fun _ => refEncD_any wr x1 x2 0 0 none ao 0 0 cap ps HSk.out.own.sees HWF.out
            go_wp2_with fail
            refine (HEn.out ()).mono ?_
            rintro e w6 ⟨hme, hmn, hb6⟩
            have HS6 : Hid (RdS w C g (g + 1) s x1 x2 w6 p false (.slice ao ps.length cap) ps) := HSk.out.later hb6
            clear hb6 HEn HSk c0 c1 c2 c3 c4 c5 cb
            have cb : w6.cell? ⟨C, 2, none⟩ = some (.bool false) := HS6.out.cu.cell 2
            have c0 : w6.cell? ⟨g, 0, none⟩ = some (.int .i64 x1) := HS6.out.hg.cell 0
            have c1 : w6.cell? ⟨g, 1, none⟩ = some (.int .u64 0) := HS6.out.hg.cell 1
            have c2 : w6.cell? ⟨g, 2, none⟩ = some (.int .u64 0) := HS6.out.hg.cell 2
            have c3 : w6.cell? ⟨g, 3, none⟩ = some (.slice none 0 0) := HS6.out.hg.cell 3
            have c4 : w6.cell? ⟨g, 4, none⟩ = some (.int .i64 x2) := HS6.out.hg.cell 4
            have c5 : w6.cell? ⟨g, 5, none⟩ = some (.slice ao ps.length cap) := HS6.out.hg.cell 5
            have z0 : w6.cell? ⟨w.heap.size, 0, none⟩ = some (.int .i64 0) := HS6.out.z.cell 0
            have z1 : w6.cell? ⟨w.heap.size, 1, none⟩ = some (.int .u64 0) := HS6.out.z.cell 1
            have z2 : w6.cell? ⟨w.heap.size, 2, none⟩ = some (.int .u64 0) := HS6.out.z.cell 2
            have z3 : w6.cell? ⟨w.heap.size, 3, none⟩ = some (.slice none 0 0) := HS6.out.z.cell 3
            have z4 : w6.cell? ⟨w.heap.size, 4, none⟩ = some (.int .i64 0) := HS6.out.z.cell 4
            have z5 : w6.cell? ⟨w.heap.size, 5, none⟩ = some (.slice none 0 0) := HS6.out.z.cell 5
            have o0 := HS6.out.z.free 0
            have o1 := HS6.out.z.free 1
            have o2 := HS6.out.z.free 2
            have o3 := HS6.out.z.free 3
            have o4 := HS6.out.z.free 4
            have o5 := HS6.out.z.free 5
            have hzg := HS6.out.r2
            have hzn : w.heap.size ≠ g := by omega
            by_cases hm : mayD x1 x2 ps
            · obtain rfl := hme hm
              have HMM : Hid (mayD x1 x2 ps) := hm
              clear hme hmn hm
              have hbq := bytes_beq (sealM mgDl (encD x1 x2 ps)) b
              by_cases hse : sealM mgDl (encD x1 x2 ps) = b
              · rw [decide_eq_true hse] at hbq
                have HYm : Hid (DoYes b x1 x2 ps) := DoYes.of HOP.out HMM.out HWF.out hse
                clear hse HYF
                generalize sealM mgDl (encD x1 x2 ps) = sl at *
                go_wp2
                refine bodyPost_ret (ret_fp1 rfl _ _ _ _ _ _ _ _ w.heap.size (by rfl) (HS6.out.z.setAll _ _ _ _ _ _)) rfl ⟨?_, .inl ⟨x1, x2, ps, _, HYm.out, rfl, ?_⟩⟩
                · exact (((((HS6.out.bel.setCell (p := ⟨w.heap.size, 0, none⟩) (Nat.le_refl _) _).setCell (p := ⟨w.heap.size, 1, none⟩) (Nat.le_refl _) _).setCell (p := ⟨w.heap.size, 2, none⟩) (Nat.le_refl _) _).setCell (p := ⟨w.heap.size, 3, none⟩) (Nat.le_refl _) _).setCell (p := ⟨w.heap.size, 4, none⟩) (Nat.le_refl _) _).setCell (p := ⟨w.heap.size, 5, none⟩) (Nat.le_refl _) _
                · refine (HS6.out.own.same fun k hk hB => ?_).mono (by omega)
                  have hne : k ≠ w.heap.size := by omega
                  exact (Below.heap_setCell _ _ _ k hne).trans ((Below.heap_setCell _ _ _ k hne).trans ((Below.heap_setCell _ _ _ k hne).trans ((Below.heap_setCell _ _ _ k hne).trans ((Below.heap_setCell _ _ _ k hne).trans (Below.heap_setCell _ _ _ k hne)))))
              · rw [decide_eq_false hse] at hbq
                have HNY : Hid (¬ Y) := fun y => hse (HYF.out y).2.2
                clear hse HYF
                generalize sealM mgDl (encD x1 x2 ps) = sl at *
                go_wp2
                refine bodyPost_ret (ret_fp1 rfl _ _ _ _ _ _ _ _ w.heap.size (by rfl) (HS6.out.z.setAll _ _ _ _ _ _)) rfl ⟨?_, .inr ⟨HNY.out, ?_⟩⟩
                · exact (((((HS6.out.bel.setCell (p := ⟨w.heap.size, 0, none⟩) (Nat.le_refl _) _).setCell (p := ⟨w.heap.size, 1, none⟩) (Nat.le_refl _) _).setCell (p := ⟨w.heap.size, 2, none⟩) (Nat.le_refl _) _).setCell (p := ⟨w.heap.size, 3, none⟩) (Nat.le_refl _) _).setCell (p := ⟨w.heap.size, 4, none⟩) (Nat.le_refl _) _).setCell (p := ⟨w.heap.size, 5, none⟩) (Nat.le_refl _) _
                · show _ = Ending.returned (.tuple #[_, .int .i64 (if opE b mgDB = 0 then 125 else opE b mgDB)])
                  rw [if_pos HOP.out]
                  rfl
            · have HNY : Hid (¬ Y) := fun y => hm (HYF.out y).2.1
              obtain rfl := hmn hm
              clear hme hmn hm HYF
              go_wp2
              refine bodyPost_ret (ret_fp1 rfl _ _ _ _ _ _ _ _ w.heap.size (by rfl) (HS6.out.z.setAll _ _ _ _ _ _)) rfl ⟨?_, .inr ⟨HNY.out, ?_⟩⟩
              · exact (((((HS6.out.bel.setCell (p := ⟨w.heap.size, 0, none⟩) (Nat.le_refl _) _).setCell (p := ⟨w.heap.size, 1, none⟩) (Nat.le_refl _) _).setCell (p := ⟨w.heap.size, 2, none⟩) (Nat.le_refl _) _).setCell (p := ⟨w.heap.size, 3, none⟩) (Nat.le_refl _) _).setCell (p := ⟨w.heap.size, 4, none⟩) (Nat.le_refl _) _).setCell (p := ⟨w.heap.size, 5, none⟩) (Nat.le_refl _) _
              · show _ = Ending.returned (.tuple #[_, .int .i64 (if opE b mgDB = 0 then 125 else opE b mgDB)])
                rw [if_pos HOP.out]
                rfl
          · have HNY : Hid (¬ Y) := fun y => by have := (HYF.out y).1; cases this
            clear HYF
            have c0 : wr.cell? ⟨g, 0, none⟩ = some (.int .i64 x1) := HSk.out.hg.cell 0
            have c1 : wr.cell? ⟨g, 1, none⟩ = some (.int .u64 0) := HSk.out.hg.cell 1
            have c2 : wr.cell? ⟨g, 2, none⟩ = some (.int .u64 0) := HSk.out.hg.cell 2
            have c3 : wr.cell? ⟨g, 3, none⟩ = some (.slice none 0 0) := HSk.out.hg.cell 3
            have c4 : wr.cell? ⟨g, 4, none⟩ = some (.int .i64 x2) := HSk.out.hg.cell 4
            have c5 : wr.cell? ⟨g, 5, none⟩ = some (.slice ao ps.length cap) := HSk.out.hg.cell 5
            have HEn : Hid (∀ _ : Unit, _) := fun _ => refEncD_any wr x1 x2 0 0 none ao 0 0 cap ps HSk.out.own.sees HWF.out
            go_wp2_with fail
            refine (HEn.out ()).mono ?_
            rintro e w6 ⟨hme, hmn, hb6⟩
            have HS6 : Hid (RdS w C g (g + 1) s x1 x2 w6 p true (.slice ao ps.length cap) ps) := HSk.out.later hb6
            clear hb6 HEn HSk c0 c1 c2 c3 c4 c5 cb
            have cb : w6.cell? ⟨C, 2, none⟩ = some (.bool true) := HS6.out.cu.cell 2
            have c0 : w6.cell? ⟨g, 0, none⟩ = some (.int .i64 x1) := HS6.out.hg.cell 0
            have c1 : w6.cell? ⟨g, 1, none⟩ = some (.int .u64 0) := HS6.out.hg.cell 1
            have c2 : w6.cell? ⟨g, 2, none⟩ = some (.int .u64 0) := HS6.out.hg.cell 2
            have c3 : w6.cell? ⟨g, 3, none⟩ = some (.slice none 0 0) := HS6.out.hg.cell 3
            have c4 : w6.cell? ⟨g, 4, none⟩ = some (.int .i64 x2) := HS6.out.hg.cell 4
            have c5 : w6.cell? ⟨g, 5, none⟩ = some (.slice ao ps.length cap) := HS6.out.hg.cell 5
            have z0 : w6.cell? ⟨w.heap.size, 0, none⟩ = some (.int .i64 0) := HS6.out.z.cell 0
            have z1 : w6.cell? ⟨w.heap.size, 1, none⟩ = some (.int .u64 0) := HS6.out.z.cell 1
            have z2 : w6.cell? ⟨w.heap.size, 2, none⟩ = some (.int .u64 0) := HS6.out.z.cell 2
            have z3 : w6.cell? ⟨w.heap.size, 3, none⟩ = some (.slice none 0 0) := HS6.out.z.cell 3
            have z4 : w6.cell? ⟨w.heap.size, 4, none⟩ = some (.int .i64 0) := HS6.out.z.cell 4
            have z5 : w6.cell? ⟨w.heap.size, 5, none⟩ = some (.slice none 0 0) := HS6.out.z.cell 5
            have o0 := HS6.out.z.free 0
            have o1 := HS6.out.z.free 1
            have o2 := HS6.out.z.free 2
            have o3 := HS6.out.z.free 3
            have o4 := HS6.out.z.free 4
            have o5 := HS6.out.z.free 5
            have hzg := HS6.out.r2
            have hzn : w.heap.size ≠ g := by omega
            by_cases hm : mayD x1 x2 ps
            · obtain rfl := hme hm
              clear hme hmn hm
              generalize sealM mgDl (encD x1 x2 ps) = sl at *
              go_wp2
              refine bodyPost_ret (ret_fp1 rfl _ _ _ _ _ _ _ _ w.heap.size (by rfl) (HS6.out.z.setAll _ _ _ _ _ _)) rfl ⟨?_, .inr ⟨HNY.out, ?_⟩⟩
              · exact (((((HS6.out.bel.setCell (p := ⟨w.heap.size, 0, none⟩) (Nat.le_refl _) _).setCell (p := ⟨w.heap.size, 1, none⟩) (Nat.le_refl _) _).setCell (p := ⟨w.heap.size, 2, none⟩) (Nat.le_refl _) _).setCell (p := ⟨w.heap.size, 3, none⟩) (Nat.le_refl _) _).setCell (p := ⟨w.heap.size, 4, none⟩) (Nat.le_refl _) _).setCell (p := ⟨w.heap.size, 5, none⟩) (Nat.le_refl _) _
              · show _ = Ending.returned (.tuple #[_, .int .i64 (if opE b mgDB = 0 then 125 else opE b mgDB)])
                rw [if_pos HOP.out]
                rfl
            · obtain rfl := hmn hm
              clear hme hmn hm
              go_wp2
              refine bodyPost_ret (ret_fp1 rfl _ _ _ _ _ _ _ _ w.heap.size (by rfl) (HS6.out.z.setAll _ _ _ _ _ _)) rfl ⟨?_, .inr ⟨HNY.out, ?_⟩⟩
              · exact (((((HS6.out.bel.setCell (p := ⟨w.heap.size, 0, none⟩) (Nat.le_refl _) _).setCell (p := ⟨w.heap.size, 1, none⟩) (Nat.le_refl _) _).setCell (p := ⟨w.heap.size, 2, none⟩) (Nat.le_refl _) _).setCell (p := ⟨w.heap.size, 3, none⟩) (Nat.le_refl _) _).setCell (p := ⟨w.heap.size, 4, none⟩) (Nat.le_refl _) _).setCell (p := ⟨w.heap.size, 5, none⟩) (Nat.le_refl _) _
              · show _ = Ending.returned (.tuple #[_, .int .i64 (if opE b mgDB = 0 then 125 else opE b mgDB)])
                rw [if_pos HOP.out]
                rfl
end Go.Proofs.YtgopplgknplkiaaGreatDoor
