import Derived.Test.YtbfjnidpjmhfiaaGreatDoorTe2
namespace Go.Proofs.YtbfjnidpjmhfiaaGreatDoor
open Go.ChangeShapes Go.WideShapes Go.ChangeAt Go.RowKit
set_option linter.unusedVariables false
set_option maxRecDepth 100000
set_option maxHeartbeats 51200000 in
theorem tells_TeC (w : World) (id lo hi gen mg mn mu : Int) (da ao ma : Option Addr) (dc cap mc : Nat) (ds : List DT) (es : List ER) (ps : List PN) (n x : Nat) (hlo0 : 0 ≤ lo) (hmu0 : 0 ≤ mu)
    (hd : SeesT w w.heap.size da ds) (hdc : da = none → ds = [] ∧ dc = 0) (hda : ∀ ad, da = some ad → ds ≠ [] → ∃ b off, ad = ⟨b, off, none⟩) (hdl : ds.length * 40 ≤ 140737488355328) (hwd : ∀ p ∈ ds, p.wf)
    (he : SeesE w w.heap.size ao es) (hcap : ao = none → es = [] ∧ cap = 0) (hao : ∀ ad, ao = some ad → es ≠ [] → ∃ b off, ad = ⟨b, off, none⟩) (hl : es.length * 32 ≤ 140737488355328) (hwe : ∀ p ∈ es, p.wf)
    (hp : SeesP w w.heap.size ma ps) (hmc : ma = none → ps = [] ∧ mc = 0) (hma : ∀ ad, ma = some ad → ps ≠ [] → ∃ b off, ad = ⟨b, off, none⟩) (hpl : ps.length * 56 ≤ 140737488355328) (hwp : ∀ p ∈ ps, p.wf)
    (hn : n ≤ 18446744073709551615) (hx : x < 256) (hxz : x = 0)  (hT0 : HalfAt w) :
    Calls Tryz.prog 5 #[.agg #[.int .i64 id, .int .u64 lo, .int .u64 hi, .slice da ds.length dc, .int .i64 gen, .slice ao es.length cap], .agg #[.int .i64 mg, .int .i64 mn, .int .u64 mu, .slice ma ps.length mc], .int .u64 (n : Int), .int .u8 (x : Int), .bool false] w fun e w' => e = .returned (.bool true) ∧ Below w.heap.size w w' := by
  have HT : Hid (HalfAt w) := hT0
  have HWd : Hid (∀ p ∈ ds, p.wf) := hwd
  have HWe : Hid (∀ p ∈ es, p.wf) := hwe
  have HWp : Hid (∀ p ∈ ps, p.wf) := hwp
  have HTw : Hid (∀ W, TlS w id lo hi gen mg mn mu da ao ma dc cap mc ds es ps W → Calls Tryz.prog 6 #[.agg #[.int .i64 id, .int .u64 lo, .int .u64 hi, .slice da ds.length dc, .int .i64 gen, .slice ao es.length cap]] W (TwD W id lo hi gen ds es)) := fun W h => twin_any W id lo hi gen da ao dc cap ds es (hd.more h.bel) hdc hda hdl (he.more h.bel) hcap hao hl
  have HTm : Hid (∀ W, TlS w id lo hi gen mg mn mu da ao ma dc cap mc ds es ps W → Calls Tryz.prog 21 #[.agg #[.int .i64 mg, .int .i64 mn, .int .u64 mu, .slice ma ps.length mc]] W (TwM W mg mn mu ps)) := fun W h => twinM_any W mg mn mu ma mc ps (hp.moreT h.bel) hmc hma hpl
  have HTq1 : Hid (∀ W a c B, ownT W B (.slice a ds.length c) ds → Calls Tryz.prog 6 #[.agg #[.int .i64 id, .int .u64 lo, .int .u64 hi, .slice a ds.length c, .int .i64 0, .slice none 0 0]] W (TwD W id lo hi 0 ds [])) := fun W a c B h => by
    obtain ⟨a1, q1, e1, hn1, hs1⟩ := h.slice
    injection e1 with i1 i2 i3
    subst i1 i3
    exact twin_any W id lo hi 0 a none c 0 ds [] h.sees hn1 (fun ad e _ => by obtain ⟨b', e5, _⟩ := hs1 ad e; exact ⟨b', 0, e5⟩) hdl (fun i hi => absurd hi (by simp)) (fun _ => ⟨rfl, rfl⟩) (fun ad e => by cases e) (by simp)
  have HTq2 : Hid (∀ W a c B, ownE W B (.slice a es.length c) es → Calls Tryz.prog 6 #[.agg #[.int .i64 id, .int .u64 0, .int .u64 0, .slice none 0 0, .int .i64 gen, .slice a es.length c]] W (TwD W id 0 0 gen [] es)) := fun W a c B h => by
    obtain ⟨a1, q1, e1, hn1, hs1⟩ := h.slice
    injection e1 with i1 i2 i3
    subst i1 i3
    exact twin_any W id 0 0 gen none a 0 c [] es (fun i hi => absurd hi (by simp)) (fun _ => ⟨rfl, rfl⟩) (fun ad e => by cases e) (by simp) h.sees hn1 (fun ad e _ => by obtain ⟨b', e5, _⟩ := hs1 ad e; exact ⟨b', 0, e5⟩) hl
  have HSm1 : Hid (∀ W a c, SeesT W W.heap.size a ds → Below w.heap.size w W → Calls Tryz.prog 15 #[.slice a ds.length c, .slice da ds.length dc] W fun e w' => e = .returned (.bool true) ∧ Below W.heap.size W w') := fun W a c h hb => sameData_eq W a da c dc ds h (hd.more hb) (by omega)
  have HSm2 : Hid (∀ W a c, SeesE W W.heap.size a es → Below w.heap.size w W → Calls Tryz.prog 19 #[.slice a es.length c, .slice ao es.length cap] W fun e w' => e = .returned (.bool true) ∧ Below W.heap.size W w') := fun W a c h hb => sameGone_eq W a ao c cap es h (he.more hb) (by omega)
  have HSm3 : Hid (∀ W a c, SeesP W W.heap.size a ps → Below w.heap.size w W → Calls Tryz.prog 23 #[.agg #[.int .i64 mg, .int .i64 mn, .int .u64 mu, .slice a ps.length c], .agg #[.int .i64 mg, .int .i64 mn, .int .u64 mu, .slice ma ps.length mc]] W fun e w' => e = .returned (.bool true) ∧ Below W.heap.size W w') := fun W a c h hb => sameM_eq W mg mn mu a ma c mc ps h (hp.moreT hb) (by omega)
  have HS0 : Hid (TlS w id lo hi gen mg mn mu da ao ma dc cap mc ds es ps ((w.alloc (.cells #[.int .i64 id, .int .u64 lo, .int .u64 hi, .slice da ds.length dc, .int .i64 gen, .slice ao es.length cap] 26)).alloc (.cells #[.int .i64 mg, .int .i64 mn, .int .u64 mu, .slice ma ps.length mc] 29))) := by
    refine ⟨((Below.refl _ _).alloc (Nat.le_refl _) _).alloc (by simp) _, (Below.heap_alloc _ _ _ (by simp)).trans (heap_alloc_new w _), ?_⟩
    have := heap_alloc_new (w.alloc (.cells #[.int .i64 id, .int .u64 lo, .int .u64 hi, .slice da ds.length dc, .int .i64 gen, .slice ao es.length cap] 26)) (.cells #[.int .i64 mg, .int .i64 mn, .int .u64 mu, .slice ma ps.length mc] 29)
    rw [show (w.alloc (.cells #[.int .i64 id, .int .u64 lo, .int .u64 hi, .slice da ds.length dc, .int .i64 gen, .slice ao es.length cap] 26)).heap.size = w.heap.size + 1 from by simp] at this
    exact this
  clear hT0 hd hdc hda he hcap hao hp hmc hma hwd hwe hwp
  subst hxz
  go_enter Tryz.func5, Tryz.ntmps5
  have hstart : True := trivial
  go_wp2_with fail
  generalize (w.alloc (.cells #[.int .i64 id, .int .u64 lo, .int .u64 hi, .slice da ds.length dc, .int .i64 gen, .slice ao es.length cap] 26)).alloc (.cells #[.int .i64 mg, .int .i64 mn, .int .u64 mu, .slice ma ps.length mc] 29) = W0 at *
  by_cases hD : mayA id lo hi ds
  · obtain ⟨S1, hS1, hlo1, hhi1, hdc1, hdt1⟩ := data_back id lo hi ds hlo0 hD HWd.out
    have HEn1 : Hid (∀ W g a c a' n' c', SeesT W W.heap.size a ds → Below w.heap.size w W → Calls Tryz.prog 7 #[.agg #[.int .i64 id, .int .u64 lo, .int .u64 hi, .slice a ds.length c, .int .i64 g, .slice a' n' c']] W fun e w' => e = .returned (.tuple #[.string S1, .int .i64 0]) ∧ Below W.heap.size W w') := fun W g a c a' n' c' h hb => (encData_any W id g lo hi a a' n' c c' ds hlo0 h HWd.out (HT.out.later hb)).mono fun e w' ⟨h1, h2, h3⟩ => ⟨by rw [hS1]; exact h1 hD, h3⟩
    have HDc1 : Hid _ := hdc1
    have HDt1 : Hid _ := hdt1
    have HFl1 : Hid (∀ W, _) := fun W => flipped_any W S1 n 0 (by omega) (by omega) hn (by omega)
    have hnl1 : ¬ S1.toList = [] := toList_ne hlo1
    have hni1 : S1.toList.isEmpty = false := List.isEmpty_eq_false_iff.2 hnl1
    have hbs1 := bytes_beq S1 S1
    rw [decide_eq_true rfl] at hbs1
    clear hdc1 hdt1 hlo1 hhi1 hS1
    refine (HTw.out W0 HS0.out).mono ?_
    rintro e wt1 ⟨hb4, v2, u3, rfl, hv5, hu6⟩
    obtain ⟨a7, c8, rfl, -, -⟩ := hv5.slice
    obtain ⟨b9, d10, rfl, -, -⟩ := hu6.slice
    have HS11 : Hid (TlS w id lo hi gen mg mn mu da ao ma dc cap mc ds es ps wt1) := HS0.out.later hb4
    have HO12 : Hid (SeesT wt1 wt1.heap.size a7 ds) := hv5.sees
    clear hb4 hv5 hu6 HS0
    go_wp2_with fail
    refine (HEn1.out wt1 gen a7 c8 b9 es.length d10 HO12.out HS11.out.bel).mono ?_
    rintro e we13 ⟨rfl, hb14⟩
    have HS15 : Hid (TlS w id lo hi gen mg mn mu da ao ma dc cap mc ds es ps we13) := HS11.out.later hb14
    clear hb14 HS11 HO12
    go_wp2_with fail
    refine (num_any 0 we13 (by omega) (by omega)).mono ?_
    rintro e wn16 ⟨rfl, rfl⟩
    go_wp2_with fail
    refine (HDc1.out wn16 (HT.out.later HS15.out.bel)).mono ?_
    rintro e wd17 ⟨hb18, v19, rfl, ho20⟩
    obtain ⟨a21, c22, rfl, -, -⟩ := ho20.slice
    have hal26 : Below wd17.heap.size wd17 (wd17.alloc (.cells #[.int .i64 id, .int .u64 lo, .int .u64 hi, .slice a21 ds.length c22, .int .i64 0, .slice none 0 0] 26)) := (Below.refl _ _).alloc (Nat.le_refl _) _
    have HQ23 : Hid (Fp6 (wd17.alloc (.cells #[.int .i64 id, .int .u64 lo, .int .u64 hi, .slice a21 ds.length c22, .int .i64 0, .slice none 0 0] 26)) wd17.heap.size (.int .i64 id) (.int .u64 lo) (.int .u64 hi) (.slice a21 ds.length c22) (.int .i64 0) (.slice none 0 0)) := heap_alloc_new wd17 _
    have HO24 : Hid (ownT (wd17.alloc (.cells #[.int .i64 id, .int .u64 lo, .int .u64 hi, .slice a21 ds.length c22, .int .i64 0, .slice none 0 0] 26)) wn16.heap.size (.slice a21 ds.length c22) ds) := ho20.later hal26
    have HS25 : Hid (TlS w id lo hi gen mg mn mu da ao ma dc cap mc ds es ps (wd17.alloc (.cells #[.int .i64 id, .int .u64 lo, .int .u64 hi, .slice a21 ds.length c22, .int .i64 0, .slice none 0 0] 26))) := (HS15.out.later hb18).later hal26
    clear hb18 ho20 hal26 HS15
    go_wp2_with fail
    generalize hyy : wd17.alloc (.cells #[.int .i64 id, .int .u64 lo, .int .u64 hi, .slice a21 ds.length c22, .int .i64 0, .slice none 0 0] 26) = y27 at *
    generalize hqq : wd17.heap.size = Q28 at *
    clear hyy hqq
    refine (HTq1.out y27 a21 c22 wn16.heap.size HO24.out).mono ?_
    rintro e wt29 ⟨hb30, v31, u32, rfl, hv33, hu34⟩
    obtain ⟨a35, c36, rfl, -, -⟩ := hv33.slice
    obtain ⟨b37, d38, rfl, -, -⟩ := hu34.slice
    have HS39 : Hid (TlS w id lo hi gen mg mn mu da ao ma dc cap mc ds es ps wt29) := HS25.out.later hb30
    have HQ40 : Hid (Fp6 wt29 Q28 (.int .i64 id) (.int .u64 lo) (.int .u64 hi) (.slice a21 ds.length c22) (.int .i64 0) (.slice none 0 0)) := HQ23.out.later hb30 HQ23.out.lt
    have HO41 : Hid (ownT wt29 wn16.heap.size (.slice a21 ds.length c22) ds) := HO24.out.later hb30
    have HX42 : Hid (SeesT wt29 wt29.heap.size a35 ds) := hv33.sees
    clear hb30 hv33 hu34 HQ23 HO24 HS25
    go_wp2_with fail
    refine (HEn1.out wt29 0 a35 c36 b37 0 d38 HX42.out HS39.out.bel).mono ?_
    rintro e we43 ⟨rfl, hb44⟩
    have HS45 : Hid (TlS w id lo hi gen mg mn mu da ao ma dc cap mc ds es ps we43) := HS39.out.later hb44
    have HQ46 : Hid (Fp6 we43 Q28 (.int .i64 id) (.int .u64 lo) (.int .u64 hi) (.slice a21 ds.length c22) (.int .i64 0) (.slice none 0 0)) := HQ40.out.later hb44 HQ40.out.lt
    have HO47 : Hid (ownT we43 wn16.heap.size (.slice a21 ds.length c22) ds) := HO41.out.later hb44
    clear hb44 HQ40 HO41 HS39 HX42
    go_wp2_with fail
    refine (num_any 0 we43 (by omega) (by omega)).mono ?_
    rintro e wn48 ⟨rfl, rfl⟩
    go_wp2_with fail
    refine (num_any 0 wn48 (by omega) (by omega)).mono ?_
    rintro e wn49 ⟨rfl, rfl⟩
    have x0 : wn49.cell? ⟨w.heap.size, 0, none⟩ = some (.int .i64 id) := HS45.out.p.cell 0
    have x1 : wn49.cell? ⟨w.heap.size, 1, none⟩ = some (.int .u64 lo) := HS45.out.p.cell 1
    have x2 : wn49.cell? ⟨w.heap.size, 2, none⟩ = some (.int .u64 hi) := HS45.out.p.cell 2
    have x3 : wn49.cell? ⟨w.heap.size, 3, none⟩ = some (.slice da ds.length dc) := HS45.out.p.cell 3
    have x4 : wn49.cell? ⟨w.heap.size, 4, none⟩ = some (.int .i64 gen) := HS45.out.p.cell 4
    have x5 : wn49.cell? ⟨w.heap.size, 5, none⟩ = some (.slice ao es.length cap) := HS45.out.p.cell 5
    have k0 : wn49.cell? ⟨Q28, 0, none⟩ = some (.int .i64 id) := HQ46.out.cell 0
    have k1 : wn49.cell? ⟨Q28, 1, none⟩ = some (.int .u64 lo) := HQ46.out.cell 1
    have k2 : wn49.cell? ⟨Q28, 2, none⟩ = some (.int .u64 hi) := HQ46.out.cell 2
    have k3 : wn49.cell? ⟨Q28, 3, none⟩ = some (.slice a21 ds.length c22) := HQ46.out.cell 3
    have k4 : wn49.cell? ⟨Q28, 4, none⟩ = some (.int .i64 0) := HQ46.out.cell 4
    have k5 : wn49.cell? ⟨Q28, 5, none⟩ = some (.slice none 0 0) := HQ46.out.cell 5
    go_wp2_with fail
    refine (HSm1.out wn49 a21 c22 HO47.out.sees HS45.out.bel).mono ?_
    rintro e ws50 ⟨rfl, hb51⟩
    have HS52 : Hid (TlS w id lo hi gen mg mn mu da ao ma dc cap mc ds es ps ws50) := HS45.out.later hb51
    have HQ53 : Hid (Fp6 ws50 Q28 (.int .i64 id) (.int .u64 lo) (.int .u64 hi) (.slice a21 ds.length c22) (.int .i64 0) (.slice none 0 0)) := HQ46.out.later hb51 HQ46.out.lt
    clear hb51 HS45 HQ46 HO47
    clear x0 x1 x2 x3 x4 x5
    clear k0 k1 k2 k3 k4 k5
    have k0 : ws50.cell? ⟨Q28, 0, none⟩ = some (.int .i64 id) := HQ53.out.cell 0
    have k1 : ws50.cell? ⟨Q28, 1, none⟩ = some (.int .u64 lo) := HQ53.out.cell 1
    have k2 : ws50.cell? ⟨Q28, 2, none⟩ = some (.int .u64 hi) := HQ53.out.cell 2
    have k3 : ws50.cell? ⟨Q28, 3, none⟩ = some (.slice a21 ds.length c22) := HQ53.out.cell 3
    have k4 : ws50.cell? ⟨Q28, 4, none⟩ = some (.int .i64 0) := HQ53.out.cell 4
    have k5 : ws50.cell? ⟨Q28, 5, none⟩ = some (.slice none 0 0) := HQ53.out.cell 5
    go_wp2_with fail
    refine (HFl1.out ws50).mono ?_
    rintro e wf54 ⟨⟨T55, rfl, hz56, ht57⟩, hb58⟩
    have HS59 : Hid (TlS w id lo hi gen mg mn mu da ao ma dc cap mc ds es ps wf54) := HS52.out.later hb58
    have HTzT55 : Hid _ := hz56
    have HTtT55 : Hid _ := ht57
    clear hb58 HS52 HQ53 hz56 ht57
    clear k0 k1 k2 k3 k4 k5
    go_wp2_with fail
    refine (HDt1.out T55 HTzT55.out wf54 (HT.out.later HS59.out.bel)).mono ?_
    rintro e wg60 ⟨hb61, q62, cc63, rfl, la64, ua65, ta66⟩
    have HS67 : Hid (TlS w id lo hi gen mg mn mu da ao ma dc cap mc ds es ps wg60) := HS59.out.later hb61
    clear hb61 HS59 ta66 HTzT55 HTtT55
    by_cases hE : mayD id gen es
    · obtain ⟨S2, hS2, hlo2, hhi2, hdc2, hdt2⟩ := delta_back id gen es hE HWe.out
      have HEn2 : Hid (∀ W l t a n' c a' c', SeesE W W.heap.size a' es → Below w.heap.size w W → Calls Tryz.prog 17 #[.agg #[.int .i64 id, .int .u64 l, .int .u64 t, .slice a n' c, .int .i64 gen, .slice a' es.length c']] W fun e w' => e = .returned (.tuple #[.string S2, .int .i64 0]) ∧ Below W.heap.size W w') := fun W l t a n' c a' c' h hb => (encDelta_any W id gen l t a a' n' c c' es h HWe.out (HT.out.later hb)).mono fun e w' ⟨h1, h2, h3⟩ => ⟨by rw [hS2]; exact h1 hE, h3⟩
      have HDc2 : Hid _ := hdc2
      have HDt2 : Hid _ := hdt2
      have HFl2 : Hid (∀ W, _) := fun W => flipped_any W S2 n 0 (by omega) (by omega) hn (by omega)
      have hnl2 : ¬ S2.toList = [] := toList_ne hlo2
      have hni2 : S2.toList.isEmpty = false := List.isEmpty_eq_false_iff.2 hnl2
      have hbs2 := bytes_beq S2 S2
      rw [decide_eq_true rfl] at hbs2
      clear hdc2 hdt2 hlo2 hhi2 hS2
      have x0 : wg60.cell? ⟨w.heap.size, 0, none⟩ = some (.int .i64 id) := HS67.out.p.cell 0
      have x1 : wg60.cell? ⟨w.heap.size, 1, none⟩ = some (.int .u64 lo) := HS67.out.p.cell 1
      have x2 : wg60.cell? ⟨w.heap.size, 2, none⟩ = some (.int .u64 hi) := HS67.out.p.cell 2
      have x3 : wg60.cell? ⟨w.heap.size, 3, none⟩ = some (.slice da ds.length dc) := HS67.out.p.cell 3
      have x4 : wg60.cell? ⟨w.heap.size, 4, none⟩ = some (.int .i64 gen) := HS67.out.p.cell 4
      have x5 : wg60.cell? ⟨w.heap.size, 5, none⟩ = some (.slice ao es.length cap) := HS67.out.p.cell 5
      go_wp2_with fail
      refine (HTw.out wg60 HS67.out).mono ?_
      rintro e wt68 ⟨hb71, v69, u70, rfl, hv72, hu73⟩
      obtain ⟨a74, c75, rfl, -, -⟩ := hv72.slice
      obtain ⟨b76, d77, rfl, -, -⟩ := hu73.slice
      have HS78 : Hid (TlS w id lo hi gen mg mn mu da ao ma dc cap mc ds es ps wt68) := HS67.out.later hb71
      have HO79 : Hid (SeesE wt68 wt68.heap.size b76 es) := hu73.sees
      clear hb71 hv72 hu73 HS67
      clear x0 x1 x2 x3 x4 x5
      go_wp2_with fail
      refine (HEn2.out wt68 lo hi a74 ds.length c75 b76 d77 HO79.out HS78.out.bel).mono ?_
      rintro e we80 ⟨rfl, hb81⟩
      have HS82 : Hid (TlS w id lo hi gen mg mn mu da ao ma dc cap mc ds es ps we80) := HS78.out.later hb81
      clear hb81 HS78 HO79
      go_wp2_with fail
      refine (num_any 0 we80 (by omega) (by omega)).mono ?_
      rintro e wn83 ⟨rfl, rfl⟩
      go_wp2_with fail
      refine (HDc2.out wn83 (HT.out.later HS82.out.bel)).mono ?_
      rintro e wd84 ⟨hb85, v86, rfl, ho87⟩
      obtain ⟨a88, c89, rfl, -, -⟩ := ho87.slice
      have hal93 : Below wd84.heap.size wd84 (wd84.alloc (.cells #[.int .i64 id, .int .u64 0, .int .u64 0, .slice none 0 0, .int .i64 gen, .slice a88 es.length c89] 26)) := (Below.refl _ _).alloc (Nat.le_refl _) _
      have HQ90 : Hid (Fp6 (wd84.alloc (.cells #[.int .i64 id, .int .u64 0, .int .u64 0, .slice none 0 0, .int .i64 gen, .slice a88 es.length c89] 26)) wd84.heap.size (.int .i64 id) (.int .u64 0) (.int .u64 0) (.slice none 0 0) (.int .i64 gen) (.slice a88 es.length c89)) := heap_alloc_new wd84 _
      have HO91 : Hid (ownE (wd84.alloc (.cells #[.int .i64 id, .int .u64 0, .int .u64 0, .slice none 0 0, .int .i64 gen, .slice a88 es.length c89] 26)) wn83.heap.size (.slice a88 es.length c89) es) := ho87.later hal93
      have HS92 : Hid (TlS w id lo hi gen mg mn mu da ao ma dc cap mc ds es ps (wd84.alloc (.cells #[.int .i64 id, .int .u64 0, .int .u64 0, .slice none 0 0, .int .i64 gen, .slice a88 es.length c89] 26))) := (HS82.out.later hb85).later hal93
      clear hb85 ho87 hal93 HS82
      go_wp2_with fail
      generalize hyy : wd84.alloc (.cells #[.int .i64 id, .int .u64 0, .int .u64 0, .slice none 0 0, .int .i64 gen, .slice a88 es.length c89] 26) = y94 at *
      generalize hqq : wd84.heap.size = Q95 at *
      clear hyy hqq
      refine (HTq2.out y94 a88 c89 wn83.heap.size HO91.out).mono ?_
      rintro e wt96 ⟨hb97, v98, u99, rfl, hv100, hu101⟩
      obtain ⟨a102, c103, rfl, -, -⟩ := hv100.slice
      obtain ⟨b104, d105, rfl, -, -⟩ := hu101.slice
      have HS106 : Hid (TlS w id lo hi gen mg mn mu da ao ma dc cap mc ds es ps wt96) := HS92.out.later hb97
      have HQ107 : Hid (Fp6 wt96 Q95 (.int .i64 id) (.int .u64 0) (.int .u64 0) (.slice none 0 0) (.int .i64 gen) (.slice a88 es.length c89)) := HQ90.out.later hb97 HQ90.out.lt
      have HO108 : Hid (ownE wt96 wn83.heap.size (.slice a88 es.length c89) es) := HO91.out.later hb97
      have HX109 : Hid (SeesE wt96 wt96.heap.size b104 es) := hu101.sees
      clear hb97 hv100 hu101 HQ90 HO91 HS92
      go_wp2_with fail
      refine (HEn2.out wt96 0 0 a102 0 c103 b104 d105 HX109.out HS106.out.bel).mono ?_
      rintro e we110 ⟨rfl, hb111⟩
      have HS112 : Hid (TlS w id lo hi gen mg mn mu da ao ma dc cap mc ds es ps we110) := HS106.out.later hb111
      have HQ113 : Hid (Fp6 we110 Q95 (.int .i64 id) (.int .u64 0) (.int .u64 0) (.slice none 0 0) (.int .i64 gen) (.slice a88 es.length c89)) := HQ107.out.later hb111 HQ107.out.lt
      have HO114 : Hid (ownE we110 wn83.heap.size (.slice a88 es.length c89) es) := HO108.out.later hb111
      clear hb111 HQ107 HO108 HS106 HX109
      go_wp2_with fail
      refine (num_any 0 we110 (by omega) (by omega)).mono ?_
      rintro e wn115 ⟨rfl, rfl⟩
      go_wp2_with fail
      refine (num_any 0 wn115 (by omega) (by omega)).mono ?_
      rintro e wn116 ⟨rfl, rfl⟩
      have x0 : wn116.cell? ⟨w.heap.size, 0, none⟩ = some (.int .i64 id) := HS112.out.p.cell 0
      have x1 : wn116.cell? ⟨w.heap.size, 1, none⟩ = some (.int .u64 lo) := HS112.out.p.cell 1
      have x2 : wn116.cell? ⟨w.heap.size, 2, none⟩ = some (.int .u64 hi) := HS112.out.p.cell 2
      have x3 : wn116.cell? ⟨w.heap.size, 3, none⟩ = some (.slice da ds.length dc) := HS112.out.p.cell 3
      have x4 : wn116.cell? ⟨w.heap.size, 4, none⟩ = some (.int .i64 gen) := HS112.out.p.cell 4
      have x5 : wn116.cell? ⟨w.heap.size, 5, none⟩ = some (.slice ao es.length cap) := HS112.out.p.cell 5
      have k0 : wn116.cell? ⟨Q95, 0, none⟩ = some (.int .i64 id) := HQ113.out.cell 0
      have k1 : wn116.cell? ⟨Q95, 1, none⟩ = some (.int .u64 0) := HQ113.out.cell 1
      have k2 : wn116.cell? ⟨Q95, 2, none⟩ = some (.int .u64 0) := HQ113.out.cell 2
      have k3 : wn116.cell? ⟨Q95, 3, none⟩ = some (.slice none 0 0) := HQ113.out.cell 3
      have k4 : wn116.cell? ⟨Q95, 4, none⟩ = some (.int .i64 gen) := HQ113.out.cell 4
      have k5 : wn116.cell? ⟨Q95, 5, none⟩ = some (.slice a88 es.length c89) := HQ113.out.cell 5
      go_wp2_with fail
      refine (HSm2.out wn116 a88 c89 HO114.out.sees HS112.out.bel).mono ?_
      rintro e ws117 ⟨rfl, hb118⟩
      have HS119 : Hid (TlS w id lo hi gen mg mn mu da ao ma dc cap mc ds es ps ws117) := HS112.out.later hb118
      have HQ120 : Hid (Fp6 ws117 Q95 (.int .i64 id) (.int .u64 0) (.int .u64 0) (.slice none 0 0) (.int .i64 gen) (.slice a88 es.length c89)) := HQ113.out.later hb118 HQ113.out.lt
      clear hb118 HS112 HQ113 HO114
      clear x0 x1 x2 x3 x4 x5
      clear k0 k1 k2 k3 k4 k5
      have k0 : ws117.cell? ⟨Q95, 0, none⟩ = some (.int .i64 id) := HQ120.out.cell 0
      have k1 : ws117.cell? ⟨Q95, 1, none⟩ = some (.int .u64 0) := HQ120.out.cell 1
      have k2 : ws117.cell? ⟨Q95, 2, none⟩ = some (.int .u64 0) := HQ120.out.cell 2
      have k3 : ws117.cell? ⟨Q95, 3, none⟩ = some (.slice none 0 0) := HQ120.out.cell 3
      have k4 : ws117.cell? ⟨Q95, 4, none⟩ = some (.int .i64 gen) := HQ120.out.cell 4
      have k5 : ws117.cell? ⟨Q95, 5, none⟩ = some (.slice a88 es.length c89) := HQ120.out.cell 5
      go_wp2_with fail
      refine (HFl2.out ws117).mono ?_
      rintro e wf121 ⟨⟨T122, rfl, hz123, ht124⟩, hb125⟩
      have HS126 : Hid (TlS w id lo hi gen mg mn mu da ao ma dc cap mc ds es ps wf121) := HS119.out.later hb125
      have HTzT122 : Hid _ := hz123
      have HTtT122 : Hid _ := ht124
      clear hb125 HS119 HQ120 hz123 ht124
      clear k0 k1 k2 k3 k4 k5
      go_wp2_with fail
      refine (HDt2.out T122 HTzT122.out wf121 (HT.out.later HS126.out.bel)).mono ?_
      rintro e wg127 ⟨hb128, q129, cc130, rfl, la131, ua132, ta133⟩
      have HS134 : Hid (TlS w id lo hi gen mg mn mu da ao ma dc cap mc ds es ps wg127) := HS126.out.later hb128
      clear hb128 HS126 ta133 HTzT122 HTtT122
      by_cases hM : mayM mg mn mu ps
      · obtain ⟨S3, hS3, hlo3, hhi3, hdc3, hdt3⟩ := man_back mg mn mu ps hmu0 hM HWp.out
        have HEn3 : Hid (∀ W a c, SeesP W W.heap.size a ps → Below w.heap.size w W → Calls Tryz.prog 20 #[.agg #[.int .i64 mg, .int .i64 mn, .int .u64 mu, .slice a ps.length c]] W fun e w' => e = .returned (.tuple #[.string S3, .int .i64 0]) ∧ Below W.heap.size W w') := fun W a c h hb => (encMan_any W mg mn mu a c ps h HWp.out hmu0 (HT.out.later hb)).mono fun e w' ⟨h1, h2, h3⟩ => ⟨by rw [hS3]; exact h1 hM, h3⟩
        have HDc3 : Hid _ := hdc3
        have HDt3 : Hid _ := hdt3
        have HFl3 : Hid (∀ W, _) := fun W => flipped_any W S3 n 0 (by omega) (by omega) hn (by omega)
        have hnl3 : ¬ S3.toList = [] := toList_ne hlo3
        have hni3 : S3.toList.isEmpty = false := List.isEmpty_eq_false_iff.2 hnl3
        have hbs3 := bytes_beq S3 S3
        rw [decide_eq_true rfl] at hbs3
        clear hdc3 hdt3 hlo3 hhi3 hS3
        have x0 : wg127.cell? ⟨w.heap.size + 1, 0, none⟩ = some (.int .i64 mg) := HS134.out.m.cell 0
        have x1 : wg127.cell? ⟨w.heap.size + 1, 1, none⟩ = some (.int .i64 mn) := HS134.out.m.cell 1
        have x2 : wg127.cell? ⟨w.heap.size + 1, 2, none⟩ = some (.int .u64 mu) := HS134.out.m.cell 2
        have x3 : wg127.cell? ⟨w.heap.size + 1, 3, none⟩ = some (.slice ma ps.length mc) := HS134.out.m.cell 3
        go_wp2_with fail
        refine (HTm.out wg127 HS134.out).mono ?_
        rintro e wt135 ⟨hb136, v137, rfl, hv138⟩
        obtain ⟨a139, c140, rfl, -, -⟩ := hv138.slice
        have HS141 : Hid (TlS w id lo hi gen mg mn mu da ao ma dc cap mc ds es ps wt135) := HS134.out.later hb136
        have HO142 : Hid (SeesP wt135 wt135.heap.size a139 ps) := hv138.sees
        clear hb136 hv138 HS134
        clear x0 x1 x2 x3
        go_wp2_with fail
        refine (HEn3.out wt135 a139 c140 HO142.out HS141.out.bel).mono ?_
        rintro e we143 ⟨rfl, hb144⟩
        have HS145 : Hid (TlS w id lo hi gen mg mn mu da ao ma dc cap mc ds es ps we143) := HS141.out.later hb144
        clear hb144 HS141 HO142
        go_wp2_with fail
        refine (num_any 0 we143 (by omega) (by omega)).mono ?_
        rintro e wn146 ⟨rfl, rfl⟩
        go_wp2_with fail
        refine (HDc3.out wn146 (HT.out.later HS145.out.bel)).mono ?_
        rintro e wd147 ⟨hb148, v149, rfl, ho150⟩
        obtain ⟨a151, c152, rfl, -, -⟩ := ho150.slice
        have hal156 : Below wd147.heap.size wd147 (wd147.alloc (.cells #[.int .i64 mg, .int .i64 mn, .int .u64 mu, .slice a151 ps.length c152] 29)) := (Below.refl _ _).alloc (Nat.le_refl _) _
        have HQ153 : Hid (Mn4 (wd147.alloc (.cells #[.int .i64 mg, .int .i64 mn, .int .u64 mu, .slice a151 ps.length c152] 29)) wd147.heap.size (.int .i64 mg) (.int .i64 mn) (.int .u64 mu) (.slice a151 ps.length c152)) := heap_alloc_new wd147 _
        have HO154 : Hid (ownP (wd147.alloc (.cells #[.int .i64 mg, .int .i64 mn, .int .u64 mu, .slice a151 ps.length c152] 29)) wn146.heap.size (.slice a151 ps.length c152) ps) := ho150.later hal156
        have HS155 : Hid (TlS w id lo hi gen mg mn mu da ao ma dc cap mc ds es ps (wd147.alloc (.cells #[.int .i64 mg, .int .i64 mn, .int .u64 mu, .slice a151 ps.length c152] 29))) := (HS145.out.later hb148).later hal156
        clear hb148 ho150 hal156 HS145
        go_wp2_with fail
        generalize hyy : wd147.alloc (.cells #[.int .i64 mg, .int .i64 mn, .int .u64 mu, .slice a151 ps.length c152] 29) = y157 at *
        generalize hqq : wd147.heap.size = Q158 at *
        clear hyy hqq
        refine (num_any 0 y157 (by omega) (by omega)).mono ?_
        rintro e wn159 ⟨rfl, rfl⟩
        have x0 : wn159.cell? ⟨w.heap.size + 1, 0, none⟩ = some (.int .i64 mg) := HS155.out.m.cell 0
        have x1 : wn159.cell? ⟨w.heap.size + 1, 1, none⟩ = some (.int .i64 mn) := HS155.out.m.cell 1
        have x2 : wn159.cell? ⟨w.heap.size + 1, 2, none⟩ = some (.int .u64 mu) := HS155.out.m.cell 2
        have x3 : wn159.cell? ⟨w.heap.size + 1, 3, none⟩ = some (.slice ma ps.length mc) := HS155.out.m.cell 3
        have k0 : wn159.cell? ⟨Q158, 0, none⟩ = some (.int .i64 mg) := HQ153.out.cell 0
        have k1 : wn159.cell? ⟨Q158, 1, none⟩ = some (.int .i64 mn) := HQ153.out.cell 1
        have k2 : wn159.cell? ⟨Q158, 2, none⟩ = some (.int .u64 mu) := HQ153.out.cell 2
        have k3 : wn159.cell? ⟨Q158, 3, none⟩ = some (.slice a151 ps.length c152) := HQ153.out.cell 3
        go_wp2_with fail
        refine (HSm3.out wn159 a151 c152 HO154.out.sees HS155.out.bel).mono ?_
        rintro e ws160 ⟨rfl, hb161⟩
        have HS162 : Hid (TlS w id lo hi gen mg mn mu da ao ma dc cap mc ds es ps ws160) := HS155.out.later hb161
        clear hb161 HS155 HQ153 HO154
        clear x0 x1 x2 x3
        clear k0 k1 k2 k3
        go_wp2_with fail
        refine (HFl3.out ws160).mono ?_
        rintro e wf163 ⟨⟨T164, rfl, hz165, ht166⟩, hb167⟩
        have HS168 : Hid (TlS w id lo hi gen mg mn mu da ao ma dc cap mc ds es ps wf163) := HS162.out.later hb167
        have HTzT164 : Hid _ := hz165
        have HTtT164 : Hid _ := ht166
        clear hb167 HS162 hz165 ht166
        go_wp2_with fail
        refine (HDt3.out T164 HTzT164.out wf163 (HT.out.later HS168.out.bel)).mono ?_
        rintro e wg169 ⟨hb170, q171, cc172, rfl, la173, ua174, ta175⟩
        have HS176 : Hid (TlS w id lo hi gen mg mn mu da ao ma dc cap mc ds es ps wg169) := HS168.out.later hb170
        clear hb170 HS168 ta175 HTzT164 HTtT164
        go_wp2
        go_ret
        exact ⟨rfl, HS176.out.bel⟩
      · have HEn3 : Hid (∀ W a c, SeesP W W.heap.size a ps → Below w.heap.size w W → Calls Tryz.prog 20 #[.agg #[.int .i64 mg, .int .i64 mn, .int .u64 mu, .slice a ps.length c]] W fun e w' => e = .returned (.tuple #[.string ⟨#[]⟩, .int .i64 2]) ∧ Below W.heap.size W w') := fun W a c h hb => (encMan_any W mg mn mu a c ps h HWp.out hmu0 (HT.out.later hb)).mono fun e w' ⟨h1, h2, h3⟩ => ⟨h2 hM, h3⟩
        have x0 : wg127.cell? ⟨w.heap.size + 1, 0, none⟩ = some (.int .i64 mg) := HS134.out.m.cell 0
        have x1 : wg127.cell? ⟨w.heap.size + 1, 1, none⟩ = some (.int .i64 mn) := HS134.out.m.cell 1
        have x2 : wg127.cell? ⟨w.heap.size + 1, 2, none⟩ = some (.int .u64 mu) := HS134.out.m.cell 2
        have x3 : wg127.cell? ⟨w.heap.size + 1, 3, none⟩ = some (.slice ma ps.length mc) := HS134.out.m.cell 3
        go_wp2_with fail
        refine (HTm.out wg127 HS134.out).mono ?_
        rintro e wt177 ⟨hb178, v179, rfl, hv180⟩
        obtain ⟨a181, c182, rfl, -, -⟩ := hv180.slice
        have HS183 : Hid (TlS w id lo hi gen mg mn mu da ao ma dc cap mc ds es ps wt177) := HS134.out.later hb178
        have HO184 : Hid (SeesP wt177 wt177.heap.size a181 ps) := hv180.sees
        clear hb178 hv180 HS134
        clear x0 x1 x2 x3
        go_wp2_with fail
        refine (HEn3.out wt177 a181 c182 HO184.out HS183.out.bel).mono ?_
        rintro e we185 ⟨rfl, hb186⟩
        have HS187 : Hid (TlS w id lo hi gen mg mn mu da ao ma dc cap mc ds es ps we185) := HS183.out.later hb186
        clear hb186 HS183 HO184
        go_wp2_with fail
        refine (num_any 2 we185 (by omega) (by omega)).mono ?_
        rintro e wn188 ⟨rfl, rfl⟩
        have hb00 := bytes_beq (⟨#[]⟩ : ByteArray) ⟨#[]⟩
        rw [decide_eq_true rfl] at hb00
        go_wp2
        go_ret
        exact ⟨rfl, HS187.out.bel⟩
    · have HEn2 : Hid (∀ W l t a n' c a' c', SeesE W W.heap.size a' es → Below w.heap.size w W → Calls Tryz.prog 17 #[.agg #[.int .i64 id, .int .u64 l, .int .u64 t, .slice a n' c, .int .i64 gen, .slice a' es.length c']] W fun e w' => e = .returned (.tuple #[.string ⟨#[]⟩, .int .i64 2]) ∧ Below W.heap.size W w') := fun W l t a n' c a' c' h hb => (encDelta_any W id gen l t a a' n' c c' es h HWe.out (HT.out.later hb)).mono fun e w' ⟨h1, h2, h3⟩ => ⟨h2 hE, h3⟩
      have x0 : wg60.cell? ⟨w.heap.size, 0, none⟩ = some (.int .i64 id) := HS67.out.p.cell 0
      have x1 : wg60.cell? ⟨w.heap.size, 1, none⟩ = some (.int .u64 lo) := HS67.out.p.cell 1
      have x2 : wg60.cell? ⟨w.heap.size, 2, none⟩ = some (.int .u64 hi) := HS67.out.p.cell 2
      have x3 : wg60.cell? ⟨w.heap.size, 3, none⟩ = some (.slice da ds.length dc) := HS67.out.p.cell 3
      have x4 : wg60.cell? ⟨w.heap.size, 4, none⟩ = some (.int .i64 gen) := HS67.out.p.cell 4
      have x5 : wg60.cell? ⟨w.heap.size, 5, none⟩ = some (.slice ao es.length cap) := HS67.out.p.cell 5
      go_wp2_with fail
      refine (HTw.out wg60 HS67.out).mono ?_
      rintro e wt189 ⟨hb192, v190, u191, rfl, hv193, hu194⟩
      obtain ⟨a195, c196, rfl, -, -⟩ := hv193.slice
      obtain ⟨b197, d198, rfl, -, -⟩ := hu194.slice
      have HS199 : Hid (TlS w id lo hi gen mg mn mu da ao ma dc cap mc ds es ps wt189) := HS67.out.later hb192
      have HO200 : Hid (SeesE wt189 wt189.heap.size b197 es) := hu194.sees
      clear hb192 hv193 hu194 HS67
      clear x0 x1 x2 x3 x4 x5
      go_wp2_with fail
      refine (HEn2.out wt189 lo hi a195 ds.length c196 b197 d198 HO200.out HS199.out.bel).mono ?_
      rintro e we201 ⟨rfl, hb202⟩
      have HS203 : Hid (TlS w id lo hi gen mg mn mu da ao ma dc cap mc ds es ps we201) := HS199.out.later hb202
      clear hb202 HS199 HO200
      go_wp2_with fail
      refine (num_any 2 we201 (by omega) (by omega)).mono ?_
      rintro e wn204 ⟨rfl, rfl⟩
      by_cases hM : mayM mg mn mu ps
      · obtain ⟨S3, hS3, hlo3, hhi3, hdc3, hdt3⟩ := man_back mg mn mu ps hmu0 hM HWp.out
        have HEn3 : Hid (∀ W a c, SeesP W W.heap.size a ps → Below w.heap.size w W → Calls Tryz.prog 20 #[.agg #[.int .i64 mg, .int .i64 mn, .int .u64 mu, .slice a ps.length c]] W fun e w' => e = .returned (.tuple #[.string S3, .int .i64 0]) ∧ Below W.heap.size W w') := fun W a c h hb => (encMan_any W mg mn mu a c ps h HWp.out hmu0 (HT.out.later hb)).mono fun e w' ⟨h1, h2, h3⟩ => ⟨by rw [hS3]; exact h1 hM, h3⟩
        have HDc3 : Hid _ := hdc3
        have HDt3 : Hid _ := hdt3
        have HFl3 : Hid (∀ W, _) := fun W => flipped_any W S3 n 0 (by omega) (by omega) hn (by omega)
        have hnl3 : ¬ S3.toList = [] := toList_ne hlo3
        have hni3 : S3.toList.isEmpty = false := List.isEmpty_eq_false_iff.2 hnl3
        have hbs3 := bytes_beq S3 S3
        rw [decide_eq_true rfl] at hbs3
        clear hdc3 hdt3 hlo3 hhi3 hS3
        have x0 : wn204.cell? ⟨w.heap.size + 1, 0, none⟩ = some (.int .i64 mg) := HS203.out.m.cell 0
        have x1 : wn204.cell? ⟨w.heap.size + 1, 1, none⟩ = some (.int .i64 mn) := HS203.out.m.cell 1
        have x2 : wn204.cell? ⟨w.heap.size + 1, 2, none⟩ = some (.int .u64 mu) := HS203.out.m.cell 2
        have x3 : wn204.cell? ⟨w.heap.size + 1, 3, none⟩ = some (.slice ma ps.length mc) := HS203.out.m.cell 3
        go_wp2_with fail
        refine (HTm.out wn204 HS203.out).mono ?_
        rintro e wt205 ⟨hb206, v207, rfl, hv208⟩
        obtain ⟨a209, c210, rfl, -, -⟩ := hv208.slice
        have HS211 : Hid (TlS w id lo hi gen mg mn mu da ao ma dc cap mc ds es ps wt205) := HS203.out.later hb206
        have HO212 : Hid (SeesP wt205 wt205.heap.size a209 ps) := hv208.sees
        clear hb206 hv208 HS203
        clear x0 x1 x2 x3
        go_wp2_with fail
        refine (HEn3.out wt205 a209 c210 HO212.out HS211.out.bel).mono ?_
        rintro e we213 ⟨rfl, hb214⟩
        have HS215 : Hid (TlS w id lo hi gen mg mn mu da ao ma dc cap mc ds es ps we213) := HS211.out.later hb214
        clear hb214 HS211 HO212
        go_wp2_with fail
        refine (num_any 0 we213 (by omega) (by omega)).mono ?_
        rintro e wn216 ⟨rfl, rfl⟩
        go_wp2_with fail
        refine (HDc3.out wn216 (HT.out.later HS215.out.bel)).mono ?_
        rintro e wd217 ⟨hb218, v219, rfl, ho220⟩
        obtain ⟨a221, c222, rfl, -, -⟩ := ho220.slice
        have hal226 : Below wd217.heap.size wd217 (wd217.alloc (.cells #[.int .i64 mg, .int .i64 mn, .int .u64 mu, .slice a221 ps.length c222] 29)) := (Below.refl _ _).alloc (Nat.le_refl _) _
        have HQ223 : Hid (Mn4 (wd217.alloc (.cells #[.int .i64 mg, .int .i64 mn, .int .u64 mu, .slice a221 ps.length c222] 29)) wd217.heap.size (.int .i64 mg) (.int .i64 mn) (.int .u64 mu) (.slice a221 ps.length c222)) := heap_alloc_new wd217 _
        have HO224 : Hid (ownP (wd217.alloc (.cells #[.int .i64 mg, .int .i64 mn, .int .u64 mu, .slice a221 ps.length c222] 29)) wn216.heap.size (.slice a221 ps.length c222) ps) := ho220.later hal226
        have HS225 : Hid (TlS w id lo hi gen mg mn mu da ao ma dc cap mc ds es ps (wd217.alloc (.cells #[.int .i64 mg, .int .i64 mn, .int .u64 mu, .slice a221 ps.length c222] 29))) := (HS215.out.later hb218).later hal226
        clear hb218 ho220 hal226 HS215
        go_wp2_with fail
        generalize hyy : wd217.alloc (.cells #[.int .i64 mg, .int .i64 mn, .int .u64 mu, .slice a221 ps.length c222] 29) = y227 at *
        generalize hqq : wd217.heap.size = Q228 at *
        clear hyy hqq
        refine (num_any 0 y227 (by omega) (by omega)).mono ?_
        rintro e wn229 ⟨rfl, rfl⟩
        have x0 : wn229.cell? ⟨w.heap.size + 1, 0, none⟩ = some (.int .i64 mg) := HS225.out.m.cell 0
        have x1 : wn229.cell? ⟨w.heap.size + 1, 1, none⟩ = some (.int .i64 mn) := HS225.out.m.cell 1
        have x2 : wn229.cell? ⟨w.heap.size + 1, 2, none⟩ = some (.int .u64 mu) := HS225.out.m.cell 2
        have x3 : wn229.cell? ⟨w.heap.size + 1, 3, none⟩ = some (.slice ma ps.length mc) := HS225.out.m.cell 3
        have k0 : wn229.cell? ⟨Q228, 0, none⟩ = some (.int .i64 mg) := HQ223.out.cell 0
        have k1 : wn229.cell? ⟨Q228, 1, none⟩ = some (.int .i64 mn) := HQ223.out.cell 1
        have k2 : wn229.cell? ⟨Q228, 2, none⟩ = some (.int .u64 mu) := HQ223.out.cell 2
        have k3 : wn229.cell? ⟨Q228, 3, none⟩ = some (.slice a221 ps.length c222) := HQ223.out.cell 3
        go_wp2_with fail
        refine (HSm3.out wn229 a221 c222 HO224.out.sees HS225.out.bel).mono ?_
        rintro e ws230 ⟨rfl, hb231⟩
        have HS232 : Hid (TlS w id lo hi gen mg mn mu da ao ma dc cap mc ds es ps ws230) := HS225.out.later hb231
        clear hb231 HS225 HQ223 HO224
        clear x0 x1 x2 x3
        clear k0 k1 k2 k3
        go_wp2_with fail
        refine (HFl3.out ws230).mono ?_
        rintro e wf233 ⟨⟨T234, rfl, hz235, ht236⟩, hb237⟩
        have HS238 : Hid (TlS w id lo hi gen mg mn mu da ao ma dc cap mc ds es ps wf233) := HS232.out.later hb237
        have HTzT234 : Hid _ := hz235
        have HTtT234 : Hid _ := ht236
        clear hb237 HS232 hz235 ht236
        go_wp2_with fail
        refine (HDt3.out T234 HTzT234.out wf233 (HT.out.later HS238.out.bel)).mono ?_
        rintro e wg239 ⟨hb240, q241, cc242, rfl, la243, ua244, ta245⟩
        have HS246 : Hid (TlS w id lo hi gen mg mn mu da ao ma dc cap mc ds es ps wg239) := HS238.out.later hb240
        clear hb240 HS238 ta245 HTzT234 HTtT234
        go_wp2
        go_ret
        exact ⟨rfl, HS246.out.bel⟩
      · have HEn3 : Hid (∀ W a c, SeesP W W.heap.size a ps → Below w.heap.size w W → Calls Tryz.prog 20 #[.agg #[.int .i64 mg, .int .i64 mn, .int .u64 mu, .slice a ps.length c]] W fun e w' => e = .returned (.tuple #[.string ⟨#[]⟩, .int .i64 2]) ∧ Below W.heap.size W w') := fun W a c h hb => (encMan_any W mg mn mu a c ps h HWp.out hmu0 (HT.out.later hb)).mono fun e w' ⟨h1, h2, h3⟩ => ⟨h2 hM, h3⟩
        have x0 : wn204.cell? ⟨w.heap.size + 1, 0, none⟩ = some (.int .i64 mg) := HS203.out.m.cell 0
        have x1 : wn204.cell? ⟨w.heap.size + 1, 1, none⟩ = some (.int .i64 mn) := HS203.out.m.cell 1
        have x2 : wn204.cell? ⟨w.heap.size + 1, 2, none⟩ = some (.int .u64 mu) := HS203.out.m.cell 2
        have x3 : wn204.cell? ⟨w.heap.size + 1, 3, none⟩ = some (.slice ma ps.length mc) := HS203.out.m.cell 3
        go_wp2_with fail
        refine (HTm.out wn204 HS203.out).mono ?_
        rintro e wt247 ⟨hb248, v249, rfl, hv250⟩
        obtain ⟨a251, c252, rfl, -, -⟩ := hv250.slice
        have HS253 : Hid (TlS w id lo hi gen mg mn mu da ao ma dc cap mc ds es ps wt247) := HS203.out.later hb248
        have HO254 : Hid (SeesP wt247 wt247.heap.size a251 ps) := hv250.sees
        clear hb248 hv250 HS203
        clear x0 x1 x2 x3
        go_wp2_with fail
        refine (HEn3.out wt247 a251 c252 HO254.out HS253.out.bel).mono ?_
        rintro e we255 ⟨rfl, hb256⟩
        have HS257 : Hid (TlS w id lo hi gen mg mn mu da ao ma dc cap mc ds es ps we255) := HS253.out.later hb256
        clear hb256 HS253 HO254
        go_wp2_with fail
        refine (num_any 2 we255 (by omega) (by omega)).mono ?_
        rintro e wn258 ⟨rfl, rfl⟩
        have hb00 := bytes_beq (⟨#[]⟩ : ByteArray) ⟨#[]⟩
        rw [decide_eq_true rfl] at hb00
        go_wp2
        go_ret
        exact ⟨rfl, HS257.out.bel⟩
  · have HEn1 : Hid (∀ W g a c a' n' c', SeesT W W.heap.size a ds → Below w.heap.size w W → Calls Tryz.prog 7 #[.agg #[.int .i64 id, .int .u64 lo, .int .u64 hi, .slice a ds.length c, .int .i64 g, .slice a' n' c']] W fun e w' => e = .returned (.tuple #[.string ⟨#[]⟩, .int .i64 2]) ∧ Below W.heap.size W w') := fun W g a c a' n' c' h hb => (encData_any W id g lo hi a a' n' c c' ds hlo0 h HWd.out (HT.out.later hb)).mono fun e w' ⟨h1, h2, h3⟩ => ⟨h2 hD, h3⟩
    refine (HTw.out W0 HS0.out).mono ?_
    rintro e wt259 ⟨hb262, v260, u261, rfl, hv263, hu264⟩
    obtain ⟨a265, c266, rfl, -, -⟩ := hv263.slice
    obtain ⟨b267, d268, rfl, -, -⟩ := hu264.slice
    have HS269 : Hid (TlS w id lo hi gen mg mn mu da ao ma dc cap mc ds es ps wt259) := HS0.out.later hb262
    have HO270 : Hid (SeesT wt259 wt259.heap.size a265 ds) := hv263.sees
    clear hb262 hv263 hu264 HS0
    go_wp2_with fail
    refine (HEn1.out wt259 gen a265 c266 b267 es.length d268 HO270.out HS269.out.bel).mono ?_
    rintro e we271 ⟨rfl, hb272⟩
    have HS273 : Hid (TlS w id lo hi gen mg mn mu da ao ma dc cap mc ds es ps we271) := HS269.out.later hb272
    clear hb272 HS269 HO270
    go_wp2_with fail
    refine (num_any 2 we271 (by omega) (by omega)).mono ?_
    rintro e wn274 ⟨rfl, rfl⟩
    by_cases hE : mayD id gen es
    · obtain ⟨S2, hS2, hlo2, hhi2, hdc2, hdt2⟩ := delta_back id gen es hE HWe.out
      have HEn2 : Hid (∀ W l t a n' c a' c', SeesE W W.heap.size a' es → Below w.heap.size w W → Calls Tryz.prog 17 #[.agg #[.int .i64 id, .int .u64 l, .int .u64 t, .slice a n' c, .int .i64 gen, .slice a' es.length c']] W fun e w' => e = .returned (.tuple #[.string S2, .int .i64 0]) ∧ Below W.heap.size W w') := fun W l t a n' c a' c' h hb => (encDelta_any W id gen l t a a' n' c c' es h HWe.out (HT.out.later hb)).mono fun e w' ⟨h1, h2, h3⟩ => ⟨by rw [hS2]; exact h1 hE, h3⟩
      have HDc2 : Hid _ := hdc2
      have HDt2 : Hid _ := hdt2
      have HFl2 : Hid (∀ W, _) := fun W => flipped_any W S2 n 0 (by omega) (by omega) hn (by omega)
      have hnl2 : ¬ S2.toList = [] := toList_ne hlo2
      have hni2 : S2.toList.isEmpty = false := List.isEmpty_eq_false_iff.2 hnl2
      have hbs2 := bytes_beq S2 S2
      rw [decide_eq_true rfl] at hbs2
      clear hdc2 hdt2 hlo2 hhi2 hS2
      have x0 : wn274.cell? ⟨w.heap.size, 0, none⟩ = some (.int .i64 id) := HS273.out.p.cell 0
      have x1 : wn274.cell? ⟨w.heap.size, 1, none⟩ = some (.int .u64 lo) := HS273.out.p.cell 1
      have x2 : wn274.cell? ⟨w.heap.size, 2, none⟩ = some (.int .u64 hi) := HS273.out.p.cell 2
      have x3 : wn274.cell? ⟨w.heap.size, 3, none⟩ = some (.slice da ds.length dc) := HS273.out.p.cell 3
      have x4 : wn274.cell? ⟨w.heap.size, 4, none⟩ = some (.int .i64 gen) := HS273.out.p.cell 4
      have x5 : wn274.cell? ⟨w.heap.size, 5, none⟩ = some (.slice ao es.length cap) := HS273.out.p.cell 5
      go_wp2_with fail
      refine (HTw.out wn274 HS273.out).mono ?_
      rintro e wt275 ⟨hb278, v276, u277, rfl, hv279, hu280⟩
      obtain ⟨a281, c282, rfl, -, -⟩ := hv279.slice
      obtain ⟨b283, d284, rfl, -, -⟩ := hu280.slice
      have HS285 : Hid (TlS w id lo hi gen mg mn mu da ao ma dc cap mc ds es ps wt275) := HS273.out.later hb278
      have HO286 : Hid (SeesE wt275 wt275.heap.size b283 es) := hu280.sees
      clear hb278 hv279 hu280 HS273
      clear x0 x1 x2 x3 x4 x5
      go_wp2_with fail
      refine (HEn2.out wt275 lo hi a281 ds.length c282 b283 d284 HO286.out HS285.out.bel).mono ?_
      rintro e we287 ⟨rfl, hb288⟩
      have HS289 : Hid (TlS w id lo hi gen mg mn mu da ao ma dc cap mc ds es ps we287) := HS285.out.later hb288
      clear hb288 HS285 HO286
      go_wp2_with fail
      refine (num_any 0 we287 (by omega) (by omega)).mono ?_
      rintro e wn290 ⟨rfl, rfl⟩
      go_wp2_with fail
      refine (HDc2.out wn290 (HT.out.later HS289.out.bel)).mono ?_
      rintro e wd291 ⟨hb292, v293, rfl, ho294⟩
      obtain ⟨a295, c296, rfl, -, -⟩ := ho294.slice
      have hal300 : Below wd291.heap.size wd291 (wd291.alloc (.cells #[.int .i64 id, .int .u64 0, .int .u64 0, .slice none 0 0, .int .i64 gen, .slice a295 es.length c296] 26)) := (Below.refl _ _).alloc (Nat.le_refl _) _
      have HQ297 : Hid (Fp6 (wd291.alloc (.cells #[.int .i64 id, .int .u64 0, .int .u64 0, .slice none 0 0, .int .i64 gen, .slice a295 es.length c296] 26)) wd291.heap.size (.int .i64 id) (.int .u64 0) (.int .u64 0) (.slice none 0 0) (.int .i64 gen) (.slice a295 es.length c296)) := heap_alloc_new wd291 _
      have HO298 : Hid (ownE (wd291.alloc (.cells #[.int .i64 id, .int .u64 0, .int .u64 0, .slice none 0 0, .int .i64 gen, .slice a295 es.length c296] 26)) wn290.heap.size (.slice a295 es.length c296) es) := ho294.later hal300
      have HS299 : Hid (TlS w id lo hi gen mg mn mu da ao ma dc cap mc ds es ps (wd291.alloc (.cells #[.int .i64 id, .int .u64 0, .int .u64 0, .slice none 0 0, .int .i64 gen, .slice a295 es.length c296] 26))) := (HS289.out.later hb292).later hal300
      clear hb292 ho294 hal300 HS289
      go_wp2_with fail
      generalize hyy : wd291.alloc (.cells #[.int .i64 id, .int .u64 0, .int .u64 0, .slice none 0 0, .int .i64 gen, .slice a295 es.length c296] 26) = y301 at *
      generalize hqq : wd291.heap.size = Q302 at *
      clear hyy hqq
      refine (HTq2.out y301 a295 c296 wn290.heap.size HO298.out).mono ?_
      rintro e wt303 ⟨hb304, v305, u306, rfl, hv307, hu308⟩
      obtain ⟨a309, c310, rfl, -, -⟩ := hv307.slice
      obtain ⟨b311, d312, rfl, -, -⟩ := hu308.slice
      have HS313 : Hid (TlS w id lo hi gen mg mn mu da ao ma dc cap mc ds es ps wt303) := HS299.out.later hb304
      have HQ314 : Hid (Fp6 wt303 Q302 (.int .i64 id) (.int .u64 0) (.int .u64 0) (.slice none 0 0) (.int .i64 gen) (.slice a295 es.length c296)) := HQ297.out.later hb304 HQ297.out.lt
      have HO315 : Hid (ownE wt303 wn290.heap.size (.slice a295 es.length c296) es) := HO298.out.later hb304
      have HX316 : Hid (SeesE wt303 wt303.heap.size b311 es) := hu308.sees
      clear hb304 hv307 hu308 HQ297 HO298 HS299
      go_wp2_with fail
      refine (HEn2.out wt303 0 0 a309 0 c310 b311 d312 HX316.out HS313.out.bel).mono ?_
      rintro e we317 ⟨rfl, hb318⟩
      have HS319 : Hid (TlS w id lo hi gen mg mn mu da ao ma dc cap mc ds es ps we317) := HS313.out.later hb318
      have HQ320 : Hid (Fp6 we317 Q302 (.int .i64 id) (.int .u64 0) (.int .u64 0) (.slice none 0 0) (.int .i64 gen) (.slice a295 es.length c296)) := HQ314.out.later hb318 HQ314.out.lt
      have HO321 : Hid (ownE we317 wn290.heap.size (.slice a295 es.length c296) es) := HO315.out.later hb318
      clear hb318 HQ314 HO315 HS313 HX316
      go_wp2_with fail
      refine (num_any 0 we317 (by omega) (by omega)).mono ?_
      rintro e wn322 ⟨rfl, rfl⟩
      go_wp2_with fail
      refine (num_any 0 wn322 (by omega) (by omega)).mono ?_
      rintro e wn323 ⟨rfl, rfl⟩
      have x0 : wn323.cell? ⟨w.heap.size, 0, none⟩ = some (.int .i64 id) := HS319.out.p.cell 0
      have x1 : wn323.cell? ⟨w.heap.size, 1, none⟩ = some (.int .u64 lo) := HS319.out.p.cell 1
      have x2 : wn323.cell? ⟨w.heap.size, 2, none⟩ = some (.int .u64 hi) := HS319.out.p.cell 2
      have x3 : wn323.cell? ⟨w.heap.size, 3, none⟩ = some (.slice da ds.length dc) := HS319.out.p.cell 3
      have x4 : wn323.cell? ⟨w.heap.size, 4, none⟩ = some (.int .i64 gen) := HS319.out.p.cell 4
      have x5 : wn323.cell? ⟨w.heap.size, 5, none⟩ = some (.slice ao es.length cap) := HS319.out.p.cell 5
      have k0 : wn323.cell? ⟨Q302, 0, none⟩ = some (.int .i64 id) := HQ320.out.cell 0
      have k1 : wn323.cell? ⟨Q302, 1, none⟩ = some (.int .u64 0) := HQ320.out.cell 1
      have k2 : wn323.cell? ⟨Q302, 2, none⟩ = some (.int .u64 0) := HQ320.out.cell 2
      have k3 : wn323.cell? ⟨Q302, 3, none⟩ = some (.slice none 0 0) := HQ320.out.cell 3
      have k4 : wn323.cell? ⟨Q302, 4, none⟩ = some (.int .i64 gen) := HQ320.out.cell 4
      have k5 : wn323.cell? ⟨Q302, 5, none⟩ = some (.slice a295 es.length c296) := HQ320.out.cell 5
      go_wp2_with fail
      refine (HSm2.out wn323 a295 c296 HO321.out.sees HS319.out.bel).mono ?_
      rintro e ws324 ⟨rfl, hb325⟩
      have HS326 : Hid (TlS w id lo hi gen mg mn mu da ao ma dc cap mc ds es ps ws324) := HS319.out.later hb325
      have HQ327 : Hid (Fp6 ws324 Q302 (.int .i64 id) (.int .u64 0) (.int .u64 0) (.slice none 0 0) (.int .i64 gen) (.slice a295 es.length c296)) := HQ320.out.later hb325 HQ320.out.lt
      clear hb325 HS319 HQ320 HO321
      clear x0 x1 x2 x3 x4 x5
      clear k0 k1 k2 k3 k4 k5
      have k0 : ws324.cell? ⟨Q302, 0, none⟩ = some (.int .i64 id) := HQ327.out.cell 0
      have k1 : ws324.cell? ⟨Q302, 1, none⟩ = some (.int .u64 0) := HQ327.out.cell 1
      have k2 : ws324.cell? ⟨Q302, 2, none⟩ = some (.int .u64 0) := HQ327.out.cell 2
      have k3 : ws324.cell? ⟨Q302, 3, none⟩ = some (.slice none 0 0) := HQ327.out.cell 3
      have k4 : ws324.cell? ⟨Q302, 4, none⟩ = some (.int .i64 gen) := HQ327.out.cell 4
      have k5 : ws324.cell? ⟨Q302, 5, none⟩ = some (.slice a295 es.length c296) := HQ327.out.cell 5
      go_wp2_with fail
      refine (HFl2.out ws324).mono ?_
      rintro e wf328 ⟨⟨T329, rfl, hz330, ht331⟩, hb332⟩
      have HS333 : Hid (TlS w id lo hi gen mg mn mu da ao ma dc cap mc ds es ps wf328) := HS326.out.later hb332
      have HTzT329 : Hid _ := hz330
      have HTtT329 : Hid _ := ht331
      clear hb332 HS326 HQ327 hz330 ht331
      clear k0 k1 k2 k3 k4 k5
      go_wp2_with fail
      refine (HDt2.out T329 HTzT329.out wf328 (HT.out.later HS333.out.bel)).mono ?_
      rintro e wg334 ⟨hb335, q336, cc337, rfl, la338, ua339, ta340⟩
      have HS341 : Hid (TlS w id lo hi gen mg mn mu da ao ma dc cap mc ds es ps wg334) := HS333.out.later hb335
      clear hb335 HS333 ta340 HTzT329 HTtT329
      by_cases hM : mayM mg mn mu ps
      · obtain ⟨S3, hS3, hlo3, hhi3, hdc3, hdt3⟩ := man_back mg mn mu ps hmu0 hM HWp.out
        have HEn3 : Hid (∀ W a c, SeesP W W.heap.size a ps → Below w.heap.size w W → Calls Tryz.prog 20 #[.agg #[.int .i64 mg, .int .i64 mn, .int .u64 mu, .slice a ps.length c]] W fun e w' => e = .returned (.tuple #[.string S3, .int .i64 0]) ∧ Below W.heap.size W w') := fun W a c h hb => (encMan_any W mg mn mu a c ps h HWp.out hmu0 (HT.out.later hb)).mono fun e w' ⟨h1, h2, h3⟩ => ⟨by rw [hS3]; exact h1 hM, h3⟩
        have HDc3 : Hid _ := hdc3
        have HDt3 : Hid _ := hdt3
        have HFl3 : Hid (∀ W, _) := fun W => flipped_any W S3 n 0 (by omega) (by omega) hn (by omega)
        have hnl3 : ¬ S3.toList = [] := toList_ne hlo3
        have hni3 : S3.toList.isEmpty = false := List.isEmpty_eq_false_iff.2 hnl3
        have hbs3 := bytes_beq S3 S3
        rw [decide_eq_true rfl] at hbs3
        clear hdc3 hdt3 hlo3 hhi3 hS3
        have x0 : wg334.cell? ⟨w.heap.size + 1, 0, none⟩ = some (.int .i64 mg) := HS341.out.m.cell 0
        have x1 : wg334.cell? ⟨w.heap.size + 1, 1, none⟩ = some (.int .i64 mn) := HS341.out.m.cell 1
        have x2 : wg334.cell? ⟨w.heap.size + 1, 2, none⟩ = some (.int .u64 mu) := HS341.out.m.cell 2
        have x3 : wg334.cell? ⟨w.heap.size + 1, 3, none⟩ = some (.slice ma ps.length mc) := HS341.out.m.cell 3
        go_wp2_with fail
        refine (HTm.out wg334 HS341.out).mono ?_
        rintro e wt342 ⟨hb343, v344, rfl, hv345⟩
        obtain ⟨a346, c347, rfl, -, -⟩ := hv345.slice
        have HS348 : Hid (TlS w id lo hi gen mg mn mu da ao ma dc cap mc ds es ps wt342) := HS341.out.later hb343
        have HO349 : Hid (SeesP wt342 wt342.heap.size a346 ps) := hv345.sees
        clear hb343 hv345 HS341
        clear x0 x1 x2 x3
        go_wp2_with fail
        refine (HEn3.out wt342 a346 c347 HO349.out HS348.out.bel).mono ?_
        rintro e we350 ⟨rfl, hb351⟩
        have HS352 : Hid (TlS w id lo hi gen mg mn mu da ao ma dc cap mc ds es ps we350) := HS348.out.later hb351
        clear hb351 HS348 HO349
        go_wp2_with fail
        refine (num_any 0 we350 (by omega) (by omega)).mono ?_
        rintro e wn353 ⟨rfl, rfl⟩
        go_wp2_with fail
        refine (HDc3.out wn353 (HT.out.later HS352.out.bel)).mono ?_
        rintro e wd354 ⟨hb355, v356, rfl, ho357⟩
        obtain ⟨a358, c359, rfl, -, -⟩ := ho357.slice
        have hal363 : Below wd354.heap.size wd354 (wd354.alloc (.cells #[.int .i64 mg, .int .i64 mn, .int .u64 mu, .slice a358 ps.length c359] 29)) := (Below.refl _ _).alloc (Nat.le_refl _) _
        have HQ360 : Hid (Mn4 (wd354.alloc (.cells #[.int .i64 mg, .int .i64 mn, .int .u64 mu, .slice a358 ps.length c359] 29)) wd354.heap.size (.int .i64 mg) (.int .i64 mn) (.int .u64 mu) (.slice a358 ps.length c359)) := heap_alloc_new wd354 _
        have HO361 : Hid (ownP (wd354.alloc (.cells #[.int .i64 mg, .int .i64 mn, .int .u64 mu, .slice a358 ps.length c359] 29)) wn353.heap.size (.slice a358 ps.length c359) ps) := ho357.later hal363
        have HS362 : Hid (TlS w id lo hi gen mg mn mu da ao ma dc cap mc ds es ps (wd354.alloc (.cells #[.int .i64 mg, .int .i64 mn, .int .u64 mu, .slice a358 ps.length c359] 29))) := (HS352.out.later hb355).later hal363
        clear hb355 ho357 hal363 HS352
        go_wp2_with fail
        generalize hyy : wd354.alloc (.cells #[.int .i64 mg, .int .i64 mn, .int .u64 mu, .slice a358 ps.length c359] 29) = y364 at *
        generalize hqq : wd354.heap.size = Q365 at *
        clear hyy hqq
        refine (num_any 0 y364 (by omega) (by omega)).mono ?_
        rintro e wn366 ⟨rfl, rfl⟩
        have x0 : wn366.cell? ⟨w.heap.size + 1, 0, none⟩ = some (.int .i64 mg) := HS362.out.m.cell 0
        have x1 : wn366.cell? ⟨w.heap.size + 1, 1, none⟩ = some (.int .i64 mn) := HS362.out.m.cell 1
        have x2 : wn366.cell? ⟨w.heap.size + 1, 2, none⟩ = some (.int .u64 mu) := HS362.out.m.cell 2
        have x3 : wn366.cell? ⟨w.heap.size + 1, 3, none⟩ = some (.slice ma ps.length mc) := HS362.out.m.cell 3
        have k0 : wn366.cell? ⟨Q365, 0, none⟩ = some (.int .i64 mg) := HQ360.out.cell 0
        have k1 : wn366.cell? ⟨Q365, 1, none⟩ = some (.int .i64 mn) := HQ360.out.cell 1
        have k2 : wn366.cell? ⟨Q365, 2, none⟩ = some (.int .u64 mu) := HQ360.out.cell 2
        have k3 : wn366.cell? ⟨Q365, 3, none⟩ = some (.slice a358 ps.length c359) := HQ360.out.cell 3
        go_wp2_with fail
        refine (HSm3.out wn366 a358 c359 HO361.out.sees HS362.out.bel).mono ?_
        rintro e ws367 ⟨rfl, hb368⟩
        have HS369 : Hid (TlS w id lo hi gen mg mn mu da ao ma dc cap mc ds es ps ws367) := HS362.out.later hb368
        clear hb368 HS362 HQ360 HO361
        clear x0 x1 x2 x3
        clear k0 k1 k2 k3
        go_wp2_with fail
        refine (HFl3.out ws367).mono ?_
        rintro e wf370 ⟨⟨T371, rfl, hz372, ht373⟩, hb374⟩
        have HS375 : Hid (TlS w id lo hi gen mg mn mu da ao ma dc cap mc ds es ps wf370) := HS369.out.later hb374
        have HTzT371 : Hid _ := hz372
        have HTtT371 : Hid _ := ht373
        clear hb374 HS369 hz372 ht373
        go_wp2_with fail
        refine (HDt3.out T371 HTzT371.out wf370 (HT.out.later HS375.out.bel)).mono ?_
        rintro e wg376 ⟨hb377, q378, cc379, rfl, la380, ua381, ta382⟩
        have HS383 : Hid (TlS w id lo hi gen mg mn mu da ao ma dc cap mc ds es ps wg376) := HS375.out.later hb377
        clear hb377 HS375 ta382 HTzT371 HTtT371
        go_wp2
        go_ret
        exact ⟨rfl, HS383.out.bel⟩
      · have HEn3 : Hid (∀ W a c, SeesP W W.heap.size a ps → Below w.heap.size w W → Calls Tryz.prog 20 #[.agg #[.int .i64 mg, .int .i64 mn, .int .u64 mu, .slice a ps.length c]] W fun e w' => e = .returned (.tuple #[.string ⟨#[]⟩, .int .i64 2]) ∧ Below W.heap.size W w') := fun W a c h hb => (encMan_any W mg mn mu a c ps h HWp.out hmu0 (HT.out.later hb)).mono fun e w' ⟨h1, h2, h3⟩ => ⟨h2 hM, h3⟩
        have x0 : wg334.cell? ⟨w.heap.size + 1, 0, none⟩ = some (.int .i64 mg) := HS341.out.m.cell 0
        have x1 : wg334.cell? ⟨w.heap.size + 1, 1, none⟩ = some (.int .i64 mn) := HS341.out.m.cell 1
        have x2 : wg334.cell? ⟨w.heap.size + 1, 2, none⟩ = some (.int .u64 mu) := HS341.out.m.cell 2
        have x3 : wg334.cell? ⟨w.heap.size + 1, 3, none⟩ = some (.slice ma ps.length mc) := HS341.out.m.cell 3
        go_wp2_with fail
        refine (HTm.out wg334 HS341.out).mono ?_
        rintro e wt384 ⟨hb385, v386, rfl, hv387⟩
        obtain ⟨a388, c389, rfl, -, -⟩ := hv387.slice
        have HS390 : Hid (TlS w id lo hi gen mg mn mu da ao ma dc cap mc ds es ps wt384) := HS341.out.later hb385
        have HO391 : Hid (SeesP wt384 wt384.heap.size a388 ps) := hv387.sees
        clear hb385 hv387 HS341
        clear x0 x1 x2 x3
        go_wp2_with fail
        refine (HEn3.out wt384 a388 c389 HO391.out HS390.out.bel).mono ?_
        rintro e we392 ⟨rfl, hb393⟩
        have HS394 : Hid (TlS w id lo hi gen mg mn mu da ao ma dc cap mc ds es ps we392) := HS390.out.later hb393
        clear hb393 HS390 HO391
        go_wp2_with fail
        refine (num_any 2 we392 (by omega) (by omega)).mono ?_
        rintro e wn395 ⟨rfl, rfl⟩
        have hb00 := bytes_beq (⟨#[]⟩ : ByteArray) ⟨#[]⟩
        rw [decide_eq_true rfl] at hb00
        go_wp2
        go_ret
        exact ⟨rfl, HS394.out.bel⟩
    · have HEn2 : Hid (∀ W l t a n' c a' c', SeesE W W.heap.size a' es → Below w.heap.size w W → Calls Tryz.prog 17 #[.agg #[.int .i64 id, .int .u64 l, .int .u64 t, .slice a n' c, .int .i64 gen, .slice a' es.length c']] W fun e w' => e = .returned (.tuple #[.string ⟨#[]⟩, .int .i64 2]) ∧ Below W.heap.size W w') := fun W l t a n' c a' c' h hb => (encDelta_any W id gen l t a a' n' c c' es h HWe.out (HT.out.later hb)).mono fun e w' ⟨h1, h2, h3⟩ => ⟨h2 hE, h3⟩
      have x0 : wn274.cell? ⟨w.heap.size, 0, none⟩ = some (.int .i64 id) := HS273.out.p.cell 0
      have x1 : wn274.cell? ⟨w.heap.size, 1, none⟩ = some (.int .u64 lo) := HS273.out.p.cell 1
      have x2 : wn274.cell? ⟨w.heap.size, 2, none⟩ = some (.int .u64 hi) := HS273.out.p.cell 2
      have x3 : wn274.cell? ⟨w.heap.size, 3, none⟩ = some (.slice da ds.length dc) := HS273.out.p.cell 3
      have x4 : wn274.cell? ⟨w.heap.size, 4, none⟩ = some (.int .i64 gen) := HS273.out.p.cell 4
      have x5 : wn274.cell? ⟨w.heap.size, 5, none⟩ = some (.slice ao es.length cap) := HS273.out.p.cell 5
      go_wp2_with fail
      refine (HTw.out wn274 HS273.out).mono ?_
      rintro e wt396 ⟨hb399, v397, u398, rfl, hv400, hu401⟩
      obtain ⟨a402, c403, rfl, -, -⟩ := hv400.slice
      obtain ⟨b404, d405, rfl, -, -⟩ := hu401.slice
      have HS406 : Hid (TlS w id lo hi gen mg mn mu da ao ma dc cap mc ds es ps wt396) := HS273.out.later hb399
      have HO407 : Hid (SeesE wt396 wt396.heap.size b404 es) := hu401.sees
      clear hb399 hv400 hu401 HS273
      clear x0 x1 x2 x3 x4 x5
      go_wp2_with fail
      refine (HEn2.out wt396 lo hi a402 ds.length c403 b404 d405 HO407.out HS406.out.bel).mono ?_
      rintro e we408 ⟨rfl, hb409⟩
      have HS410 : Hid (TlS w id lo hi gen mg mn mu da ao ma dc cap mc ds es ps we408) := HS406.out.later hb409
      clear hb409 HS406 HO407
      go_wp2_with fail
      refine (num_any 2 we408 (by omega) (by omega)).mono ?_
      rintro e wn411 ⟨rfl, rfl⟩
      by_cases hM : mayM mg mn mu ps
      · obtain ⟨S3, hS3, hlo3, hhi3, hdc3, hdt3⟩ := man_back mg mn mu ps hmu0 hM HWp.out
        have HEn3 : Hid (∀ W a c, SeesP W W.heap.size a ps → Below w.heap.size w W → Calls Tryz.prog 20 #[.agg #[.int .i64 mg, .int .i64 mn, .int .u64 mu, .slice a ps.length c]] W fun e w' => e = .returned (.tuple #[.string S3, .int .i64 0]) ∧ Below W.heap.size W w') := fun W a c h hb => (encMan_any W mg mn mu a c ps h HWp.out hmu0 (HT.out.later hb)).mono fun e w' ⟨h1, h2, h3⟩ => ⟨by rw [hS3]; exact h1 hM, h3⟩
        have HDc3 : Hid _ := hdc3
        have HDt3 : Hid _ := hdt3
        have HFl3 : Hid (∀ W, _) := fun W => flipped_any W S3 n 0 (by omega) (by omega) hn (by omega)
        have hnl3 : ¬ S3.toList = [] := toList_ne hlo3
        have hni3 : S3.toList.isEmpty = false := List.isEmpty_eq_false_iff.2 hnl3
        have hbs3 := bytes_beq S3 S3
        rw [decide_eq_true rfl] at hbs3
        clear hdc3 hdt3 hlo3 hhi3 hS3
        have x0 : wn411.cell? ⟨w.heap.size + 1, 0, none⟩ = some (.int .i64 mg) := HS410.out.m.cell 0
        have x1 : wn411.cell? ⟨w.heap.size + 1, 1, none⟩ = some (.int .i64 mn) := HS410.out.m.cell 1
        have x2 : wn411.cell? ⟨w.heap.size + 1, 2, none⟩ = some (.int .u64 mu) := HS410.out.m.cell 2
        have x3 : wn411.cell? ⟨w.heap.size + 1, 3, none⟩ = some (.slice ma ps.length mc) := HS410.out.m.cell 3
        go_wp2_with fail
        refine (HTm.out wn411 HS410.out).mono ?_
        rintro e wt412 ⟨hb413, v414, rfl, hv415⟩
        obtain ⟨a416, c417, rfl, -, -⟩ := hv415.slice
        have HS418 : Hid (TlS w id lo hi gen mg mn mu da ao ma dc cap mc ds es ps wt412) := HS410.out.later hb413
        have HO419 : Hid (SeesP wt412 wt412.heap.size a416 ps) := hv415.sees
        clear hb413 hv415 HS410
        clear x0 x1 x2 x3
        go_wp2_with fail
        refine (HEn3.out wt412 a416 c417 HO419.out HS418.out.bel).mono ?_
        rintro e we420 ⟨rfl, hb421⟩
        have HS422 : Hid (TlS w id lo hi gen mg mn mu da ao ma dc cap mc ds es ps we420) := HS418.out.later hb421
        clear hb421 HS418 HO419
        go_wp2_with fail
        refine (num_any 0 we420 (by omega) (by omega)).mono ?_
        rintro e wn423 ⟨rfl, rfl⟩
        go_wp2_with fail
        refine (HDc3.out wn423 (HT.out.later HS422.out.bel)).mono ?_
        rintro e wd424 ⟨hb425, v426, rfl, ho427⟩
        obtain ⟨a428, c429, rfl, -, -⟩ := ho427.slice
        have hal433 : Below wd424.heap.size wd424 (wd424.alloc (.cells #[.int .i64 mg, .int .i64 mn, .int .u64 mu, .slice a428 ps.length c429] 29)) := (Below.refl _ _).alloc (Nat.le_refl _) _
        have HQ430 : Hid (Mn4 (wd424.alloc (.cells #[.int .i64 mg, .int .i64 mn, .int .u64 mu, .slice a428 ps.length c429] 29)) wd424.heap.size (.int .i64 mg) (.int .i64 mn) (.int .u64 mu) (.slice a428 ps.length c429)) := heap_alloc_new wd424 _
        have HO431 : Hid (ownP (wd424.alloc (.cells #[.int .i64 mg, .int .i64 mn, .int .u64 mu, .slice a428 ps.length c429] 29)) wn423.heap.size (.slice a428 ps.length c429) ps) := ho427.later hal433
        have HS432 : Hid (TlS w id lo hi gen mg mn mu da ao ma dc cap mc ds es ps (wd424.alloc (.cells #[.int .i64 mg, .int .i64 mn, .int .u64 mu, .slice a428 ps.length c429] 29))) := (HS422.out.later hb425).later hal433
        clear hb425 ho427 hal433 HS422
        go_wp2_with fail
        generalize hyy : wd424.alloc (.cells #[.int .i64 mg, .int .i64 mn, .int .u64 mu, .slice a428 ps.length c429] 29) = y434 at *
        generalize hqq : wd424.heap.size = Q435 at *
        clear hyy hqq
        refine (num_any 0 y434 (by omega) (by omega)).mono ?_
        rintro e wn436 ⟨rfl, rfl⟩
        have x0 : wn436.cell? ⟨w.heap.size + 1, 0, none⟩ = some (.int .i64 mg) := HS432.out.m.cell 0
        have x1 : wn436.cell? ⟨w.heap.size + 1, 1, none⟩ = some (.int .i64 mn) := HS432.out.m.cell 1
        have x2 : wn436.cell? ⟨w.heap.size + 1, 2, none⟩ = some (.int .u64 mu) := HS432.out.m.cell 2
        have x3 : wn436.cell? ⟨w.heap.size + 1, 3, none⟩ = some (.slice ma ps.length mc) := HS432.out.m.cell 3
        have k0 : wn436.cell? ⟨Q435, 0, none⟩ = some (.int .i64 mg) := HQ430.out.cell 0
        have k1 : wn436.cell? ⟨Q435, 1, none⟩ = some (.int .i64 mn) := HQ430.out.cell 1
        have k2 : wn436.cell? ⟨Q435, 2, none⟩ = some (.int .u64 mu) := HQ430.out.cell 2
        have k3 : wn436.cell? ⟨Q435, 3, none⟩ = some (.slice a428 ps.length c429) := HQ430.out.cell 3
        go_wp2_with fail
        refine (HSm3.out wn436 a428 c429 HO431.out.sees HS432.out.bel).mono ?_
        rintro e ws437 ⟨rfl, hb438⟩
        have HS439 : Hid (TlS w id lo hi gen mg mn mu da ao ma dc cap mc ds es ps ws437) := HS432.out.later hb438
        clear hb438 HS432 HQ430 HO431
        clear x0 x1 x2 x3
        clear k0 k1 k2 k3
        go_wp2_with fail
        refine (HFl3.out ws437).mono ?_
        rintro e wf440 ⟨⟨T441, rfl, hz442, ht443⟩, hb444⟩
        have HS445 : Hid (TlS w id lo hi gen mg mn mu da ao ma dc cap mc ds es ps wf440) := HS439.out.later hb444
        have HTzT441 : Hid _ := hz442
        have HTtT441 : Hid _ := ht443
        clear hb444 HS439 hz442 ht443
        go_wp2_with fail
        refine (HDt3.out T441 HTzT441.out wf440 (HT.out.later HS445.out.bel)).mono ?_
        rintro e wg446 ⟨hb447, q448, cc449, rfl, la450, ua451, ta452⟩
        have HS453 : Hid (TlS w id lo hi gen mg mn mu da ao ma dc cap mc ds es ps wg446) := HS445.out.later hb447
        clear hb447 HS445 ta452 HTzT441 HTtT441
        go_wp2
        go_ret
        exact ⟨rfl, HS453.out.bel⟩
      · have HEn3 : Hid (∀ W a c, SeesP W W.heap.size a ps → Below w.heap.size w W → Calls Tryz.prog 20 #[.agg #[.int .i64 mg, .int .i64 mn, .int .u64 mu, .slice a ps.length c]] W fun e w' => e = .returned (.tuple #[.string ⟨#[]⟩, .int .i64 2]) ∧ Below W.heap.size W w') := fun W a c h hb => (encMan_any W mg mn mu a c ps h HWp.out hmu0 (HT.out.later hb)).mono fun e w' ⟨h1, h2, h3⟩ => ⟨h2 hM, h3⟩
        have x0 : wn411.cell? ⟨w.heap.size + 1, 0, none⟩ = some (.int .i64 mg) := HS410.out.m.cell 0
        have x1 : wn411.cell? ⟨w.heap.size + 1, 1, none⟩ = some (.int .i64 mn) := HS410.out.m.cell 1
        have x2 : wn411.cell? ⟨w.heap.size + 1, 2, none⟩ = some (.int .u64 mu) := HS410.out.m.cell 2
        have x3 : wn411.cell? ⟨w.heap.size + 1, 3, none⟩ = some (.slice ma ps.length mc) := HS410.out.m.cell 3
        go_wp2_with fail
        refine (HTm.out wn411 HS410.out).mono ?_
        rintro e wt454 ⟨hb455, v456, rfl, hv457⟩
        obtain ⟨a458, c459, rfl, -, -⟩ := hv457.slice
        have HS460 : Hid (TlS w id lo hi gen mg mn mu da ao ma dc cap mc ds es ps wt454) := HS410.out.later hb455
        have HO461 : Hid (SeesP wt454 wt454.heap.size a458 ps) := hv457.sees
        clear hb455 hv457 HS410
        clear x0 x1 x2 x3
        go_wp2_with fail
        refine (HEn3.out wt454 a458 c459 HO461.out HS460.out.bel).mono ?_
        rintro e we462 ⟨rfl, hb463⟩
        have HS464 : Hid (TlS w id lo hi gen mg mn mu da ao ma dc cap mc ds es ps we462) := HS460.out.later hb463
        clear hb463 HS460 HO461
        go_wp2_with fail
        refine (num_any 2 we462 (by omega) (by omega)).mono ?_
        rintro e wn465 ⟨rfl, rfl⟩
        have hb00 := bytes_beq (⟨#[]⟩ : ByteArray) ⟨#[]⟩
        rw [decide_eq_true rfl] at hb00
        go_wp2
        go_ret
        exact ⟨rfl, HS464.out.bel⟩
end Go.Proofs.YtbfjnidpjmhfiaaGreatDoor

namespace Go.Proofs.YtbfjnidpjmhfiaaGreatDoor
open Go.ChangeShapes Go.WideShapes Go.ChangeAt Go.RowKit
set_option linter.unusedVariables false
set_option maxRecDepth 100000
set_option maxHeartbeats 51200000 in
theorem tells_TeD (w : World) (id lo hi gen mg mn mu : Int) (da ao ma : Option Addr) (dc cap mc : Nat) (ds : List DT) (es : List ER) (ps : List PN) (n x : Nat) (hlo0 : 0 ≤ lo) (hmu0 : 0 ≤ mu)
    (hd : SeesT w w.heap.size da ds) (hdc : da = none → ds = [] ∧ dc = 0) (hda : ∀ ad, da = some ad → ds ≠ [] → ∃ b off, ad = ⟨b, off, none⟩) (hdl : ds.length * 40 ≤ 140737488355328) (hwd : ∀ p ∈ ds, p.wf)
    (he : SeesE w w.heap.size ao es) (hcap : ao = none → es = [] ∧ cap = 0) (hao : ∀ ad, ao = some ad → es ≠ [] → ∃ b off, ad = ⟨b, off, none⟩) (hl : es.length * 32 ≤ 140737488355328) (hwe : ∀ p ∈ es, p.wf)
    (hp : SeesP w w.heap.size ma ps) (hmc : ma = none → ps = [] ∧ mc = 0) (hma : ∀ ad, ma = some ad → ps ≠ [] → ∃ b off, ad = ⟨b, off, none⟩) (hpl : ps.length * 56 ≤ 140737488355328) (hwp : ∀ p ∈ ps, p.wf)
    (hn : n ≤ 18446744073709551615) (hx : x < 256) (hx0 : x ≠ 0)  (hT0 : HalfAt w) :
    Calls Tryz.prog 5 #[.agg #[.int .i64 id, .int .u64 lo, .int .u64 hi, .slice da ds.length dc, .int .i64 gen, .slice ao es.length cap], .agg #[.int .i64 mg, .int .i64 mn, .int .u64 mu, .slice ma ps.length mc], .int .u64 (n : Int), .int .u8 (x : Int), .bool false] w fun e w' => e = .returned (.bool true) ∧ Below w.heap.size w w' := by
  have HT : Hid (HalfAt w) := hT0
  have HWd : Hid (∀ p ∈ ds, p.wf) := hwd
  have HWe : Hid (∀ p ∈ es, p.wf) := hwe
  have HWp : Hid (∀ p ∈ ps, p.wf) := hwp
  have HTw : Hid (∀ W, TlS w id lo hi gen mg mn mu da ao ma dc cap mc ds es ps W → Calls Tryz.prog 6 #[.agg #[.int .i64 id, .int .u64 lo, .int .u64 hi, .slice da ds.length dc, .int .i64 gen, .slice ao es.length cap]] W (TwD W id lo hi gen ds es)) := fun W h => twin_any W id lo hi gen da ao dc cap ds es (hd.more h.bel) hdc hda hdl (he.more h.bel) hcap hao hl
  have HTm : Hid (∀ W, TlS w id lo hi gen mg mn mu da ao ma dc cap mc ds es ps W → Calls Tryz.prog 21 #[.agg #[.int .i64 mg, .int .i64 mn, .int .u64 mu, .slice ma ps.length mc]] W (TwM W mg mn mu ps)) := fun W h => twinM_any W mg mn mu ma mc ps (hp.moreT h.bel) hmc hma hpl
  have HTq1 : Hid (∀ W a c B, ownT W B (.slice a ds.length c) ds → Calls Tryz.prog 6 #[.agg #[.int .i64 id, .int .u64 lo, .int .u64 hi, .slice a ds.length c, .int .i64 0, .slice none 0 0]] W (TwD W id lo hi 0 ds [])) := fun W a c B h => by
    obtain ⟨a1, q1, e1, hn1, hs1⟩ := h.slice
    injection e1 with i1 i2 i3
    subst i1 i3
    exact twin_any W id lo hi 0 a none c 0 ds [] h.sees hn1 (fun ad e _ => by obtain ⟨b', e5, _⟩ := hs1 ad e; exact ⟨b', 0, e5⟩) hdl (fun i hi => absurd hi (by simp)) (fun _ => ⟨rfl, rfl⟩) (fun ad e => by cases e) (by simp)
  have HTq2 : Hid (∀ W a c B, ownE W B (.slice a es.length c) es → Calls Tryz.prog 6 #[.agg #[.int .i64 id, .int .u64 0, .int .u64 0, .slice none 0 0, .int .i64 gen, .slice a es.length c]] W (TwD W id 0 0 gen [] es)) := fun W a c B h => by
    obtain ⟨a1, q1, e1, hn1, hs1⟩ := h.slice
    injection e1 with i1 i2 i3
    subst i1 i3
    exact twin_any W id 0 0 gen none a 0 c [] es (fun i hi => absurd hi (by simp)) (fun _ => ⟨rfl, rfl⟩) (fun ad e => by cases e) (by simp) h.sees hn1 (fun ad e _ => by obtain ⟨b', e5, _⟩ := hs1 ad e; exact ⟨b', 0, e5⟩) hl
  have HSm1 : Hid (∀ W a c, SeesT W W.heap.size a ds → Below w.heap.size w W → Calls Tryz.prog 15 #[.slice a ds.length c, .slice da ds.length dc] W fun e w' => e = .returned (.bool true) ∧ Below W.heap.size W w') := fun W a c h hb => sameData_eq W a da c dc ds h (hd.more hb) (by omega)
  have HSm2 : Hid (∀ W a c, SeesE W W.heap.size a es → Below w.heap.size w W → Calls Tryz.prog 19 #[.slice a es.length c, .slice ao es.length cap] W fun e w' => e = .returned (.bool true) ∧ Below W.heap.size W w') := fun W a c h hb => sameGone_eq W a ao c cap es h (he.more hb) (by omega)
  have HSm3 : Hid (∀ W a c, SeesP W W.heap.size a ps → Below w.heap.size w W → Calls Tryz.prog 23 #[.agg #[.int .i64 mg, .int .i64 mn, .int .u64 mu, .slice a ps.length c], .agg #[.int .i64 mg, .int .i64 mn, .int .u64 mu, .slice ma ps.length mc]] W fun e w' => e = .returned (.bool true) ∧ Below W.heap.size W w') := fun W a c h hb => sameM_eq W mg mn mu a ma c mc ps h (hp.moreT hb) (by omega)
  have HS0 : Hid (TlS w id lo hi gen mg mn mu da ao ma dc cap mc ds es ps ((w.alloc (.cells #[.int .i64 id, .int .u64 lo, .int .u64 hi, .slice da ds.length dc, .int .i64 gen, .slice ao es.length cap] 26)).alloc (.cells #[.int .i64 mg, .int .i64 mn, .int .u64 mu, .slice ma ps.length mc] 29))) := by
    refine ⟨((Below.refl _ _).alloc (Nat.le_refl _) _).alloc (by simp) _, (Below.heap_alloc _ _ _ (by simp)).trans (heap_alloc_new w _), ?_⟩
    have := heap_alloc_new (w.alloc (.cells #[.int .i64 id, .int .u64 lo, .int .u64 hi, .slice da ds.length dc, .int .i64 gen, .slice ao es.length cap] 26)) (.cells #[.int .i64 mg, .int .i64 mn, .int .u64 mu, .slice ma ps.length mc] 29)
    rw [show (w.alloc (.cells #[.int .i64 id, .int .u64 lo, .int .u64 hi, .slice da ds.length dc, .int .i64 gen, .slice ao es.length cap] 26)).heap.size = w.heap.size + 1 from by simp] at this
    exact this
  clear hT0 hd hdc hda he hcap hao hp hmc hma hwd hwe hwp
  have hxi : (x : Int) ≠ 0 := by omega
  have hxb : ((x : Int) != 0) = true := by rw [bne_iff_ne]; exact hxi
  go_enter Tryz.func5, Tryz.ntmps5
  have hstart : True := trivial
  go_wp2_with fail
  generalize (w.alloc (.cells #[.int .i64 id, .int .u64 lo, .int .u64 hi, .slice da ds.length dc, .int .i64 gen, .slice ao es.length cap] 26)).alloc (.cells #[.int .i64 mg, .int .i64 mn, .int .u64 mu, .slice ma ps.length mc] 29) = W0 at *
  by_cases hD : mayA id lo hi ds
  · obtain ⟨S1, hS1, hlo1, hhi1, hdc1, hdt1⟩ := data_back id lo hi ds hlo0 hD HWd.out
    have HEn1 : Hid (∀ W g a c a' n' c', SeesT W W.heap.size a ds → Below w.heap.size w W → Calls Tryz.prog 7 #[.agg #[.int .i64 id, .int .u64 lo, .int .u64 hi, .slice a ds.length c, .int .i64 g, .slice a' n' c']] W fun e w' => e = .returned (.tuple #[.string S1, .int .i64 0]) ∧ Below W.heap.size W w') := fun W g a c a' n' c' h hb => (encData_any W id g lo hi a a' n' c c' ds hlo0 h HWd.out (HT.out.later hb)).mono fun e w' ⟨h1, h2, h3⟩ => ⟨by rw [hS1]; exact h1 hD, h3⟩
    have HDc1 : Hid _ := hdc1
    have HDt1 : Hid _ := hdt1
    have HFl1 : Hid (∀ W, _) := fun W => flipped_any W S1 n x (by omega) (by omega) hn hx
    have hnl1 : ¬ S1.toList = [] := toList_ne hlo1
    have hni1 : S1.toList.isEmpty = false := List.isEmpty_eq_false_iff.2 hnl1
    have hbs1 := bytes_beq S1 S1
    rw [decide_eq_true rfl] at hbs1
    clear hdc1 hdt1 hlo1 hhi1 hS1
    refine (HTw.out W0 HS0.out).mono ?_
    rintro e wt1 ⟨hb4, v2, u3, rfl, hv5, hu6⟩
    obtain ⟨a7, c8, rfl, -, -⟩ := hv5.slice
    obtain ⟨b9, d10, rfl, -, -⟩ := hu6.slice
    have HS11 : Hid (TlS w id lo hi gen mg mn mu da ao ma dc cap mc ds es ps wt1) := HS0.out.later hb4
    have HO12 : Hid (SeesT wt1 wt1.heap.size a7 ds) := hv5.sees
    clear hb4 hv5 hu6 HS0
    go_wp2_with fail
    refine (HEn1.out wt1 gen a7 c8 b9 es.length d10 HO12.out HS11.out.bel).mono ?_
    rintro e we13 ⟨rfl, hb14⟩
    have HS15 : Hid (TlS w id lo hi gen mg mn mu da ao ma dc cap mc ds es ps we13) := HS11.out.later hb14
    clear hb14 HS11 HO12
    go_wp2_with fail
    refine (num_any 0 we13 (by omega) (by omega)).mono ?_
    rintro e wn16 ⟨rfl, rfl⟩
    go_wp2_with fail
    refine (HDc1.out wn16 (HT.out.later HS15.out.bel)).mono ?_
    rintro e wd17 ⟨hb18, v19, rfl, ho20⟩
    obtain ⟨a21, c22, rfl, -, -⟩ := ho20.slice
    have hal26 : Below wd17.heap.size wd17 (wd17.alloc (.cells #[.int .i64 id, .int .u64 lo, .int .u64 hi, .slice a21 ds.length c22, .int .i64 0, .slice none 0 0] 26)) := (Below.refl _ _).alloc (Nat.le_refl _) _
    have HQ23 : Hid (Fp6 (wd17.alloc (.cells #[.int .i64 id, .int .u64 lo, .int .u64 hi, .slice a21 ds.length c22, .int .i64 0, .slice none 0 0] 26)) wd17.heap.size (.int .i64 id) (.int .u64 lo) (.int .u64 hi) (.slice a21 ds.length c22) (.int .i64 0) (.slice none 0 0)) := heap_alloc_new wd17 _
    have HO24 : Hid (ownT (wd17.alloc (.cells #[.int .i64 id, .int .u64 lo, .int .u64 hi, .slice a21 ds.length c22, .int .i64 0, .slice none 0 0] 26)) wn16.heap.size (.slice a21 ds.length c22) ds) := ho20.later hal26
    have HS25 : Hid (TlS w id lo hi gen mg mn mu da ao ma dc cap mc ds es ps (wd17.alloc (.cells #[.int .i64 id, .int .u64 lo, .int .u64 hi, .slice a21 ds.length c22, .int .i64 0, .slice none 0 0] 26))) := (HS15.out.later hb18).later hal26
    clear hb18 ho20 hal26 HS15
    go_wp2_with fail
    generalize hyy : wd17.alloc (.cells #[.int .i64 id, .int .u64 lo, .int .u64 hi, .slice a21 ds.length c22, .int .i64 0, .slice none 0 0] 26) = y27 at *
    generalize hqq : wd17.heap.size = Q28 at *
    clear hyy hqq
    refine (HTq1.out y27 a21 c22 wn16.heap.size HO24.out).mono ?_
    rintro e wt29 ⟨hb30, v31, u32, rfl, hv33, hu34⟩
    obtain ⟨a35, c36, rfl, -, -⟩ := hv33.slice
    obtain ⟨b37, d38, rfl, -, -⟩ := hu34.slice
    have HS39 : Hid (TlS w id lo hi gen mg mn mu da ao ma dc cap mc ds es ps wt29) := HS25.out.later hb30
    have HQ40 : Hid (Fp6 wt29 Q28 (.int .i64 id) (.int .u64 lo) (.int .u64 hi) (.slice a21 ds.length c22) (.int .i64 0) (.slice none 0 0)) := HQ23.out.later hb30 HQ23.out.lt
    have HO41 : Hid (ownT wt29 wn16.heap.size (.slice a21 ds.length c22) ds) := HO24.out.later hb30
    have HX42 : Hid (SeesT wt29 wt29.heap.size a35 ds) := hv33.sees
    clear hb30 hv33 hu34 HQ23 HO24 HS25
    go_wp2_with fail
    refine (HEn1.out wt29 0 a35 c36 b37 0 d38 HX42.out HS39.out.bel).mono ?_
    rintro e we43 ⟨rfl, hb44⟩
    have HS45 : Hid (TlS w id lo hi gen mg mn mu da ao ma dc cap mc ds es ps we43) := HS39.out.later hb44
    have HQ46 : Hid (Fp6 we43 Q28 (.int .i64 id) (.int .u64 lo) (.int .u64 hi) (.slice a21 ds.length c22) (.int .i64 0) (.slice none 0 0)) := HQ40.out.later hb44 HQ40.out.lt
    have HO47 : Hid (ownT we43 wn16.heap.size (.slice a21 ds.length c22) ds) := HO41.out.later hb44
    clear hb44 HQ40 HO41 HS39 HX42
    go_wp2_with fail
    refine (num_any 0 we43 (by omega) (by omega)).mono ?_
    rintro e wn48 ⟨rfl, rfl⟩
    go_wp2_with fail
    refine (num_any 0 wn48 (by omega) (by omega)).mono ?_
    rintro e wn49 ⟨rfl, rfl⟩
    have x0 : wn49.cell? ⟨w.heap.size, 0, none⟩ = some (.int .i64 id) := HS45.out.p.cell 0
    have x1 : wn49.cell? ⟨w.heap.size, 1, none⟩ = some (.int .u64 lo) := HS45.out.p.cell 1
    have x2 : wn49.cell? ⟨w.heap.size, 2, none⟩ = some (.int .u64 hi) := HS45.out.p.cell 2
    have x3 : wn49.cell? ⟨w.heap.size, 3, none⟩ = some (.slice da ds.length dc) := HS45.out.p.cell 3
    have x4 : wn49.cell? ⟨w.heap.size, 4, none⟩ = some (.int .i64 gen) := HS45.out.p.cell 4
    have x5 : wn49.cell? ⟨w.heap.size, 5, none⟩ = some (.slice ao es.length cap) := HS45.out.p.cell 5
    have k0 : wn49.cell? ⟨Q28, 0, none⟩ = some (.int .i64 id) := HQ46.out.cell 0
    have k1 : wn49.cell? ⟨Q28, 1, none⟩ = some (.int .u64 lo) := HQ46.out.cell 1
    have k2 : wn49.cell? ⟨Q28, 2, none⟩ = some (.int .u64 hi) := HQ46.out.cell 2
    have k3 : wn49.cell? ⟨Q28, 3, none⟩ = some (.slice a21 ds.length c22) := HQ46.out.cell 3
    have k4 : wn49.cell? ⟨Q28, 4, none⟩ = some (.int .i64 0) := HQ46.out.cell 4
    have k5 : wn49.cell? ⟨Q28, 5, none⟩ = some (.slice none 0 0) := HQ46.out.cell 5
    go_wp2_with fail
    refine (HSm1.out wn49 a21 c22 HO47.out.sees HS45.out.bel).mono ?_
    rintro e ws50 ⟨rfl, hb51⟩
    have HS52 : Hid (TlS w id lo hi gen mg mn mu da ao ma dc cap mc ds es ps ws50) := HS45.out.later hb51
    have HQ53 : Hid (Fp6 ws50 Q28 (.int .i64 id) (.int .u64 lo) (.int .u64 hi) (.slice a21 ds.length c22) (.int .i64 0) (.slice none 0 0)) := HQ46.out.later hb51 HQ46.out.lt
    clear hb51 HS45 HQ46 HO47
    clear x0 x1 x2 x3 x4 x5
    clear k0 k1 k2 k3 k4 k5
    have k0 : ws50.cell? ⟨Q28, 0, none⟩ = some (.int .i64 id) := HQ53.out.cell 0
    have k1 : ws50.cell? ⟨Q28, 1, none⟩ = some (.int .u64 lo) := HQ53.out.cell 1
    have k2 : ws50.cell? ⟨Q28, 2, none⟩ = some (.int .u64 hi) := HQ53.out.cell 2
    have k3 : ws50.cell? ⟨Q28, 3, none⟩ = some (.slice a21 ds.length c22) := HQ53.out.cell 3
    have k4 : ws50.cell? ⟨Q28, 4, none⟩ = some (.int .i64 0) := HQ53.out.cell 4
    have k5 : ws50.cell? ⟨Q28, 5, none⟩ = some (.slice none 0 0) := HQ53.out.cell 5
    go_wp2_with fail
    refine (HFl1.out ws50).mono ?_
    rintro e wf54 ⟨⟨T55, rfl, hz56, ht57⟩, hb58⟩
    have HS59 : Hid (TlS w id lo hi gen mg mn mu da ao ma dc cap mc ds es ps wf54) := HS52.out.later hb58
    have HTzT55 : Hid _ := hz56
    have HTtT55 : Hid _ := ht57
    clear hb58 HS52 HQ53 hz56 ht57
    clear k0 k1 k2 k3 k4 k5
    go_wp2_with fail
    refine (HDt1.out T55 HTzT55.out wf54 (HT.out.later HS59.out.bel)).mono ?_
    rintro e wg60 ⟨hb61, q62, cc63, rfl, la64, ua65, ta66⟩
    have HS67 : Hid (TlS w id lo hi gen mg mn mu da ao ma dc cap mc ds es ps wg60) := HS59.out.later hb61
    have hnecc63 : cc63 ≠ 0 := ta66 (HTtT55.out hx0)
    have hnbcc63 : (cc63 == 0) = false := beq_eq_false_iff_ne.2 hnecc63
    have hnccc63 : (cc63 != 0) = true := by rw [bne_iff_ne]; exact hnecc63
    clear hb61 HS59 ta66 HTzT55 HTtT55
    go_wp2_with fail
    refine (num_any cc63 wg60 la64 ua65).mono ?_
    rintro e wn68 ⟨rfl, rfl⟩
    by_cases hE : mayD id gen es
    · obtain ⟨S2, hS2, hlo2, hhi2, hdc2, hdt2⟩ := delta_back id gen es hE HWe.out
      have HEn2 : Hid (∀ W l t a n' c a' c', SeesE W W.heap.size a' es → Below w.heap.size w W → Calls Tryz.prog 17 #[.agg #[.int .i64 id, .int .u64 l, .int .u64 t, .slice a n' c, .int .i64 gen, .slice a' es.length c']] W fun e w' => e = .returned (.tuple #[.string S2, .int .i64 0]) ∧ Below W.heap.size W w') := fun W l t a n' c a' c' h hb => (encDelta_any W id gen l t a a' n' c c' es h HWe.out (HT.out.later hb)).mono fun e w' ⟨h1, h2, h3⟩ => ⟨by rw [hS2]; exact h1 hE, h3⟩
      have HDc2 : Hid _ := hdc2
      have HDt2 : Hid _ := hdt2
      have HFl2 : Hid (∀ W, _) := fun W => flipped_any W S2 n x (by omega) (by omega) hn hx
      have hnl2 : ¬ S2.toList = [] := toList_ne hlo2
      have hni2 : S2.toList.isEmpty = false := List.isEmpty_eq_false_iff.2 hnl2
      have hbs2 := bytes_beq S2 S2
      rw [decide_eq_true rfl] at hbs2
      clear hdc2 hdt2 hlo2 hhi2 hS2
      have x0 : wn68.cell? ⟨w.heap.size, 0, none⟩ = some (.int .i64 id) := HS67.out.p.cell 0
      have x1 : wn68.cell? ⟨w.heap.size, 1, none⟩ = some (.int .u64 lo) := HS67.out.p.cell 1
      have x2 : wn68.cell? ⟨w.heap.size, 2, none⟩ = some (.int .u64 hi) := HS67.out.p.cell 2
      have x3 : wn68.cell? ⟨w.heap.size, 3, none⟩ = some (.slice da ds.length dc) := HS67.out.p.cell 3
      have x4 : wn68.cell? ⟨w.heap.size, 4, none⟩ = some (.int .i64 gen) := HS67.out.p.cell 4
      have x5 : wn68.cell? ⟨w.heap.size, 5, none⟩ = some (.slice ao es.length cap) := HS67.out.p.cell 5
      go_wp2_with fail
      refine (HTw.out wn68 HS67.out).mono ?_
      rintro e wt69 ⟨hb72, v70, u71, rfl, hv73, hu74⟩
      obtain ⟨a75, c76, rfl, -, -⟩ := hv73.slice
      obtain ⟨b77, d78, rfl, -, -⟩ := hu74.slice
      have HS79 : Hid (TlS w id lo hi gen mg mn mu da ao ma dc cap mc ds es ps wt69) := HS67.out.later hb72
      have HO80 : Hid (SeesE wt69 wt69.heap.size b77 es) := hu74.sees
      clear hb72 hv73 hu74 HS67
      clear x0 x1 x2 x3 x4 x5
      go_wp2_with fail
      refine (HEn2.out wt69 lo hi a75 ds.length c76 b77 d78 HO80.out HS79.out.bel).mono ?_
      rintro e we81 ⟨rfl, hb82⟩
      have HS83 : Hid (TlS w id lo hi gen mg mn mu da ao ma dc cap mc ds es ps we81) := HS79.out.later hb82
      clear hb82 HS79 HO80
      go_wp2_with fail
      refine (num_any 0 we81 (by omega) (by omega)).mono ?_
      rintro e wn84 ⟨rfl, rfl⟩
      go_wp2_with fail
      refine (HDc2.out wn84 (HT.out.later HS83.out.bel)).mono ?_
      rintro e wd85 ⟨hb86, v87, rfl, ho88⟩
      obtain ⟨a89, c90, rfl, -, -⟩ := ho88.slice
      have hal94 : Below wd85.heap.size wd85 (wd85.alloc (.cells #[.int .i64 id, .int .u64 0, .int .u64 0, .slice none 0 0, .int .i64 gen, .slice a89 es.length c90] 26)) := (Below.refl _ _).alloc (Nat.le_refl _) _
      have HQ91 : Hid (Fp6 (wd85.alloc (.cells #[.int .i64 id, .int .u64 0, .int .u64 0, .slice none 0 0, .int .i64 gen, .slice a89 es.length c90] 26)) wd85.heap.size (.int .i64 id) (.int .u64 0) (.int .u64 0) (.slice none 0 0) (.int .i64 gen) (.slice a89 es.length c90)) := heap_alloc_new wd85 _
      have HO92 : Hid (ownE (wd85.alloc (.cells #[.int .i64 id, .int .u64 0, .int .u64 0, .slice none 0 0, .int .i64 gen, .slice a89 es.length c90] 26)) wn84.heap.size (.slice a89 es.length c90) es) := ho88.later hal94
      have HS93 : Hid (TlS w id lo hi gen mg mn mu da ao ma dc cap mc ds es ps (wd85.alloc (.cells #[.int .i64 id, .int .u64 0, .int .u64 0, .slice none 0 0, .int .i64 gen, .slice a89 es.length c90] 26))) := (HS83.out.later hb86).later hal94
      clear hb86 ho88 hal94 HS83
      go_wp2_with fail
      generalize hyy : wd85.alloc (.cells #[.int .i64 id, .int .u64 0, .int .u64 0, .slice none 0 0, .int .i64 gen, .slice a89 es.length c90] 26) = y95 at *
      generalize hqq : wd85.heap.size = Q96 at *
      clear hyy hqq
      refine (HTq2.out y95 a89 c90 wn84.heap.size HO92.out).mono ?_
      rintro e wt97 ⟨hb98, v99, u100, rfl, hv101, hu102⟩
      obtain ⟨a103, c104, rfl, -, -⟩ := hv101.slice
      obtain ⟨b105, d106, rfl, -, -⟩ := hu102.slice
      have HS107 : Hid (TlS w id lo hi gen mg mn mu da ao ma dc cap mc ds es ps wt97) := HS93.out.later hb98
      have HQ108 : Hid (Fp6 wt97 Q96 (.int .i64 id) (.int .u64 0) (.int .u64 0) (.slice none 0 0) (.int .i64 gen) (.slice a89 es.length c90)) := HQ91.out.later hb98 HQ91.out.lt
      have HO109 : Hid (ownE wt97 wn84.heap.size (.slice a89 es.length c90) es) := HO92.out.later hb98
      have HX110 : Hid (SeesE wt97 wt97.heap.size b105 es) := hu102.sees
      clear hb98 hv101 hu102 HQ91 HO92 HS93
      go_wp2_with fail
      refine (HEn2.out wt97 0 0 a103 0 c104 b105 d106 HX110.out HS107.out.bel).mono ?_
      rintro e we111 ⟨rfl, hb112⟩
      have HS113 : Hid (TlS w id lo hi gen mg mn mu da ao ma dc cap mc ds es ps we111) := HS107.out.later hb112
      have HQ114 : Hid (Fp6 we111 Q96 (.int .i64 id) (.int .u64 0) (.int .u64 0) (.slice none 0 0) (.int .i64 gen) (.slice a89 es.length c90)) := HQ108.out.later hb112 HQ108.out.lt
      have HO115 : Hid (ownE we111 wn84.heap.size (.slice a89 es.length c90) es) := HO109.out.later hb112
      clear hb112 HQ108 HO109 HS107 HX110
      go_wp2_with fail
      refine (num_any 0 we111 (by omega) (by omega)).mono ?_
      rintro e wn116 ⟨rfl, rfl⟩
      go_wp2_with fail
      refine (num_any 0 wn116 (by omega) (by omega)).mono ?_
      rintro e wn117 ⟨rfl, rfl⟩
      have x0 : wn117.cell? ⟨w.heap.size, 0, none⟩ = some (.int .i64 id) := HS113.out.p.cell 0
      have x1 : wn117.cell? ⟨w.heap.size, 1, none⟩ = some (.int .u64 lo) := HS113.out.p.cell 1
      have x2 : wn117.cell? ⟨w.heap.size, 2, none⟩ = some (.int .u64 hi) := HS113.out.p.cell 2
      have x3 : wn117.cell? ⟨w.heap.size, 3, none⟩ = some (.slice da ds.length dc) := HS113.out.p.cell 3
      have x4 : wn117.cell? ⟨w.heap.size, 4, none⟩ = some (.int .i64 gen) := HS113.out.p.cell 4
      have x5 : wn117.cell? ⟨w.heap.size, 5, none⟩ = some (.slice ao es.length cap) := HS113.out.p.cell 5
      have k0 : wn117.cell? ⟨Q96, 0, none⟩ = some (.int .i64 id) := HQ114.out.cell 0
      have k1 : wn117.cell? ⟨Q96, 1, none⟩ = some (.int .u64 0) := HQ114.out.cell 1
      have k2 : wn117.cell? ⟨Q96, 2, none⟩ = some (.int .u64 0) := HQ114.out.cell 2
      have k3 : wn117.cell? ⟨Q96, 3, none⟩ = some (.slice none 0 0) := HQ114.out.cell 3
      have k4 : wn117.cell? ⟨Q96, 4, none⟩ = some (.int .i64 gen) := HQ114.out.cell 4
      have k5 : wn117.cell? ⟨Q96, 5, none⟩ = some (.slice a89 es.length c90) := HQ114.out.cell 5
      go_wp2_with fail
      refine (HSm2.out wn117 a89 c90 HO115.out.sees HS113.out.bel).mono ?_
      rintro e ws118 ⟨rfl, hb119⟩
      have HS120 : Hid (TlS w id lo hi gen mg mn mu da ao ma dc cap mc ds es ps ws118) := HS113.out.later hb119
      have HQ121 : Hid (Fp6 ws118 Q96 (.int .i64 id) (.int .u64 0) (.int .u64 0) (.slice none 0 0) (.int .i64 gen) (.slice a89 es.length c90)) := HQ114.out.later hb119 HQ114.out.lt
      clear hb119 HS113 HQ114 HO115
      clear x0 x1 x2 x3 x4 x5
      clear k0 k1 k2 k3 k4 k5
      have k0 : ws118.cell? ⟨Q96, 0, none⟩ = some (.int .i64 id) := HQ121.out.cell 0
      have k1 : ws118.cell? ⟨Q96, 1, none⟩ = some (.int .u64 0) := HQ121.out.cell 1
      have k2 : ws118.cell? ⟨Q96, 2, none⟩ = some (.int .u64 0) := HQ121.out.cell 2
      have k3 : ws118.cell? ⟨Q96, 3, none⟩ = some (.slice none 0 0) := HQ121.out.cell 3
      have k4 : ws118.cell? ⟨Q96, 4, none⟩ = some (.int .i64 gen) := HQ121.out.cell 4
      have k5 : ws118.cell? ⟨Q96, 5, none⟩ = some (.slice a89 es.length c90) := HQ121.out.cell 5
      go_wp2_with fail
      refine (HFl2.out ws118).mono ?_
      rintro e wf122 ⟨⟨T123, rfl, hz124, ht125⟩, hb126⟩
      have HS127 : Hid (TlS w id lo hi gen mg mn mu da ao ma dc cap mc ds es ps wf122) := HS120.out.later hb126
      have HTzT123 : Hid _ := hz124
      have HTtT123 : Hid _ := ht125
      clear hb126 HS120 HQ121 hz124 ht125
      clear k0 k1 k2 k3 k4 k5
      go_wp2_with fail
      refine (HDt2.out T123 HTzT123.out wf122 (HT.out.later HS127.out.bel)).mono ?_
      rintro e wg128 ⟨hb129, q130, cc131, rfl, la132, ua133, ta134⟩
      have HS135 : Hid (TlS w id lo hi gen mg mn mu da ao ma dc cap mc ds es ps wg128) := HS127.out.later hb129
      have hnecc131 : cc131 ≠ 0 := ta134 (HTtT123.out hx0)
      have hnbcc131 : (cc131 == 0) = false := beq_eq_false_iff_ne.2 hnecc131
      have hnccc131 : (cc131 != 0) = true := by rw [bne_iff_ne]; exact hnecc131
      clear hb129 HS127 ta134 HTzT123 HTtT123
      go_wp2_with fail
      refine (num_any cc131 wg128 la132 ua133).mono ?_
      rintro e wn136 ⟨rfl, rfl⟩
      by_cases hM : mayM mg mn mu ps
      · obtain ⟨S3, hS3, hlo3, hhi3, hdc3, hdt3⟩ := man_back mg mn mu ps hmu0 hM HWp.out
        have HEn3 : Hid (∀ W a c, SeesP W W.heap.size a ps → Below w.heap.size w W → Calls Tryz.prog 20 #[.agg #[.int .i64 mg, .int .i64 mn, .int .u64 mu, .slice a ps.length c]] W fun e w' => e = .returned (.tuple #[.string S3, .int .i64 0]) ∧ Below W.heap.size W w') := fun W a c h hb => (encMan_any W mg mn mu a c ps h HWp.out hmu0 (HT.out.later hb)).mono fun e w' ⟨h1, h2, h3⟩ => ⟨by rw [hS3]; exact h1 hM, h3⟩
        have HDc3 : Hid _ := hdc3
        have HDt3 : Hid _ := hdt3
        have HFl3 : Hid (∀ W, _) := fun W => flipped_any W S3 n x (by omega) (by omega) hn hx
        have hnl3 : ¬ S3.toList = [] := toList_ne hlo3
        have hni3 : S3.toList.isEmpty = false := List.isEmpty_eq_false_iff.2 hnl3
        have hbs3 := bytes_beq S3 S3
        rw [decide_eq_true rfl] at hbs3
        clear hdc3 hdt3 hlo3 hhi3 hS3
        have x0 : wn136.cell? ⟨w.heap.size + 1, 0, none⟩ = some (.int .i64 mg) := HS135.out.m.cell 0
        have x1 : wn136.cell? ⟨w.heap.size + 1, 1, none⟩ = some (.int .i64 mn) := HS135.out.m.cell 1
        have x2 : wn136.cell? ⟨w.heap.size + 1, 2, none⟩ = some (.int .u64 mu) := HS135.out.m.cell 2
        have x3 : wn136.cell? ⟨w.heap.size + 1, 3, none⟩ = some (.slice ma ps.length mc) := HS135.out.m.cell 3
        go_wp2_with fail
        refine (HTm.out wn136 HS135.out).mono ?_
        rintro e wt137 ⟨hb138, v139, rfl, hv140⟩
        obtain ⟨a141, c142, rfl, -, -⟩ := hv140.slice
        have HS143 : Hid (TlS w id lo hi gen mg mn mu da ao ma dc cap mc ds es ps wt137) := HS135.out.later hb138
        have HO144 : Hid (SeesP wt137 wt137.heap.size a141 ps) := hv140.sees
        clear hb138 hv140 HS135
        clear x0 x1 x2 x3
        go_wp2_with fail
        refine (HEn3.out wt137 a141 c142 HO144.out HS143.out.bel).mono ?_
        rintro e we145 ⟨rfl, hb146⟩
        have HS147 : Hid (TlS w id lo hi gen mg mn mu da ao ma dc cap mc ds es ps we145) := HS143.out.later hb146
        clear hb146 HS143 HO144
        go_wp2_with fail
        refine (num_any 0 we145 (by omega) (by omega)).mono ?_
        rintro e wn148 ⟨rfl, rfl⟩
        go_wp2_with fail
        refine (HDc3.out wn148 (HT.out.later HS147.out.bel)).mono ?_
        rintro e wd149 ⟨hb150, v151, rfl, ho152⟩
        obtain ⟨a153, c154, rfl, -, -⟩ := ho152.slice
        have hal158 : Below wd149.heap.size wd149 (wd149.alloc (.cells #[.int .i64 mg, .int .i64 mn, .int .u64 mu, .slice a153 ps.length c154] 29)) := (Below.refl _ _).alloc (Nat.le_refl _) _
        have HQ155 : Hid (Mn4 (wd149.alloc (.cells #[.int .i64 mg, .int .i64 mn, .int .u64 mu, .slice a153 ps.length c154] 29)) wd149.heap.size (.int .i64 mg) (.int .i64 mn) (.int .u64 mu) (.slice a153 ps.length c154)) := heap_alloc_new wd149 _
        have HO156 : Hid (ownP (wd149.alloc (.cells #[.int .i64 mg, .int .i64 mn, .int .u64 mu, .slice a153 ps.length c154] 29)) wn148.heap.size (.slice a153 ps.length c154) ps) := ho152.later hal158
        have HS157 : Hid (TlS w id lo hi gen mg mn mu da ao ma dc cap mc ds es ps (wd149.alloc (.cells #[.int .i64 mg, .int .i64 mn, .int .u64 mu, .slice a153 ps.length c154] 29))) := (HS147.out.later hb150).later hal158
        clear hb150 ho152 hal158 HS147
        go_wp2_with fail
        generalize hyy : wd149.alloc (.cells #[.int .i64 mg, .int .i64 mn, .int .u64 mu, .slice a153 ps.length c154] 29) = y159 at *
        generalize hqq : wd149.heap.size = Q160 at *
        clear hyy hqq
        refine (num_any 0 y159 (by omega) (by omega)).mono ?_
        rintro e wn161 ⟨rfl, rfl⟩
        have x0 : wn161.cell? ⟨w.heap.size + 1, 0, none⟩ = some (.int .i64 mg) := HS157.out.m.cell 0
        have x1 : wn161.cell? ⟨w.heap.size + 1, 1, none⟩ = some (.int .i64 mn) := HS157.out.m.cell 1
        have x2 : wn161.cell? ⟨w.heap.size + 1, 2, none⟩ = some (.int .u64 mu) := HS157.out.m.cell 2
        have x3 : wn161.cell? ⟨w.heap.size + 1, 3, none⟩ = some (.slice ma ps.length mc) := HS157.out.m.cell 3
        have k0 : wn161.cell? ⟨Q160, 0, none⟩ = some (.int .i64 mg) := HQ155.out.cell 0
        have k1 : wn161.cell? ⟨Q160, 1, none⟩ = some (.int .i64 mn) := HQ155.out.cell 1
        have k2 : wn161.cell? ⟨Q160, 2, none⟩ = some (.int .u64 mu) := HQ155.out.cell 2
        have k3 : wn161.cell? ⟨Q160, 3, none⟩ = some (.slice a153 ps.length c154) := HQ155.out.cell 3
        go_wp2_with fail
        refine (HSm3.out wn161 a153 c154 HO156.out.sees HS157.out.bel).mono ?_
        rintro e ws162 ⟨rfl, hb163⟩
        have HS164 : Hid (TlS w id lo hi gen mg mn mu da ao ma dc cap mc ds es ps ws162) := HS157.out.later hb163
        clear hb163 HS157 HQ155 HO156
        clear x0 x1 x2 x3
        clear k0 k1 k2 k3
        go_wp2_with fail
        refine (HFl3.out ws162).mono ?_
        rintro e wf165 ⟨⟨T166, rfl, hz167, ht168⟩, hb169⟩
        have HS170 : Hid (TlS w id lo hi gen mg mn mu da ao ma dc cap mc ds es ps wf165) := HS164.out.later hb169
        have HTzT166 : Hid _ := hz167
        have HTtT166 : Hid _ := ht168
        clear hb169 HS164 hz167 ht168
        go_wp2_with fail
        refine (HDt3.out T166 HTzT166.out wf165 (HT.out.later HS170.out.bel)).mono ?_
        rintro e wg171 ⟨hb172, q173, cc174, rfl, la175, ua176, ta177⟩
        have HS178 : Hid (TlS w id lo hi gen mg mn mu da ao ma dc cap mc ds es ps wg171) := HS170.out.later hb172
        have hnecc174 : cc174 ≠ 0 := ta177 (HTtT166.out hx0)
        have hnbcc174 : (cc174 == 0) = false := beq_eq_false_iff_ne.2 hnecc174
        have hnccc174 : (cc174 != 0) = true := by rw [bne_iff_ne]; exact hnecc174
        clear hb172 HS170 ta177 HTzT166 HTtT166
        go_wp2_with fail
        refine (num_any cc174 wg171 la175 ua176).mono ?_
        rintro e wn179 ⟨rfl, rfl⟩
        go_wp2
        go_ret
        exact ⟨rfl, HS178.out.bel⟩
      · have HEn3 : Hid (∀ W a c, SeesP W W.heap.size a ps → Below w.heap.size w W → Calls Tryz.prog 20 #[.agg #[.int .i64 mg, .int .i64 mn, .int .u64 mu, .slice a ps.length c]] W fun e w' => e = .returned (.tuple #[.string ⟨#[]⟩, .int .i64 2]) ∧ Below W.heap.size W w') := fun W a c h hb => (encMan_any W mg mn mu a c ps h HWp.out hmu0 (HT.out.later hb)).mono fun e w' ⟨h1, h2, h3⟩ => ⟨h2 hM, h3⟩
        have x0 : wn136.cell? ⟨w.heap.size + 1, 0, none⟩ = some (.int .i64 mg) := HS135.out.m.cell 0
        have x1 : wn136.cell? ⟨w.heap.size + 1, 1, none⟩ = some (.int .i64 mn) := HS135.out.m.cell 1
        have x2 : wn136.cell? ⟨w.heap.size + 1, 2, none⟩ = some (.int .u64 mu) := HS135.out.m.cell 2
        have x3 : wn136.cell? ⟨w.heap.size + 1, 3, none⟩ = some (.slice ma ps.length mc) := HS135.out.m.cell 3
        go_wp2_with fail
        refine (HTm.out wn136 HS135.out).mono ?_
        rintro e wt180 ⟨hb181, v182, rfl, hv183⟩
        obtain ⟨a184, c185, rfl, -, -⟩ := hv183.slice
        have HS186 : Hid (TlS w id lo hi gen mg mn mu da ao ma dc cap mc ds es ps wt180) := HS135.out.later hb181
        have HO187 : Hid (SeesP wt180 wt180.heap.size a184 ps) := hv183.sees
        clear hb181 hv183 HS135
        clear x0 x1 x2 x3
        go_wp2_with fail
        refine (HEn3.out wt180 a184 c185 HO187.out HS186.out.bel).mono ?_
        rintro e we188 ⟨rfl, hb189⟩
        have HS190 : Hid (TlS w id lo hi gen mg mn mu da ao ma dc cap mc ds es ps we188) := HS186.out.later hb189
        clear hb189 HS186 HO187
        go_wp2_with fail
        refine (num_any 2 we188 (by omega) (by omega)).mono ?_
        rintro e wn191 ⟨rfl, rfl⟩
        have hb00 := bytes_beq (⟨#[]⟩ : ByteArray) ⟨#[]⟩
        rw [decide_eq_true rfl] at hb00
        go_wp2
        go_ret
        exact ⟨rfl, HS190.out.bel⟩
    · have HEn2 : Hid (∀ W l t a n' c a' c', SeesE W W.heap.size a' es → Below w.heap.size w W → Calls Tryz.prog 17 #[.agg #[.int .i64 id, .int .u64 l, .int .u64 t, .slice a n' c, .int .i64 gen, .slice a' es.length c']] W fun e w' => e = .returned (.tuple #[.string ⟨#[]⟩, .int .i64 2]) ∧ Below W.heap.size W w') := fun W l t a n' c a' c' h hb => (encDelta_any W id gen l t a a' n' c c' es h HWe.out (HT.out.later hb)).mono fun e w' ⟨h1, h2, h3⟩ => ⟨h2 hE, h3⟩
      have x0 : wn68.cell? ⟨w.heap.size, 0, none⟩ = some (.int .i64 id) := HS67.out.p.cell 0
      have x1 : wn68.cell? ⟨w.heap.size, 1, none⟩ = some (.int .u64 lo) := HS67.out.p.cell 1
      have x2 : wn68.cell? ⟨w.heap.size, 2, none⟩ = some (.int .u64 hi) := HS67.out.p.cell 2
      have x3 : wn68.cell? ⟨w.heap.size, 3, none⟩ = some (.slice da ds.length dc) := HS67.out.p.cell 3
      have x4 : wn68.cell? ⟨w.heap.size, 4, none⟩ = some (.int .i64 gen) := HS67.out.p.cell 4
      have x5 : wn68.cell? ⟨w.heap.size, 5, none⟩ = some (.slice ao es.length cap) := HS67.out.p.cell 5
      go_wp2_with fail
      refine (HTw.out wn68 HS67.out).mono ?_
      rintro e wt192 ⟨hb195, v193, u194, rfl, hv196, hu197⟩
      obtain ⟨a198, c199, rfl, -, -⟩ := hv196.slice
      obtain ⟨b200, d201, rfl, -, -⟩ := hu197.slice
      have HS202 : Hid (TlS w id lo hi gen mg mn mu da ao ma dc cap mc ds es ps wt192) := HS67.out.later hb195
      have HO203 : Hid (SeesE wt192 wt192.heap.size b200 es) := hu197.sees
      clear hb195 hv196 hu197 HS67
      clear x0 x1 x2 x3 x4 x5
      go_wp2_with fail
      refine (HEn2.out wt192 lo hi a198 ds.length c199 b200 d201 HO203.out HS202.out.bel).mono ?_
      rintro e we204 ⟨rfl, hb205⟩
      have HS206 : Hid (TlS w id lo hi gen mg mn mu da ao ma dc cap mc ds es ps we204) := HS202.out.later hb205
      clear hb205 HS202 HO203
      go_wp2_with fail
      refine (num_any 2 we204 (by omega) (by omega)).mono ?_
      rintro e wn207 ⟨rfl, rfl⟩
      by_cases hM : mayM mg mn mu ps
      · obtain ⟨S3, hS3, hlo3, hhi3, hdc3, hdt3⟩ := man_back mg mn mu ps hmu0 hM HWp.out
        have HEn3 : Hid (∀ W a c, SeesP W W.heap.size a ps → Below w.heap.size w W → Calls Tryz.prog 20 #[.agg #[.int .i64 mg, .int .i64 mn, .int .u64 mu, .slice a ps.length c]] W fun e w' => e = .returned (.tuple #[.string S3, .int .i64 0]) ∧ Below W.heap.size W w') := fun W a c h hb => (encMan_any W mg mn mu a c ps h HWp.out hmu0 (HT.out.later hb)).mono fun e w' ⟨h1, h2, h3⟩ => ⟨by rw [hS3]; exact h1 hM, h3⟩
        have HDc3 : Hid _ := hdc3
        have HDt3 : Hid _ := hdt3
        have HFl3 : Hid (∀ W, _) := fun W => flipped_any W S3 n x (by omega) (by omega) hn hx
        have hnl3 : ¬ S3.toList = [] := toList_ne hlo3
        have hni3 : S3.toList.isEmpty = false := List.isEmpty_eq_false_iff.2 hnl3
        have hbs3 := bytes_beq S3 S3
        rw [decide_eq_true rfl] at hbs3
        clear hdc3 hdt3 hlo3 hhi3 hS3
        have x0 : wn207.cell? ⟨w.heap.size + 1, 0, none⟩ = some (.int .i64 mg) := HS206.out.m.cell 0
        have x1 : wn207.cell? ⟨w.heap.size + 1, 1, none⟩ = some (.int .i64 mn) := HS206.out.m.cell 1
        have x2 : wn207.cell? ⟨w.heap.size + 1, 2, none⟩ = some (.int .u64 mu) := HS206.out.m.cell 2
        have x3 : wn207.cell? ⟨w.heap.size + 1, 3, none⟩ = some (.slice ma ps.length mc) := HS206.out.m.cell 3
        go_wp2_with fail
        refine (HTm.out wn207 HS206.out).mono ?_
        rintro e wt208 ⟨hb209, v210, rfl, hv211⟩
        obtain ⟨a212, c213, rfl, -, -⟩ := hv211.slice
        have HS214 : Hid (TlS w id lo hi gen mg mn mu da ao ma dc cap mc ds es ps wt208) := HS206.out.later hb209
        have HO215 : Hid (SeesP wt208 wt208.heap.size a212 ps) := hv211.sees
        clear hb209 hv211 HS206
        clear x0 x1 x2 x3
        go_wp2_with fail
        refine (HEn3.out wt208 a212 c213 HO215.out HS214.out.bel).mono ?_
        rintro e we216 ⟨rfl, hb217⟩
        have HS218 : Hid (TlS w id lo hi gen mg mn mu da ao ma dc cap mc ds es ps we216) := HS214.out.later hb217
        clear hb217 HS214 HO215
        go_wp2_with fail
        refine (num_any 0 we216 (by omega) (by omega)).mono ?_
        rintro e wn219 ⟨rfl, rfl⟩
        go_wp2_with fail
        refine (HDc3.out wn219 (HT.out.later HS218.out.bel)).mono ?_
        rintro e wd220 ⟨hb221, v222, rfl, ho223⟩
        obtain ⟨a224, c225, rfl, -, -⟩ := ho223.slice
        have hal229 : Below wd220.heap.size wd220 (wd220.alloc (.cells #[.int .i64 mg, .int .i64 mn, .int .u64 mu, .slice a224 ps.length c225] 29)) := (Below.refl _ _).alloc (Nat.le_refl _) _
        have HQ226 : Hid (Mn4 (wd220.alloc (.cells #[.int .i64 mg, .int .i64 mn, .int .u64 mu, .slice a224 ps.length c225] 29)) wd220.heap.size (.int .i64 mg) (.int .i64 mn) (.int .u64 mu) (.slice a224 ps.length c225)) := heap_alloc_new wd220 _
        have HO227 : Hid (ownP (wd220.alloc (.cells #[.int .i64 mg, .int .i64 mn, .int .u64 mu, .slice a224 ps.length c225] 29)) wn219.heap.size (.slice a224 ps.length c225) ps) := ho223.later hal229
        have HS228 : Hid (TlS w id lo hi gen mg mn mu da ao ma dc cap mc ds es ps (wd220.alloc (.cells #[.int .i64 mg, .int .i64 mn, .int .u64 mu, .slice a224 ps.length c225] 29))) := (HS218.out.later hb221).later hal229
        clear hb221 ho223 hal229 HS218
        go_wp2_with fail
        generalize hyy : wd220.alloc (.cells #[.int .i64 mg, .int .i64 mn, .int .u64 mu, .slice a224 ps.length c225] 29) = y230 at *
        generalize hqq : wd220.heap.size = Q231 at *
        clear hyy hqq
        refine (num_any 0 y230 (by omega) (by omega)).mono ?_
        rintro e wn232 ⟨rfl, rfl⟩
        have x0 : wn232.cell? ⟨w.heap.size + 1, 0, none⟩ = some (.int .i64 mg) := HS228.out.m.cell 0
        have x1 : wn232.cell? ⟨w.heap.size + 1, 1, none⟩ = some (.int .i64 mn) := HS228.out.m.cell 1
        have x2 : wn232.cell? ⟨w.heap.size + 1, 2, none⟩ = some (.int .u64 mu) := HS228.out.m.cell 2
        have x3 : wn232.cell? ⟨w.heap.size + 1, 3, none⟩ = some (.slice ma ps.length mc) := HS228.out.m.cell 3
        have k0 : wn232.cell? ⟨Q231, 0, none⟩ = some (.int .i64 mg) := HQ226.out.cell 0
        have k1 : wn232.cell? ⟨Q231, 1, none⟩ = some (.int .i64 mn) := HQ226.out.cell 1
        have k2 : wn232.cell? ⟨Q231, 2, none⟩ = some (.int .u64 mu) := HQ226.out.cell 2
        have k3 : wn232.cell? ⟨Q231, 3, none⟩ = some (.slice a224 ps.length c225) := HQ226.out.cell 3
        go_wp2_with fail
        refine (HSm3.out wn232 a224 c225 HO227.out.sees HS228.out.bel).mono ?_
        rintro e ws233 ⟨rfl, hb234⟩
        have HS235 : Hid (TlS w id lo hi gen mg mn mu da ao ma dc cap mc ds es ps ws233) := HS228.out.later hb234
        clear hb234 HS228 HQ226 HO227
        clear x0 x1 x2 x3
        clear k0 k1 k2 k3
        go_wp2_with fail
        refine (HFl3.out ws233).mono ?_
        rintro e wf236 ⟨⟨T237, rfl, hz238, ht239⟩, hb240⟩
        have HS241 : Hid (TlS w id lo hi gen mg mn mu da ao ma dc cap mc ds es ps wf236) := HS235.out.later hb240
        have HTzT237 : Hid _ := hz238
        have HTtT237 : Hid _ := ht239
        clear hb240 HS235 hz238 ht239
        go_wp2_with fail
        refine (HDt3.out T237 HTzT237.out wf236 (HT.out.later HS241.out.bel)).mono ?_
        rintro e wg242 ⟨hb243, q244, cc245, rfl, la246, ua247, ta248⟩
        have HS249 : Hid (TlS w id lo hi gen mg mn mu da ao ma dc cap mc ds es ps wg242) := HS241.out.later hb243
        have hnecc245 : cc245 ≠ 0 := ta248 (HTtT237.out hx0)
        have hnbcc245 : (cc245 == 0) = false := beq_eq_false_iff_ne.2 hnecc245
        have hnccc245 : (cc245 != 0) = true := by rw [bne_iff_ne]; exact hnecc245
        clear hb243 HS241 ta248 HTzT237 HTtT237
        go_wp2_with fail
        refine (num_any cc245 wg242 la246 ua247).mono ?_
        rintro e wn250 ⟨rfl, rfl⟩
        go_wp2
        go_ret
        exact ⟨rfl, HS249.out.bel⟩
      · have HEn3 : Hid (∀ W a c, SeesP W W.heap.size a ps → Below w.heap.size w W → Calls Tryz.prog 20 #[.agg #[.int .i64 mg, .int .i64 mn, .int .u64 mu, .slice a ps.length c]] W fun e w' => e = .returned (.tuple #[.string ⟨#[]⟩, .int .i64 2]) ∧ Below W.heap.size W w') := fun W a c h hb => (encMan_any W mg mn mu a c ps h HWp.out hmu0 (HT.out.later hb)).mono fun e w' ⟨h1, h2, h3⟩ => ⟨h2 hM, h3⟩
        have x0 : wn207.cell? ⟨w.heap.size + 1, 0, none⟩ = some (.int .i64 mg) := HS206.out.m.cell 0
        have x1 : wn207.cell? ⟨w.heap.size + 1, 1, none⟩ = some (.int .i64 mn) := HS206.out.m.cell 1
        have x2 : wn207.cell? ⟨w.heap.size + 1, 2, none⟩ = some (.int .u64 mu) := HS206.out.m.cell 2
        have x3 : wn207.cell? ⟨w.heap.size + 1, 3, none⟩ = some (.slice ma ps.length mc) := HS206.out.m.cell 3
        go_wp2_with fail
        refine (HTm.out wn207 HS206.out).mono ?_
        rintro e wt251 ⟨hb252, v253, rfl, hv254⟩
        obtain ⟨a255, c256, rfl, -, -⟩ := hv254.slice
        have HS257 : Hid (TlS w id lo hi gen mg mn mu da ao ma dc cap mc ds es ps wt251) := HS206.out.later hb252
        have HO258 : Hid (SeesP wt251 wt251.heap.size a255 ps) := hv254.sees
        clear hb252 hv254 HS206
        clear x0 x1 x2 x3
        go_wp2_with fail
        refine (HEn3.out wt251 a255 c256 HO258.out HS257.out.bel).mono ?_
        rintro e we259 ⟨rfl, hb260⟩
        have HS261 : Hid (TlS w id lo hi gen mg mn mu da ao ma dc cap mc ds es ps we259) := HS257.out.later hb260
        clear hb260 HS257 HO258
        go_wp2_with fail
        refine (num_any 2 we259 (by omega) (by omega)).mono ?_
        rintro e wn262 ⟨rfl, rfl⟩
        have hb00 := bytes_beq (⟨#[]⟩ : ByteArray) ⟨#[]⟩
        rw [decide_eq_true rfl] at hb00
        go_wp2
        go_ret
        exact ⟨rfl, HS261.out.bel⟩
  · have HEn1 : Hid (∀ W g a c a' n' c', SeesT W W.heap.size a ds → Below w.heap.size w W → Calls Tryz.prog 7 #[.agg #[.int .i64 id, .int .u64 lo, .int .u64 hi, .slice a ds.length c, .int .i64 g, .slice a' n' c']] W fun e w' => e = .returned (.tuple #[.string ⟨#[]⟩, .int .i64 2]) ∧ Below W.heap.size W w') := fun W g a c a' n' c' h hb => (encData_any W id g lo hi a a' n' c c' ds hlo0 h HWd.out (HT.out.later hb)).mono fun e w' ⟨h1, h2, h3⟩ => ⟨h2 hD, h3⟩
    refine (HTw.out W0 HS0.out).mono ?_
    rintro e wt263 ⟨hb266, v264, u265, rfl, hv267, hu268⟩
    obtain ⟨a269, c270, rfl, -, -⟩ := hv267.slice
    obtain ⟨b271, d272, rfl, -, -⟩ := hu268.slice
    have HS273 : Hid (TlS w id lo hi gen mg mn mu da ao ma dc cap mc ds es ps wt263) := HS0.out.later hb266
    have HO274 : Hid (SeesT wt263 wt263.heap.size a269 ds) := hv267.sees
    clear hb266 hv267 hu268 HS0
    go_wp2_with fail
    refine (HEn1.out wt263 gen a269 c270 b271 es.length d272 HO274.out HS273.out.bel).mono ?_
    rintro e we275 ⟨rfl, hb276⟩
    have HS277 : Hid (TlS w id lo hi gen mg mn mu da ao ma dc cap mc ds es ps we275) := HS273.out.later hb276
    clear hb276 HS273 HO274
    go_wp2_with fail
    refine (num_any 2 we275 (by omega) (by omega)).mono ?_
    rintro e wn278 ⟨rfl, rfl⟩
    by_cases hE : mayD id gen es
    · obtain ⟨S2, hS2, hlo2, hhi2, hdc2, hdt2⟩ := delta_back id gen es hE HWe.out
      have HEn2 : Hid (∀ W l t a n' c a' c', SeesE W W.heap.size a' es → Below w.heap.size w W → Calls Tryz.prog 17 #[.agg #[.int .i64 id, .int .u64 l, .int .u64 t, .slice a n' c, .int .i64 gen, .slice a' es.length c']] W fun e w' => e = .returned (.tuple #[.string S2, .int .i64 0]) ∧ Below W.heap.size W w') := fun W l t a n' c a' c' h hb => (encDelta_any W id gen l t a a' n' c c' es h HWe.out (HT.out.later hb)).mono fun e w' ⟨h1, h2, h3⟩ => ⟨by rw [hS2]; exact h1 hE, h3⟩
      have HDc2 : Hid _ := hdc2
      have HDt2 : Hid _ := hdt2
      have HFl2 : Hid (∀ W, _) := fun W => flipped_any W S2 n x (by omega) (by omega) hn hx
      have hnl2 : ¬ S2.toList = [] := toList_ne hlo2
      have hni2 : S2.toList.isEmpty = false := List.isEmpty_eq_false_iff.2 hnl2
      have hbs2 := bytes_beq S2 S2
      rw [decide_eq_true rfl] at hbs2
      clear hdc2 hdt2 hlo2 hhi2 hS2
      have x0 : wn278.cell? ⟨w.heap.size, 0, none⟩ = some (.int .i64 id) := HS277.out.p.cell 0
      have x1 : wn278.cell? ⟨w.heap.size, 1, none⟩ = some (.int .u64 lo) := HS277.out.p.cell 1
      have x2 : wn278.cell? ⟨w.heap.size, 2, none⟩ = some (.int .u64 hi) := HS277.out.p.cell 2
      have x3 : wn278.cell? ⟨w.heap.size, 3, none⟩ = some (.slice da ds.length dc) := HS277.out.p.cell 3
      have x4 : wn278.cell? ⟨w.heap.size, 4, none⟩ = some (.int .i64 gen) := HS277.out.p.cell 4
      have x5 : wn278.cell? ⟨w.heap.size, 5, none⟩ = some (.slice ao es.length cap) := HS277.out.p.cell 5
      go_wp2_with fail
      refine (HTw.out wn278 HS277.out).mono ?_
      rintro e wt279 ⟨hb282, v280, u281, rfl, hv283, hu284⟩
      obtain ⟨a285, c286, rfl, -, -⟩ := hv283.slice
      obtain ⟨b287, d288, rfl, -, -⟩ := hu284.slice
      have HS289 : Hid (TlS w id lo hi gen mg mn mu da ao ma dc cap mc ds es ps wt279) := HS277.out.later hb282
      have HO290 : Hid (SeesE wt279 wt279.heap.size b287 es) := hu284.sees
      clear hb282 hv283 hu284 HS277
      clear x0 x1 x2 x3 x4 x5
      go_wp2_with fail
      refine (HEn2.out wt279 lo hi a285 ds.length c286 b287 d288 HO290.out HS289.out.bel).mono ?_
      rintro e we291 ⟨rfl, hb292⟩
      have HS293 : Hid (TlS w id lo hi gen mg mn mu da ao ma dc cap mc ds es ps we291) := HS289.out.later hb292
      clear hb292 HS289 HO290
      go_wp2_with fail
      refine (num_any 0 we291 (by omega) (by omega)).mono ?_
      rintro e wn294 ⟨rfl, rfl⟩
      go_wp2_with fail
      refine (HDc2.out wn294 (HT.out.later HS293.out.bel)).mono ?_
      rintro e wd295 ⟨hb296, v297, rfl, ho298⟩
      obtain ⟨a299, c300, rfl, -, -⟩ := ho298.slice
      have hal304 : Below wd295.heap.size wd295 (wd295.alloc (.cells #[.int .i64 id, .int .u64 0, .int .u64 0, .slice none 0 0, .int .i64 gen, .slice a299 es.length c300] 26)) := (Below.refl _ _).alloc (Nat.le_refl _) _
      have HQ301 : Hid (Fp6 (wd295.alloc (.cells #[.int .i64 id, .int .u64 0, .int .u64 0, .slice none 0 0, .int .i64 gen, .slice a299 es.length c300] 26)) wd295.heap.size (.int .i64 id) (.int .u64 0) (.int .u64 0) (.slice none 0 0) (.int .i64 gen) (.slice a299 es.length c300)) := heap_alloc_new wd295 _
      have HO302 : Hid (ownE (wd295.alloc (.cells #[.int .i64 id, .int .u64 0, .int .u64 0, .slice none 0 0, .int .i64 gen, .slice a299 es.length c300] 26)) wn294.heap.size (.slice a299 es.length c300) es) := ho298.later hal304
      have HS303 : Hid (TlS w id lo hi gen mg mn mu da ao ma dc cap mc ds es ps (wd295.alloc (.cells #[.int .i64 id, .int .u64 0, .int .u64 0, .slice none 0 0, .int .i64 gen, .slice a299 es.length c300] 26))) := (HS293.out.later hb296).later hal304
      clear hb296 ho298 hal304 HS293
      go_wp2_with fail
      generalize hyy : wd295.alloc (.cells #[.int .i64 id, .int .u64 0, .int .u64 0, .slice none 0 0, .int .i64 gen, .slice a299 es.length c300] 26) = y305 at *
      generalize hqq : wd295.heap.size = Q306 at *
      clear hyy hqq
      refine (HTq2.out y305 a299 c300 wn294.heap.size HO302.out).mono ?_
      rintro e wt307 ⟨hb308, v309, u310, rfl, hv311, hu312⟩
      obtain ⟨a313, c314, rfl, -, -⟩ := hv311.slice
      obtain ⟨b315, d316, rfl, -, -⟩ := hu312.slice
      have HS317 : Hid (TlS w id lo hi gen mg mn mu da ao ma dc cap mc ds es ps wt307) := HS303.out.later hb308
      have HQ318 : Hid (Fp6 wt307 Q306 (.int .i64 id) (.int .u64 0) (.int .u64 0) (.slice none 0 0) (.int .i64 gen) (.slice a299 es.length c300)) := HQ301.out.later hb308 HQ301.out.lt
      have HO319 : Hid (ownE wt307 wn294.heap.size (.slice a299 es.length c300) es) := HO302.out.later hb308
      have HX320 : Hid (SeesE wt307 wt307.heap.size b315 es) := hu312.sees
      clear hb308 hv311 hu312 HQ301 HO302 HS303
      go_wp2_with fail
      refine (HEn2.out wt307 0 0 a313 0 c314 b315 d316 HX320.out HS317.out.bel).mono ?_
      rintro e we321 ⟨rfl, hb322⟩
      have HS323 : Hid (TlS w id lo hi gen mg mn mu da ao ma dc cap mc ds es ps we321) := HS317.out.later hb322
      have HQ324 : Hid (Fp6 we321 Q306 (.int .i64 id) (.int .u64 0) (.int .u64 0) (.slice none 0 0) (.int .i64 gen) (.slice a299 es.length c300)) := HQ318.out.later hb322 HQ318.out.lt
      have HO325 : Hid (ownE we321 wn294.heap.size (.slice a299 es.length c300) es) := HO319.out.later hb322
      clear hb322 HQ318 HO319 HS317 HX320
      go_wp2_with fail
      refine (num_any 0 we321 (by omega) (by omega)).mono ?_
      rintro e wn326 ⟨rfl, rfl⟩
      go_wp2_with fail
      refine (num_any 0 wn326 (by omega) (by omega)).mono ?_
      rintro e wn327 ⟨rfl, rfl⟩
      have x0 : wn327.cell? ⟨w.heap.size, 0, none⟩ = some (.int .i64 id) := HS323.out.p.cell 0
      have x1 : wn327.cell? ⟨w.heap.size, 1, none⟩ = some (.int .u64 lo) := HS323.out.p.cell 1
      have x2 : wn327.cell? ⟨w.heap.size, 2, none⟩ = some (.int .u64 hi) := HS323.out.p.cell 2
      have x3 : wn327.cell? ⟨w.heap.size, 3, none⟩ = some (.slice da ds.length dc) := HS323.out.p.cell 3
      have x4 : wn327.cell? ⟨w.heap.size, 4, none⟩ = some (.int .i64 gen) := HS323.out.p.cell 4
      have x5 : wn327.cell? ⟨w.heap.size, 5, none⟩ = some (.slice ao es.length cap) := HS323.out.p.cell 5
      have k0 : wn327.cell? ⟨Q306, 0, none⟩ = some (.int .i64 id) := HQ324.out.cell 0
      have k1 : wn327.cell? ⟨Q306, 1, none⟩ = some (.int .u64 0) := HQ324.out.cell 1
      have k2 : wn327.cell? ⟨Q306, 2, none⟩ = some (.int .u64 0) := HQ324.out.cell 2
      have k3 : wn327.cell? ⟨Q306, 3, none⟩ = some (.slice none 0 0) := HQ324.out.cell 3
      have k4 : wn327.cell? ⟨Q306, 4, none⟩ = some (.int .i64 gen) := HQ324.out.cell 4
      have k5 : wn327.cell? ⟨Q306, 5, none⟩ = some (.slice a299 es.length c300) := HQ324.out.cell 5
      go_wp2_with fail
      refine (HSm2.out wn327 a299 c300 HO325.out.sees HS323.out.bel).mono ?_
      rintro e ws328 ⟨rfl, hb329⟩
      have HS330 : Hid (TlS w id lo hi gen mg mn mu da ao ma dc cap mc ds es ps ws328) := HS323.out.later hb329
      have HQ331 : Hid (Fp6 ws328 Q306 (.int .i64 id) (.int .u64 0) (.int .u64 0) (.slice none 0 0) (.int .i64 gen) (.slice a299 es.length c300)) := HQ324.out.later hb329 HQ324.out.lt
      clear hb329 HS323 HQ324 HO325
      clear x0 x1 x2 x3 x4 x5
      clear k0 k1 k2 k3 k4 k5
      have k0 : ws328.cell? ⟨Q306, 0, none⟩ = some (.int .i64 id) := HQ331.out.cell 0
      have k1 : ws328.cell? ⟨Q306, 1, none⟩ = some (.int .u64 0) := HQ331.out.cell 1
      have k2 : ws328.cell? ⟨Q306, 2, none⟩ = some (.int .u64 0) := HQ331.out.cell 2
      have k3 : ws328.cell? ⟨Q306, 3, none⟩ = some (.slice none 0 0) := HQ331.out.cell 3
      have k4 : ws328.cell? ⟨Q306, 4, none⟩ = some (.int .i64 gen) := HQ331.out.cell 4
      have k5 : ws328.cell? ⟨Q306, 5, none⟩ = some (.slice a299 es.length c300) := HQ331.out.cell 5
      go_wp2_with fail
      refine (HFl2.out ws328).mono ?_
      rintro e wf332 ⟨⟨T333, rfl, hz334, ht335⟩, hb336⟩
      have HS337 : Hid (TlS w id lo hi gen mg mn mu da ao ma dc cap mc ds es ps wf332) := HS330.out.later hb336
      have HTzT333 : Hid _ := hz334
      have HTtT333 : Hid _ := ht335
      clear hb336 HS330 HQ331 hz334 ht335
      clear k0 k1 k2 k3 k4 k5
      go_wp2_with fail
      refine (HDt2.out T333 HTzT333.out wf332 (HT.out.later HS337.out.bel)).mono ?_
      rintro e wg338 ⟨hb339, q340, cc341, rfl, la342, ua343, ta344⟩
      have HS345 : Hid (TlS w id lo hi gen mg mn mu da ao ma dc cap mc ds es ps wg338) := HS337.out.later hb339
      have hnecc341 : cc341 ≠ 0 := ta344 (HTtT333.out hx0)
      have hnbcc341 : (cc341 == 0) = false := beq_eq_false_iff_ne.2 hnecc341
      have hnccc341 : (cc341 != 0) = true := by rw [bne_iff_ne]; exact hnecc341
      clear hb339 HS337 ta344 HTzT333 HTtT333
      go_wp2_with fail
      refine (num_any cc341 wg338 la342 ua343).mono ?_
      rintro e wn346 ⟨rfl, rfl⟩
      by_cases hM : mayM mg mn mu ps
      · obtain ⟨S3, hS3, hlo3, hhi3, hdc3, hdt3⟩ := man_back mg mn mu ps hmu0 hM HWp.out
        have HEn3 : Hid (∀ W a c, SeesP W W.heap.size a ps → Below w.heap.size w W → Calls Tryz.prog 20 #[.agg #[.int .i64 mg, .int .i64 mn, .int .u64 mu, .slice a ps.length c]] W fun e w' => e = .returned (.tuple #[.string S3, .int .i64 0]) ∧ Below W.heap.size W w') := fun W a c h hb => (encMan_any W mg mn mu a c ps h HWp.out hmu0 (HT.out.later hb)).mono fun e w' ⟨h1, h2, h3⟩ => ⟨by rw [hS3]; exact h1 hM, h3⟩
        have HDc3 : Hid _ := hdc3
        have HDt3 : Hid _ := hdt3
        have HFl3 : Hid (∀ W, _) := fun W => flipped_any W S3 n x (by omega) (by omega) hn hx
        have hnl3 : ¬ S3.toList = [] := toList_ne hlo3
        have hni3 : S3.toList.isEmpty = false := List.isEmpty_eq_false_iff.2 hnl3
        have hbs3 := bytes_beq S3 S3
        rw [decide_eq_true rfl] at hbs3
        clear hdc3 hdt3 hlo3 hhi3 hS3
        have x0 : wn346.cell? ⟨w.heap.size + 1, 0, none⟩ = some (.int .i64 mg) := HS345.out.m.cell 0
        have x1 : wn346.cell? ⟨w.heap.size + 1, 1, none⟩ = some (.int .i64 mn) := HS345.out.m.cell 1
        have x2 : wn346.cell? ⟨w.heap.size + 1, 2, none⟩ = some (.int .u64 mu) := HS345.out.m.cell 2
        have x3 : wn346.cell? ⟨w.heap.size + 1, 3, none⟩ = some (.slice ma ps.length mc) := HS345.out.m.cell 3
        go_wp2_with fail
        refine (HTm.out wn346 HS345.out).mono ?_
        rintro e wt347 ⟨hb348, v349, rfl, hv350⟩
        obtain ⟨a351, c352, rfl, -, -⟩ := hv350.slice
        have HS353 : Hid (TlS w id lo hi gen mg mn mu da ao ma dc cap mc ds es ps wt347) := HS345.out.later hb348
        have HO354 : Hid (SeesP wt347 wt347.heap.size a351 ps) := hv350.sees
        clear hb348 hv350 HS345
        clear x0 x1 x2 x3
        go_wp2_with fail
        refine (HEn3.out wt347 a351 c352 HO354.out HS353.out.bel).mono ?_
        rintro e we355 ⟨rfl, hb356⟩
        have HS357 : Hid (TlS w id lo hi gen mg mn mu da ao ma dc cap mc ds es ps we355) := HS353.out.later hb356
        clear hb356 HS353 HO354
        go_wp2_with fail
        refine (num_any 0 we355 (by omega) (by omega)).mono ?_
        rintro e wn358 ⟨rfl, rfl⟩
        go_wp2_with fail
        refine (HDc3.out wn358 (HT.out.later HS357.out.bel)).mono ?_
        rintro e wd359 ⟨hb360, v361, rfl, ho362⟩
        obtain ⟨a363, c364, rfl, -, -⟩ := ho362.slice
        have hal368 : Below wd359.heap.size wd359 (wd359.alloc (.cells #[.int .i64 mg, .int .i64 mn, .int .u64 mu, .slice a363 ps.length c364] 29)) := (Below.refl _ _).alloc (Nat.le_refl _) _
        have HQ365 : Hid (Mn4 (wd359.alloc (.cells #[.int .i64 mg, .int .i64 mn, .int .u64 mu, .slice a363 ps.length c364] 29)) wd359.heap.size (.int .i64 mg) (.int .i64 mn) (.int .u64 mu) (.slice a363 ps.length c364)) := heap_alloc_new wd359 _
        have HO366 : Hid (ownP (wd359.alloc (.cells #[.int .i64 mg, .int .i64 mn, .int .u64 mu, .slice a363 ps.length c364] 29)) wn358.heap.size (.slice a363 ps.length c364) ps) := ho362.later hal368
        have HS367 : Hid (TlS w id lo hi gen mg mn mu da ao ma dc cap mc ds es ps (wd359.alloc (.cells #[.int .i64 mg, .int .i64 mn, .int .u64 mu, .slice a363 ps.length c364] 29))) := (HS357.out.later hb360).later hal368
        clear hb360 ho362 hal368 HS357
        go_wp2_with fail
        generalize hyy : wd359.alloc (.cells #[.int .i64 mg, .int .i64 mn, .int .u64 mu, .slice a363 ps.length c364] 29) = y369 at *
        generalize hqq : wd359.heap.size = Q370 at *
        clear hyy hqq
        refine (num_any 0 y369 (by omega) (by omega)).mono ?_
        rintro e wn371 ⟨rfl, rfl⟩
        have x0 : wn371.cell? ⟨w.heap.size + 1, 0, none⟩ = some (.int .i64 mg) := HS367.out.m.cell 0
        have x1 : wn371.cell? ⟨w.heap.size + 1, 1, none⟩ = some (.int .i64 mn) := HS367.out.m.cell 1
        have x2 : wn371.cell? ⟨w.heap.size + 1, 2, none⟩ = some (.int .u64 mu) := HS367.out.m.cell 2
        have x3 : wn371.cell? ⟨w.heap.size + 1, 3, none⟩ = some (.slice ma ps.length mc) := HS367.out.m.cell 3
        have k0 : wn371.cell? ⟨Q370, 0, none⟩ = some (.int .i64 mg) := HQ365.out.cell 0
        have k1 : wn371.cell? ⟨Q370, 1, none⟩ = some (.int .i64 mn) := HQ365.out.cell 1
        have k2 : wn371.cell? ⟨Q370, 2, none⟩ = some (.int .u64 mu) := HQ365.out.cell 2
        have k3 : wn371.cell? ⟨Q370, 3, none⟩ = some (.slice a363 ps.length c364) := HQ365.out.cell 3
        go_wp2_with fail
        refine (HSm3.out wn371 a363 c364 HO366.out.sees HS367.out.bel).mono ?_
        rintro e ws372 ⟨rfl, hb373⟩
        have HS374 : Hid (TlS w id lo hi gen mg mn mu da ao ma dc cap mc ds es ps ws372) := HS367.out.later hb373
        clear hb373 HS367 HQ365 HO366
        clear x0 x1 x2 x3
        clear k0 k1 k2 k3
        go_wp2_with fail
        refine (HFl3.out ws372).mono ?_
        rintro e wf375 ⟨⟨T376, rfl, hz377, ht378⟩, hb379⟩
        have HS380 : Hid (TlS w id lo hi gen mg mn mu da ao ma dc cap mc ds es ps wf375) := HS374.out.later hb379
        have HTzT376 : Hid _ := hz377
        have HTtT376 : Hid _ := ht378
        clear hb379 HS374 hz377 ht378
        go_wp2_with fail
        refine (HDt3.out T376 HTzT376.out wf375 (HT.out.later HS380.out.bel)).mono ?_
        rintro e wg381 ⟨hb382, q383, cc384, rfl, la385, ua386, ta387⟩
        have HS388 : Hid (TlS w id lo hi gen mg mn mu da ao ma dc cap mc ds es ps wg381) := HS380.out.later hb382
        have hnecc384 : cc384 ≠ 0 := ta387 (HTtT376.out hx0)
        have hnbcc384 : (cc384 == 0) = false := beq_eq_false_iff_ne.2 hnecc384
        have hnccc384 : (cc384 != 0) = true := by rw [bne_iff_ne]; exact hnecc384
        clear hb382 HS380 ta387 HTzT376 HTtT376
        go_wp2_with fail
        refine (num_any cc384 wg381 la385 ua386).mono ?_
        rintro e wn389 ⟨rfl, rfl⟩
        go_wp2
        go_ret
        exact ⟨rfl, HS388.out.bel⟩
      · have HEn3 : Hid (∀ W a c, SeesP W W.heap.size a ps → Below w.heap.size w W → Calls Tryz.prog 20 #[.agg #[.int .i64 mg, .int .i64 mn, .int .u64 mu, .slice a ps.length c]] W fun e w' => e = .returned (.tuple #[.string ⟨#[]⟩, .int .i64 2]) ∧ Below W.heap.size W w') := fun W a c h hb => (encMan_any W mg mn mu a c ps h HWp.out hmu0 (HT.out.later hb)).mono fun e w' ⟨h1, h2, h3⟩ => ⟨h2 hM, h3⟩
        have x0 : wn346.cell? ⟨w.heap.size + 1, 0, none⟩ = some (.int .i64 mg) := HS345.out.m.cell 0
        have x1 : wn346.cell? ⟨w.heap.size + 1, 1, none⟩ = some (.int .i64 mn) := HS345.out.m.cell 1
        have x2 : wn346.cell? ⟨w.heap.size + 1, 2, none⟩ = some (.int .u64 mu) := HS345.out.m.cell 2
        have x3 : wn346.cell? ⟨w.heap.size + 1, 3, none⟩ = some (.slice ma ps.length mc) := HS345.out.m.cell 3
        go_wp2_with fail
        refine (HTm.out wn346 HS345.out).mono ?_
        rintro e wt390 ⟨hb391, v392, rfl, hv393⟩
        obtain ⟨a394, c395, rfl, -, -⟩ := hv393.slice
        have HS396 : Hid (TlS w id lo hi gen mg mn mu da ao ma dc cap mc ds es ps wt390) := HS345.out.later hb391
        have HO397 : Hid (SeesP wt390 wt390.heap.size a394 ps) := hv393.sees
        clear hb391 hv393 HS345
        clear x0 x1 x2 x3
        go_wp2_with fail
        refine (HEn3.out wt390 a394 c395 HO397.out HS396.out.bel).mono ?_
        rintro e we398 ⟨rfl, hb399⟩
        have HS400 : Hid (TlS w id lo hi gen mg mn mu da ao ma dc cap mc ds es ps we398) := HS396.out.later hb399
        clear hb399 HS396 HO397
        go_wp2_with fail
        refine (num_any 2 we398 (by omega) (by omega)).mono ?_
        rintro e wn401 ⟨rfl, rfl⟩
        have hb00 := bytes_beq (⟨#[]⟩ : ByteArray) ⟨#[]⟩
        rw [decide_eq_true rfl] at hb00
        go_wp2
        go_ret
        exact ⟨rfl, HS400.out.bel⟩
    · have HEn2 : Hid (∀ W l t a n' c a' c', SeesE W W.heap.size a' es → Below w.heap.size w W → Calls Tryz.prog 17 #[.agg #[.int .i64 id, .int .u64 l, .int .u64 t, .slice a n' c, .int .i64 gen, .slice a' es.length c']] W fun e w' => e = .returned (.tuple #[.string ⟨#[]⟩, .int .i64 2]) ∧ Below W.heap.size W w') := fun W l t a n' c a' c' h hb => (encDelta_any W id gen l t a a' n' c c' es h HWe.out (HT.out.later hb)).mono fun e w' ⟨h1, h2, h3⟩ => ⟨h2 hE, h3⟩
      have x0 : wn278.cell? ⟨w.heap.size, 0, none⟩ = some (.int .i64 id) := HS277.out.p.cell 0
      have x1 : wn278.cell? ⟨w.heap.size, 1, none⟩ = some (.int .u64 lo) := HS277.out.p.cell 1
      have x2 : wn278.cell? ⟨w.heap.size, 2, none⟩ = some (.int .u64 hi) := HS277.out.p.cell 2
      have x3 : wn278.cell? ⟨w.heap.size, 3, none⟩ = some (.slice da ds.length dc) := HS277.out.p.cell 3
      have x4 : wn278.cell? ⟨w.heap.size, 4, none⟩ = some (.int .i64 gen) := HS277.out.p.cell 4
      have x5 : wn278.cell? ⟨w.heap.size, 5, none⟩ = some (.slice ao es.length cap) := HS277.out.p.cell 5
      go_wp2_with fail
      refine (HTw.out wn278 HS277.out).mono ?_
      rintro e wt402 ⟨hb405, v403, u404, rfl, hv406, hu407⟩
      obtain ⟨a408, c409, rfl, -, -⟩ := hv406.slice
      obtain ⟨b410, d411, rfl, -, -⟩ := hu407.slice
      have HS412 : Hid (TlS w id lo hi gen mg mn mu da ao ma dc cap mc ds es ps wt402) := HS277.out.later hb405
      have HO413 : Hid (SeesE wt402 wt402.heap.size b410 es) := hu407.sees
      clear hb405 hv406 hu407 HS277
      clear x0 x1 x2 x3 x4 x5
      go_wp2_with fail
      refine (HEn2.out wt402 lo hi a408 ds.length c409 b410 d411 HO413.out HS412.out.bel).mono ?_
      rintro e we414 ⟨rfl, hb415⟩
      have HS416 : Hid (TlS w id lo hi gen mg mn mu da ao ma dc cap mc ds es ps we414) := HS412.out.later hb415
      clear hb415 HS412 HO413
      go_wp2_with fail
      refine (num_any 2 we414 (by omega) (by omega)).mono ?_
      rintro e wn417 ⟨rfl, rfl⟩
      by_cases hM : mayM mg mn mu ps
      · obtain ⟨S3, hS3, hlo3, hhi3, hdc3, hdt3⟩ := man_back mg mn mu ps hmu0 hM HWp.out
        have HEn3 : Hid (∀ W a c, SeesP W W.heap.size a ps → Below w.heap.size w W → Calls Tryz.prog 20 #[.agg #[.int .i64 mg, .int .i64 mn, .int .u64 mu, .slice a ps.length c]] W fun e w' => e = .returned (.tuple #[.string S3, .int .i64 0]) ∧ Below W.heap.size W w') := fun W a c h hb => (encMan_any W mg mn mu a c ps h HWp.out hmu0 (HT.out.later hb)).mono fun e w' ⟨h1, h2, h3⟩ => ⟨by rw [hS3]; exact h1 hM, h3⟩
        have HDc3 : Hid _ := hdc3
        have HDt3 : Hid _ := hdt3
        have HFl3 : Hid (∀ W, _) := fun W => flipped_any W S3 n x (by omega) (by omega) hn hx
        have hnl3 : ¬ S3.toList = [] := toList_ne hlo3
        have hni3 : S3.toList.isEmpty = false := List.isEmpty_eq_false_iff.2 hnl3
        have hbs3 := bytes_beq S3 S3
        rw [decide_eq_true rfl] at hbs3
        clear hdc3 hdt3 hlo3 hhi3 hS3
        have x0 : wn417.cell? ⟨w.heap.size + 1, 0, none⟩ = some (.int .i64 mg) := HS416.out.m.cell 0
        have x1 : wn417.cell? ⟨w.heap.size + 1, 1, none⟩ = some (.int .i64 mn) := HS416.out.m.cell 1
        have x2 : wn417.cell? ⟨w.heap.size + 1, 2, none⟩ = some (.int .u64 mu) := HS416.out.m.cell 2
        have x3 : wn417.cell? ⟨w.heap.size + 1, 3, none⟩ = some (.slice ma ps.length mc) := HS416.out.m.cell 3
        go_wp2_with fail
        refine (HTm.out wn417 HS416.out).mono ?_
        rintro e wt418 ⟨hb419, v420, rfl, hv421⟩
        obtain ⟨a422, c423, rfl, -, -⟩ := hv421.slice
        have HS424 : Hid (TlS w id lo hi gen mg mn mu da ao ma dc cap mc ds es ps wt418) := HS416.out.later hb419
        have HO425 : Hid (SeesP wt418 wt418.heap.size a422 ps) := hv421.sees
        clear hb419 hv421 HS416
        clear x0 x1 x2 x3
        go_wp2_with fail
        refine (HEn3.out wt418 a422 c423 HO425.out HS424.out.bel).mono ?_
        rintro e we426 ⟨rfl, hb427⟩
        have HS428 : Hid (TlS w id lo hi gen mg mn mu da ao ma dc cap mc ds es ps we426) := HS424.out.later hb427
        clear hb427 HS424 HO425
        go_wp2_with fail
        refine (num_any 0 we426 (by omega) (by omega)).mono ?_
        rintro e wn429 ⟨rfl, rfl⟩
        go_wp2_with fail
        refine (HDc3.out wn429 (HT.out.later HS428.out.bel)).mono ?_
        rintro e wd430 ⟨hb431, v432, rfl, ho433⟩
        obtain ⟨a434, c435, rfl, -, -⟩ := ho433.slice
        have hal439 : Below wd430.heap.size wd430 (wd430.alloc (.cells #[.int .i64 mg, .int .i64 mn, .int .u64 mu, .slice a434 ps.length c435] 29)) := (Below.refl _ _).alloc (Nat.le_refl _) _
        have HQ436 : Hid (Mn4 (wd430.alloc (.cells #[.int .i64 mg, .int .i64 mn, .int .u64 mu, .slice a434 ps.length c435] 29)) wd430.heap.size (.int .i64 mg) (.int .i64 mn) (.int .u64 mu) (.slice a434 ps.length c435)) := heap_alloc_new wd430 _
        have HO437 : Hid (ownP (wd430.alloc (.cells #[.int .i64 mg, .int .i64 mn, .int .u64 mu, .slice a434 ps.length c435] 29)) wn429.heap.size (.slice a434 ps.length c435) ps) := ho433.later hal439
        have HS438 : Hid (TlS w id lo hi gen mg mn mu da ao ma dc cap mc ds es ps (wd430.alloc (.cells #[.int .i64 mg, .int .i64 mn, .int .u64 mu, .slice a434 ps.length c435] 29))) := (HS428.out.later hb431).later hal439
        clear hb431 ho433 hal439 HS428
        go_wp2_with fail
        generalize hyy : wd430.alloc (.cells #[.int .i64 mg, .int .i64 mn, .int .u64 mu, .slice a434 ps.length c435] 29) = y440 at *
        generalize hqq : wd430.heap.size = Q441 at *
        clear hyy hqq
        refine (num_any 0 y440 (by omega) (by omega)).mono ?_
        rintro e wn442 ⟨rfl, rfl⟩
        have x0 : wn442.cell? ⟨w.heap.size + 1, 0, none⟩ = some (.int .i64 mg) := HS438.out.m.cell 0
        have x1 : wn442.cell? ⟨w.heap.size + 1, 1, none⟩ = some (.int .i64 mn) := HS438.out.m.cell 1
        have x2 : wn442.cell? ⟨w.heap.size + 1, 2, none⟩ = some (.int .u64 mu) := HS438.out.m.cell 2
        have x3 : wn442.cell? ⟨w.heap.size + 1, 3, none⟩ = some (.slice ma ps.length mc) := HS438.out.m.cell 3
        have k0 : wn442.cell? ⟨Q441, 0, none⟩ = some (.int .i64 mg) := HQ436.out.cell 0
        have k1 : wn442.cell? ⟨Q441, 1, none⟩ = some (.int .i64 mn) := HQ436.out.cell 1
        have k2 : wn442.cell? ⟨Q441, 2, none⟩ = some (.int .u64 mu) := HQ436.out.cell 2
        have k3 : wn442.cell? ⟨Q441, 3, none⟩ = some (.slice a434 ps.length c435) := HQ436.out.cell 3
        go_wp2_with fail
        refine (HSm3.out wn442 a434 c435 HO437.out.sees HS438.out.bel).mono ?_
        rintro e ws443 ⟨rfl, hb444⟩
        have HS445 : Hid (TlS w id lo hi gen mg mn mu da ao ma dc cap mc ds es ps ws443) := HS438.out.later hb444
        clear hb444 HS438 HQ436 HO437
        clear x0 x1 x2 x3
        clear k0 k1 k2 k3
        go_wp2_with fail
        refine (HFl3.out ws443).mono ?_
        rintro e wf446 ⟨⟨T447, rfl, hz448, ht449⟩, hb450⟩
        have HS451 : Hid (TlS w id lo hi gen mg mn mu da ao ma dc cap mc ds es ps wf446) := HS445.out.later hb450
        have HTzT447 : Hid _ := hz448
        have HTtT447 : Hid _ := ht449
        clear hb450 HS445 hz448 ht449
        go_wp2_with fail
        refine (HDt3.out T447 HTzT447.out wf446 (HT.out.later HS451.out.bel)).mono ?_
        rintro e wg452 ⟨hb453, q454, cc455, rfl, la456, ua457, ta458⟩
        have HS459 : Hid (TlS w id lo hi gen mg mn mu da ao ma dc cap mc ds es ps wg452) := HS451.out.later hb453
        have hnecc455 : cc455 ≠ 0 := ta458 (HTtT447.out hx0)
        have hnbcc455 : (cc455 == 0) = false := beq_eq_false_iff_ne.2 hnecc455
        have hnccc455 : (cc455 != 0) = true := by rw [bne_iff_ne]; exact hnecc455
        clear hb453 HS451 ta458 HTzT447 HTtT447
        go_wp2_with fail
        refine (num_any cc455 wg452 la456 ua457).mono ?_
        rintro e wn460 ⟨rfl, rfl⟩
        go_wp2
        go_ret
        exact ⟨rfl, HS459.out.bel⟩
      · have HEn3 : Hid (∀ W a c, SeesP W W.heap.size a ps → Below w.heap.size w W → Calls Tryz.prog 20 #[.agg #[.int .i64 mg, .int .i64 mn, .int .u64 mu, .slice a ps.length c]] W fun e w' => e = .returned (.tuple #[.string ⟨#[]⟩, .int .i64 2]) ∧ Below W.heap.size W w') := fun W a c h hb => (encMan_any W mg mn mu a c ps h HWp.out hmu0 (HT.out.later hb)).mono fun e w' ⟨h1, h2, h3⟩ => ⟨h2 hM, h3⟩
        have x0 : wn417.cell? ⟨w.heap.size + 1, 0, none⟩ = some (.int .i64 mg) := HS416.out.m.cell 0
        have x1 : wn417.cell? ⟨w.heap.size + 1, 1, none⟩ = some (.int .i64 mn) := HS416.out.m.cell 1
        have x2 : wn417.cell? ⟨w.heap.size + 1, 2, none⟩ = some (.int .u64 mu) := HS416.out.m.cell 2
        have x3 : wn417.cell? ⟨w.heap.size + 1, 3, none⟩ = some (.slice ma ps.length mc) := HS416.out.m.cell 3
        go_wp2_with fail
        refine (HTm.out wn417 HS416.out).mono ?_
        rintro e wt461 ⟨hb462, v463, rfl, hv464⟩
        obtain ⟨a465, c466, rfl, -, -⟩ := hv464.slice
        have HS467 : Hid (TlS w id lo hi gen mg mn mu da ao ma dc cap mc ds es ps wt461) := HS416.out.later hb462
        have HO468 : Hid (SeesP wt461 wt461.heap.size a465 ps) := hv464.sees
        clear hb462 hv464 HS416
        clear x0 x1 x2 x3
        go_wp2_with fail
        refine (HEn3.out wt461 a465 c466 HO468.out HS467.out.bel).mono ?_
        rintro e we469 ⟨rfl, hb470⟩
        have HS471 : Hid (TlS w id lo hi gen mg mn mu da ao ma dc cap mc ds es ps we469) := HS467.out.later hb470
        clear hb470 HS467 HO468
        go_wp2_with fail
        refine (num_any 2 we469 (by omega) (by omega)).mono ?_
        rintro e wn472 ⟨rfl, rfl⟩
        have hb00 := bytes_beq (⟨#[]⟩ : ByteArray) ⟨#[]⟩
        rw [decide_eq_true rfl] at hb00
        go_wp2
        go_ret
        exact ⟨rfl, HS471.out.bel⟩
end Go.Proofs.YtbfjnidpjmhfiaaGreatDoor
