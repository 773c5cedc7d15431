import Derived.Test.YtbfjnidpjmhfiaaGreatDoorTe2
namespace Go.Proofs.YtbfjnidpjmhfiaaGreatDoor
open Go.ChangeShapes Go.WideShapes Go.ChangeAt Go.RowKit
set_option linter.unusedVariables false
set_option maxRecDepth 100000
set_option maxHeartbeats 51200000 in
theorem tells_TeA (w : World) (id lo hi gen mg mn mu : Int) (da ao ma : Option Addr) (dc cap mc : Nat) (ds : List DT) (es : List ER) (ps : List PN) (n x : Nat) (hlo0 : 0 ≤ lo) (hmu0 : 0 ≤ mu)
    (hd : SeesT w w.heap.size da ds) (hdc : da = none → ds = [] ∧ dc = 0) (hda : ∀ ad, da = some ad → ds ≠ [] → ∃ b off, ad = ⟨b, off, none⟩) (hdl : ds.length * 40 ≤ 140737488355328) (hwd : ∀ p ∈ ds, p.wf)
    (he : SeesE w w.heap.size ao es) (hcap : ao = none → es = [] ∧ cap = 0) (hao : ∀ ad, ao = some ad → es ≠ [] → ∃ b off, ad = ⟨b, off, none⟩) (hl : es.length * 32 ≤ 140737488355328) (hwe : ∀ p ∈ es, p.wf)
    (hp : SeesP w w.heap.size ma ps) (hmc : ma = none → ps = [] ∧ mc = 0) (hma : ∀ ad, ma = some ad → ps ≠ [] → ∃ b off, ad = ⟨b, off, none⟩) (hpl : ps.length * 56 ≤ 140737488355328) (hwp : ∀ p ∈ ps, p.wf)
    (hn : n ≤ 18446744073709551615) (hx : x < 256) (hxz : x = 0) (hmust : mayA id lo hi ds ∧ mayD id gen es) (hT0 : HalfAt w) :
    Calls Tryz.prog 5 #[.agg #[.int .i64 id, .int .u64 lo, .int .u64 hi, .slice da ds.length dc, .int .i64 gen, .slice ao es.length cap], .agg #[.int .i64 mg, .int .i64 mn, .int .u64 mu, .slice ma ps.length mc], .int .u64 (n : Int), .int .u8 (x : Int), .bool true] w fun e w' => e = .returned (.bool true) ∧ Below w.heap.size w w' := by
  have HT : Hid (HalfAt w) := hT0
  have HWd : Hid (∀ p ∈ ds, p.wf) := hwd
  have HWe : Hid (∀ p ∈ es, p.wf) := hwe
  have HWp : Hid (∀ p ∈ ps, p.wf) := hwp
  have HTw : Hid (∀ W, TlS w id lo hi gen mg mn mu da ao ma dc cap mc ds es ps W → Calls Tryz.prog 6 #[.agg #[.int .i64 id, .int .u64 lo, .int .u64 hi, .slice da ds.length dc, .int .i64 gen, .slice ao es.length cap]] W (TwD W id lo hi gen ds es)) := fun W h => twin_any W id lo hi gen da ao dc cap ds es (hd.more h.bel) hdc hda hdl (he.more h.bel) hcap hao hl
  have HTm : Hid (∀ W, TlS w id lo hi gen mg mn mu da ao ma dc cap mc ds es ps W → Calls Tryz.prog 21 #[.agg #[.int .i64 mg, .int .i64 mn, .int .u64 mu, .slice ma ps.length mc]] W (TwM W mg mn mu ps)) := fun W h => twinM_any W mg mn mu ma mc ps (hp.moreT h.bel) hmc hma hpl
  have HTq1 : Hid (∀ W a c B, ownT W B (.slice a ds.length c) ds → Calls Tryz.prog 6 #[.agg #[.int .i64 id, .int .u64 lo, .int .u64 hi, .slice a ds.length c, .int .i64 0, .slice none 0 0]] W (TwD W id lo hi 0 ds [])) := fun W a c B h => by
    obtain ⟨a1, q1, e1, hn1, hs1⟩ := h.slice
    injection e1 with i1 i2 i3
    subst i1 i3
    exact twin_any W id lo hi 0 a none c 0 ds [] h.sees hn1 (fun ad e _ => by obtain ⟨b', e5, _⟩ := hs1 ad e; exact ⟨b', 0, e5⟩) hdl (fun i hi => absurd hi (by simp)) (fun _ => ⟨rfl, rfl⟩) (fun ad e => by cases e) (by simp)
  have HTq2 : Hid (∀ W a c B, ownE W B (.slice a es.length c) es → Calls Tryz.prog 6 #[.agg #[.int .i64 id, .int .u64 0, .int .u64 0, .slice none 0 0, .int .i64 gen, .slice a es.length c]] W (TwD W id 0 0 gen [] es)) := fun W a c B h => by
    obtain ⟨a1, q1, e1, hn1, hs1⟩ := h.slice
    injection e1 with i1 i2 i3
    subst i1 i3
    exact twin_any W id 0 0 gen none a 0 c [] es (fun i hi => absurd hi (by simp)) (fun _ => ⟨rfl, rfl⟩) (fun ad e => by cases e) (by simp) h.sees hn1 (fun ad e _ => by obtain ⟨b', e5, _⟩ := hs1 ad e; exact ⟨b', 0, e5⟩) hl
  have HSm1 : Hid (∀ W a c, SeesT W W.heap.size a ds → Below w.heap.size w W → Calls Tryz.prog 15 #[.slice a ds.length c, .slice da ds.length dc] W fun e w' => e = .returned (.bool true) ∧ Below W.heap.size W w') := fun W a c h hb => sameData_eq W a da c dc ds h (hd.more hb) (by omega)
  have HSm2 : Hid (∀ W a c, SeesE W W.heap.size a es → Below w.heap.size w W → Calls Tryz.prog 19 #[.slice a es.length c, .slice ao es.length cap] W fun e w' => e = .returned (.bool true) ∧ Below W.heap.size W w') := fun W a c h hb => sameGone_eq W a ao c cap es h (he.more hb) (by omega)
  have HSm3 : Hid (∀ W a c, SeesP W W.heap.size a ps → Below w.heap.size w W → Calls Tryz.prog 23 #[.agg #[.int .i64 mg, .int .i64 mn, .int .u64 mu, .slice a ps.length c], .agg #[.int .i64 mg, .int .i64 mn, .int .u64 mu, .slice ma ps.length mc]] W fun e w' => e = .returned (.bool true) ∧ Below W.heap.size W w') := fun W a c h hb => sameM_eq W mg mn mu a ma c mc ps h (hp.moreT hb) (by omega)
  have HS0 : Hid (TlS w id lo hi gen mg mn mu da ao ma dc cap mc ds es ps ((w.alloc (.cells #[.int .i64 id, .int .u64 lo, .int .u64 hi, .slice da ds.length dc, .int .i64 gen, .slice ao es.length cap] 26)).alloc (.cells #[.int .i64 mg, .int .i64 mn, .int .u64 mu, .slice ma ps.length mc] 29))) := by
    refine ⟨((Below.refl _ _).alloc (Nat.le_refl _) _).alloc (by simp) _, (Below.heap_alloc _ _ _ (by simp)).trans (heap_alloc_new w _), ?_⟩
    have := heap_alloc_new (w.alloc (.cells #[.int .i64 id, .int .u64 lo, .int .u64 hi, .slice da ds.length dc, .int .i64 gen, .slice ao es.length cap] 26)) (.cells #[.int .i64 mg, .int .i64 mn, .int .u64 mu, .slice ma ps.length mc] 29)
    rw [show (w.alloc (.cells #[.int .i64 id, .int .u64 lo, .int .u64 hi, .slice da ds.length dc, .int .i64 gen, .slice ao es.length cap] 26)).heap.size = w.heap.size + 1 from by simp] at this
    exact this
  clear hT0 hd hdc hda he hcap hao hp hmc hma hwd hwe hwp
  subst hxz
  go_enter Tryz.func5, Tryz.ntmps5
  have hstart : True := trivial
  go_wp2_with fail
  generalize (w.alloc (.cells #[.int .i64 id, .int .u64 lo, .int .u64 hi, .slice da ds.length dc, .int .i64 gen, .slice ao es.length cap] 26)).alloc (.cells #[.int .i64 mg, .int .i64 mn, .int .u64 mu, .slice ma ps.length mc] 29) = W0 at *
  have hD : mayA id lo hi ds := hmust.1
  obtain ⟨S1, hS1, hlo1, hhi1, hdc1, hdt1⟩ := data_back id lo hi ds hlo0 hD HWd.out
  have HEn1 : Hid (∀ W g a c a' n' c', SeesT W W.heap.size a ds → Below w.heap.size w W → Calls Tryz.prog 7 #[.agg #[.int .i64 id, .int .u64 lo, .int .u64 hi, .slice a ds.length c, .int .i64 g, .slice a' n' c']] W fun e w' => e = .returned (.tuple #[.string S1, .int .i64 0]) ∧ Below W.heap.size W w') := fun W g a c a' n' c' h hb => (encData_any W id g lo hi a a' n' c c' ds hlo0 h HWd.out (HT.out.later hb)).mono fun e w' ⟨h1, h2, h3⟩ => ⟨by rw [hS1]; exact h1 hD, h3⟩
  have HDc1 : Hid _ := hdc1
  have HDt1 : Hid _ := hdt1
  have HFl1 : Hid (∀ W, _) := fun W => flipped_any W S1 n 0 (by omega) (by omega) hn (by omega)
  have hnl1 : ¬ S1.toList = [] := toList_ne hlo1
  have hni1 : S1.toList.isEmpty = false := List.isEmpty_eq_false_iff.2 hnl1
  have hbs1 := bytes_beq S1 S1
  rw [decide_eq_true rfl] at hbs1
  clear hdc1 hdt1 hlo1 hhi1 hS1
  refine (HTw.out W0 HS0.out).mono ?_
  rintro e wt1 ⟨hb4, v2, u3, rfl, hv5, hu6⟩
  obtain ⟨a7, c8, rfl, -, -⟩ := hv5.slice
  obtain ⟨b9, d10, rfl, -, -⟩ := hu6.slice
  have HS11 : Hid (TlS w id lo hi gen mg mn mu da ao ma dc cap mc ds es ps wt1) := HS0.out.later hb4
  have HO12 : Hid (SeesT wt1 wt1.heap.size a7 ds) := hv5.sees
  clear hb4 hv5 hu6 HS0
  go_wp2_with fail
  refine (HEn1.out wt1 gen a7 c8 b9 es.length d10 HO12.out HS11.out.bel).mono ?_
  rintro e we13 ⟨rfl, hb14⟩
  have HS15 : Hid (TlS w id lo hi gen mg mn mu da ao ma dc cap mc ds es ps we13) := HS11.out.later hb14
  clear hb14 HS11 HO12
  go_wp2_with fail
  refine (num_any 0 we13 (by omega) (by omega)).mono ?_
  rintro e wn16 ⟨rfl, rfl⟩
  go_wp2_with fail
  refine (num_any 0 wn16 (by omega) (by omega)).mono ?_
  rintro e wn17 ⟨rfl, rfl⟩
  go_wp2_with fail
  refine (HDc1.out wn17 (HT.out.later HS15.out.bel)).mono ?_
  rintro e wd18 ⟨hb19, v20, rfl, ho21⟩
  obtain ⟨a22, c23, rfl, -, -⟩ := ho21.slice
  have hal27 : Below wd18.heap.size wd18 (wd18.alloc (.cells #[.int .i64 id, .int .u64 lo, .int .u64 hi, .slice a22 ds.length c23, .int .i64 0, .slice none 0 0] 26)) := (Below.refl _ _).alloc (Nat.le_refl _) _
  have HQ24 : Hid (Fp6 (wd18.alloc (.cells #[.int .i64 id, .int .u64 lo, .int .u64 hi, .slice a22 ds.length c23, .int .i64 0, .slice none 0 0] 26)) wd18.heap.size (.int .i64 id) (.int .u64 lo) (.int .u64 hi) (.slice a22 ds.length c23) (.int .i64 0) (.slice none 0 0)) := heap_alloc_new wd18 _
  have HO25 : Hid (ownT (wd18.alloc (.cells #[.int .i64 id, .int .u64 lo, .int .u64 hi, .slice a22 ds.length c23, .int .i64 0, .slice none 0 0] 26)) wn17.heap.size (.slice a22 ds.length c23) ds) := ho21.later hal27
  have HS26 : Hid (TlS w id lo hi gen mg mn mu da ao ma dc cap mc ds es ps (wd18.alloc (.cells #[.int .i64 id, .int .u64 lo, .int .u64 hi, .slice a22 ds.length c23, .int .i64 0, .slice none 0 0] 26))) := (HS15.out.later hb19).later hal27
  clear hb19 ho21 hal27 HS15
  go_wp2_with fail
  generalize hyy : wd18.alloc (.cells #[.int .i64 id, .int .u64 lo, .int .u64 hi, .slice a22 ds.length c23, .int .i64 0, .slice none 0 0] 26) = y28 at *
  generalize hqq : wd18.heap.size = Q29 at *
  clear hyy hqq
  refine (HTq1.out y28 a22 c23 wn17.heap.size HO25.out).mono ?_
  rintro e wt30 ⟨hb31, v32, u33, rfl, hv34, hu35⟩
  obtain ⟨a36, c37, rfl, -, -⟩ := hv34.slice
  obtain ⟨b38, d39, rfl, -, -⟩ := hu35.slice
  have HS40 : Hid (TlS w id lo hi gen mg mn mu da ao ma dc cap mc ds es ps wt30) := HS26.out.later hb31
  have HQ41 : Hid (Fp6 wt30 Q29 (.int .i64 id) (.int .u64 lo) (.int .u64 hi) (.slice a22 ds.length c23) (.int .i64 0) (.slice none 0 0)) := HQ24.out.later hb31 HQ24.out.lt
  have HO42 : Hid (ownT wt30 wn17.heap.size (.slice a22 ds.length c23) ds) := HO25.out.later hb31
  have HX43 : Hid (SeesT wt30 wt30.heap.size a36 ds) := hv34.sees
  clear hb31 hv34 hu35 HQ24 HO25 HS26
  go_wp2_with fail
  refine (HEn1.out wt30 0 a36 c37 b38 0 d39 HX43.out HS40.out.bel).mono ?_
  rintro e we44 ⟨rfl, hb45⟩
  have HS46 : Hid (TlS w id lo hi gen mg mn mu da ao ma dc cap mc ds es ps we44) := HS40.out.later hb45
  have HQ47 : Hid (Fp6 we44 Q29 (.int .i64 id) (.int .u64 lo) (.int .u64 hi) (.slice a22 ds.length c23) (.int .i64 0) (.slice none 0 0)) := HQ41.out.later hb45 HQ41.out.lt
  have HO48 : Hid (ownT we44 wn17.heap.size (.slice a22 ds.length c23) ds) := HO42.out.later hb45
  clear hb45 HQ41 HO42 HS40 HX43
  go_wp2_with fail
  refine (num_any 0 we44 (by omega) (by omega)).mono ?_
  rintro e wn49 ⟨rfl, rfl⟩
  go_wp2_with fail
  refine (num_any 0 wn49 (by omega) (by omega)).mono ?_
  rintro e wn50 ⟨rfl, rfl⟩
  have x0 : wn50.cell? ⟨w.heap.size, 0, none⟩ = some (.int .i64 id) := HS46.out.p.cell 0
  have x1 : wn50.cell? ⟨w.heap.size, 1, none⟩ = some (.int .u64 lo) := HS46.out.p.cell 1
  have x2 : wn50.cell? ⟨w.heap.size, 2, none⟩ = some (.int .u64 hi) := HS46.out.p.cell 2
  have x3 : wn50.cell? ⟨w.heap.size, 3, none⟩ = some (.slice da ds.length dc) := HS46.out.p.cell 3
  have x4 : wn50.cell? ⟨w.heap.size, 4, none⟩ = some (.int .i64 gen) := HS46.out.p.cell 4
  have x5 : wn50.cell? ⟨w.heap.size, 5, none⟩ = some (.slice ao es.length cap) := HS46.out.p.cell 5
  have k0 : wn50.cell? ⟨Q29, 0, none⟩ = some (.int .i64 id) := HQ47.out.cell 0
  have k1 : wn50.cell? ⟨Q29, 1, none⟩ = some (.int .u64 lo) := HQ47.out.cell 1
  have k2 : wn50.cell? ⟨Q29, 2, none⟩ = some (.int .u64 hi) := HQ47.out.cell 2
  have k3 : wn50.cell? ⟨Q29, 3, none⟩ = some (.slice a22 ds.length c23) := HQ47.out.cell 3
  have k4 : wn50.cell? ⟨Q29, 4, none⟩ = some (.int .i64 0) := HQ47.out.cell 4
  have k5 : wn50.cell? ⟨Q29, 5, none⟩ = some (.slice none 0 0) := HQ47.out.cell 5
  go_wp2_with fail
  refine (HSm1.out wn50 a22 c23 HO48.out.sees HS46.out.bel).mono ?_
  rintro e ws51 ⟨rfl, hb52⟩
  have HS53 : Hid (TlS w id lo hi gen mg mn mu da ao ma dc cap mc ds es ps ws51) := HS46.out.later hb52
  have HQ54 : Hid (Fp6 ws51 Q29 (.int .i64 id) (.int .u64 lo) (.int .u64 hi) (.slice a22 ds.length c23) (.int .i64 0) (.slice none 0 0)) := HQ47.out.later hb52 HQ47.out.lt
  clear hb52 HS46 HQ47 HO48
  clear x0 x1 x2 x3 x4 x5
  clear k0 k1 k2 k3 k4 k5
  have k0 : ws51.cell? ⟨Q29, 0, none⟩ = some (.int .i64 id) := HQ54.out.cell 0
  have k1 : ws51.cell? ⟨Q29, 1, none⟩ = some (.int .u64 lo) := HQ54.out.cell 1
  have k2 : ws51.cell? ⟨Q29, 2, none⟩ = some (.int .u64 hi) := HQ54.out.cell 2
  have k3 : ws51.cell? ⟨Q29, 3, none⟩ = some (.slice a22 ds.length c23) := HQ54.out.cell 3
  have k4 : ws51.cell? ⟨Q29, 4, none⟩ = some (.int .i64 0) := HQ54.out.cell 4
  have k5 : ws51.cell? ⟨Q29, 5, none⟩ = some (.slice none 0 0) := HQ54.out.cell 5
  go_wp2_with fail
  refine (HFl1.out ws51).mono ?_
  rintro e wf55 ⟨⟨T56, rfl, hz57, ht58⟩, hb59⟩
  have HS60 : Hid (TlS w id lo hi gen mg mn mu da ao ma dc cap mc ds es ps wf55) := HS53.out.later hb59
  have HTzT56 : Hid _ := hz57
  have HTtT56 : Hid _ := ht58
  clear hb59 HS53 HQ54 hz57 ht58
  clear k0 k1 k2 k3 k4 k5
  go_wp2_with fail
  refine (HDt1.out T56 HTzT56.out wf55 (HT.out.later HS60.out.bel)).mono ?_
  rintro e wg61 ⟨hb62, q63, cc64, rfl, la65, ua66, ta67⟩
  have HS68 : Hid (TlS w id lo hi gen mg mn mu da ao ma dc cap mc ds es ps wg61) := HS60.out.later hb62
  clear hb62 HS60 ta67 HTzT56 HTtT56
  have hE : mayD id gen es := hmust.2
  obtain ⟨S2, hS2, hlo2, hhi2, hdc2, hdt2⟩ := delta_back id gen es hE HWe.out
  have HEn2 : Hid (∀ W l t a n' c a' c', SeesE W W.heap.size a' es → Below w.heap.size w W → Calls Tryz.prog 17 #[.agg #[.int .i64 id, .int .u64 l, .int .u64 t, .slice a n' c, .int .i64 gen, .slice a' es.length c']] W fun e w' => e = .returned (.tuple #[.string S2, .int .i64 0]) ∧ Below W.heap.size W w') := fun W l t a n' c a' c' h hb => (encDelta_any W id gen l t a a' n' c c' es h HWe.out (HT.out.later hb)).mono fun e w' ⟨h1, h2, h3⟩ => ⟨by rw [hS2]; exact h1 hE, h3⟩
  have HDc2 : Hid _ := hdc2
  have HDt2 : Hid _ := hdt2
  have HFl2 : Hid (∀ W, _) := fun W => flipped_any W S2 n 0 (by omega) (by omega) hn (by omega)
  have hnl2 : ¬ S2.toList = [] := toList_ne hlo2
  have hni2 : S2.toList.isEmpty = false := List.isEmpty_eq_false_iff.2 hnl2
  have hbs2 := bytes_beq S2 S2
  rw [decide_eq_true rfl] at hbs2
  clear hdc2 hdt2 hlo2 hhi2 hS2
  have x0 : wg61.cell? ⟨w.heap.size, 0, none⟩ = some (.int .i64 id) := HS68.out.p.cell 0
  have x1 : wg61.cell? ⟨w.heap.size, 1, none⟩ = some (.int .u64 lo) := HS68.out.p.cell 1
  have x2 : wg61.cell? ⟨w.heap.size, 2, none⟩ = some (.int .u64 hi) := HS68.out.p.cell 2
  have x3 : wg61.cell? ⟨w.heap.size, 3, none⟩ = some (.slice da ds.length dc) := HS68.out.p.cell 3
  have x4 : wg61.cell? ⟨w.heap.size, 4, none⟩ = some (.int .i64 gen) := HS68.out.p.cell 4
  have x5 : wg61.cell? ⟨w.heap.size, 5, none⟩ = some (.slice ao es.length cap) := HS68.out.p.cell 5
  go_wp2_with fail
  refine (HTw.out wg61 HS68.out).mono ?_
  rintro e wt69 ⟨hb72, v70, u71, rfl, hv73, hu74⟩
  obtain ⟨a75, c76, rfl, -, -⟩ := hv73.slice
  obtain ⟨b77, d78, rfl, -, -⟩ := hu74.slice
  have HS79 : Hid (TlS w id lo hi gen mg mn mu da ao ma dc cap mc ds es ps wt69) := HS68.out.later hb72
  have HO80 : Hid (SeesE wt69 wt69.heap.size b77 es) := hu74.sees
  clear hb72 hv73 hu74 HS68
  clear x0 x1 x2 x3 x4 x5
  go_wp2_with fail
  refine (HEn2.out wt69 lo hi a75 ds.length c76 b77 d78 HO80.out HS79.out.bel).mono ?_
  rintro e we81 ⟨rfl, hb82⟩
  have HS83 : Hid (TlS w id lo hi gen mg mn mu da ao ma dc cap mc ds es ps we81) := HS79.out.later hb82
  clear hb82 HS79 HO80
  go_wp2_with fail
  refine (num_any 0 we81 (by omega) (by omega)).mono ?_
  rintro e wn84 ⟨rfl, rfl⟩
  go_wp2_with fail
  refine (num_any 0 wn84 (by omega) (by omega)).mono ?_
  rintro e wn85 ⟨rfl, rfl⟩
  go_wp2_with fail
  refine (HDc2.out wn85 (HT.out.later HS83.out.bel)).mono ?_
  rintro e wd86 ⟨hb87, v88, rfl, ho89⟩
  obtain ⟨a90, c91, rfl, -, -⟩ := ho89.slice
  have hal95 : Below wd86.heap.size wd86 (wd86.alloc (.cells #[.int .i64 id, .int .u64 0, .int .u64 0, .slice none 0 0, .int .i64 gen, .slice a90 es.length c91] 26)) := (Below.refl _ _).alloc (Nat.le_refl _) _
  have HQ92 : Hid (Fp6 (wd86.alloc (.cells #[.int .i64 id, .int .u64 0, .int .u64 0, .slice none 0 0, .int .i64 gen, .slice a90 es.length c91] 26)) wd86.heap.size (.int .i64 id) (.int .u64 0) (.int .u64 0) (.slice none 0 0) (.int .i64 gen) (.slice a90 es.length c91)) := heap_alloc_new wd86 _
  have HO93 : Hid (ownE (wd86.alloc (.cells #[.int .i64 id, .int .u64 0, .int .u64 0, .slice none 0 0, .int .i64 gen, .slice a90 es.length c91] 26)) wn85.heap.size (.slice a90 es.length c91) es) := ho89.later hal95
  have HS94 : Hid (TlS w id lo hi gen mg mn mu da ao ma dc cap mc ds es ps (wd86.alloc (.cells #[.int .i64 id, .int .u64 0, .int .u64 0, .slice none 0 0, .int .i64 gen, .slice a90 es.length c91] 26))) := (HS83.out.later hb87).later hal95
  clear hb87 ho89 hal95 HS83
  go_wp2_with fail
  generalize hyy : wd86.alloc (.cells #[.int .i64 id, .int .u64 0, .int .u64 0, .slice none 0 0, .int .i64 gen, .slice a90 es.length c91] 26) = y96 at *
  generalize hqq : wd86.heap.size = Q97 at *
  clear hyy hqq
  refine (HTq2.out y96 a90 c91 wn85.heap.size HO93.out).mono ?_
  rintro e wt98 ⟨hb99, v100, u101, rfl, hv102, hu103⟩
  obtain ⟨a104, c105, rfl, -, -⟩ := hv102.slice
  obtain ⟨b106, d107, rfl, -, -⟩ := hu103.slice
  have HS108 : Hid (TlS w id lo hi gen mg mn mu da ao ma dc cap mc ds es ps wt98) := HS94.out.later hb99
  have HQ109 : Hid (Fp6 wt98 Q97 (.int .i64 id) (.int .u64 0) (.int .u64 0) (.slice none 0 0) (.int .i64 gen) (.slice a90 es.length c91)) := HQ92.out.later hb99 HQ92.out.lt
  have HO110 : Hid (ownE wt98 wn85.heap.size (.slice a90 es.length c91) es) := HO93.out.later hb99
  have HX111 : Hid (SeesE wt98 wt98.heap.size b106 es) := hu103.sees
  clear hb99 hv102 hu103 HQ92 HO93 HS94
  go_wp2_with fail
  refine (HEn2.out wt98 0 0 a104 0 c105 b106 d107 HX111.out HS108.out.bel).mono ?_
  rintro e we112 ⟨rfl, hb113⟩
  have HS114 : Hid (TlS w id lo hi gen mg mn mu da ao ma dc cap mc ds es ps we112) := HS108.out.later hb113
  have HQ115 : Hid (Fp6 we112 Q97 (.int .i64 id) (.int .u64 0) (.int .u64 0) (.slice none 0 0) (.int .i64 gen) (.slice a90 es.length c91)) := HQ109.out.later hb113 HQ109.out.lt
  have HO116 : Hid (ownE we112 wn85.heap.size (.slice a90 es.length c91) es) := HO110.out.later hb113
  clear hb113 HQ109 HO110 HS108 HX111
  go_wp2_with fail
  refine (num_any 0 we112 (by omega) (by omega)).mono ?_
  rintro e wn117 ⟨rfl, rfl⟩
  go_wp2_with fail
  refine (num_any 0 wn117 (by omega) (by omega)).mono ?_
  rintro e wn118 ⟨rfl, rfl⟩
  have x0 : wn118.cell? ⟨w.heap.size, 0, none⟩ = some (.int .i64 id) := HS114.out.p.cell 0
  have x1 : wn118.cell? ⟨w.heap.size, 1, none⟩ = some (.int .u64 lo) := HS114.out.p.cell 1
  have x2 : wn118.cell? ⟨w.heap.size, 2, none⟩ = some (.int .u64 hi) := HS114.out.p.cell 2
  have x3 : wn118.cell? ⟨w.heap.size, 3, none⟩ = some (.slice da ds.length dc) := HS114.out.p.cell 3
  have x4 : wn118.cell? ⟨w.heap.size, 4, none⟩ = some (.int .i64 gen) := HS114.out.p.cell 4
  have x5 : wn118.cell? ⟨w.heap.size, 5, none⟩ = some (.slice ao es.length cap) := HS114.out.p.cell 5
  have k0 : wn118.cell? ⟨Q97, 0, none⟩ = some (.int .i64 id) := HQ115.out.cell 0
  have k1 : wn118.cell? ⟨Q97, 1, none⟩ = some (.int .u64 0) := HQ115.out.cell 1
  have k2 : wn118.cell? ⟨Q97, 2, none⟩ = some (.int .u64 0) := HQ115.out.cell 2
  have k3 : wn118.cell? ⟨Q97, 3, none⟩ = some (.slice none 0 0) := HQ115.out.cell 3
  have k4 : wn118.cell? ⟨Q97, 4, none⟩ = some (.int .i64 gen) := HQ115.out.cell 4
  have k5 : wn118.cell? ⟨Q97, 5, none⟩ = some (.slice a90 es.length c91) := HQ115.out.cell 5
  go_wp2_with fail
  refine (HSm2.out wn118 a90 c91 HO116.out.sees HS114.out.bel).mono ?_
  rintro e ws119 ⟨rfl, hb120⟩
  have HS121 : Hid (TlS w id lo hi gen mg mn mu da ao ma dc cap mc ds es ps ws119) := HS114.out.later hb120
  have HQ122 : Hid (Fp6 ws119 Q97 (.int .i64 id) (.int .u64 0) (.int .u64 0) (.slice none 0 0) (.int .i64 gen) (.slice a90 es.length c91)) := HQ115.out.later hb120 HQ115.out.lt
  clear hb120 HS114 HQ115 HO116
  clear x0 x1 x2 x3 x4 x5
  clear k0 k1 k2 k3 k4 k5
  have k0 : ws119.cell? ⟨Q97, 0, none⟩ = some (.int .i64 id) := HQ122.out.cell 0
  have k1 : ws119.cell? ⟨Q97, 1, none⟩ = some (.int .u64 0) := HQ122.out.cell 1
  have k2 : ws119.cell? ⟨Q97, 2, none⟩ = some (.int .u64 0) := HQ122.out.cell 2
  have k3 : ws119.cell? ⟨Q97, 3, none⟩ = some (.slice none 0 0) := HQ122.out.cell 3
  have k4 : ws119.cell? ⟨Q97, 4, none⟩ = some (.int .i64 gen) := HQ122.out.cell 4
  have k5 : ws119.cell? ⟨Q97, 5, none⟩ = some (.slice a90 es.length c91) := HQ122.out.cell 5
  go_wp2_with fail
  refine (HFl2.out ws119).mono ?_
  rintro e wf123 ⟨⟨T124, rfl, hz125, ht126⟩, hb127⟩
  have HS128 : Hid (TlS w id lo hi gen mg mn mu da ao ma dc cap mc ds es ps wf123) := HS121.out.later hb127
  have HTzT124 : Hid _ := hz125
  have HTtT124 : Hid _ := ht126
  clear hb127 HS121 HQ122 hz125 ht126
  clear k0 k1 k2 k3 k4 k5
  go_wp2_with fail
  refine (HDt2.out T124 HTzT124.out wf123 (HT.out.later HS128.out.bel)).mono ?_
  rintro e wg129 ⟨hb130, q131, cc132, rfl, la133, ua134, ta135⟩
  have HS136 : Hid (TlS w id lo hi gen mg mn mu da ao ma dc cap mc ds es ps wg129) := HS128.out.later hb130
  clear hb130 HS128 ta135 HTzT124 HTtT124
  by_cases hM : mayM mg mn mu ps
  · obtain ⟨S3, hS3, hlo3, hhi3, hdc3, hdt3⟩ := man_back mg mn mu ps hmu0 hM HWp.out
    have HEn3 : Hid (∀ W a c, SeesP W W.heap.size a ps → Below w.heap.size w W → Calls Tryz.prog 20 #[.agg #[.int .i64 mg, .int .i64 mn, .int .u64 mu, .slice a ps.length c]] W fun e w' => e = .returned (.tuple #[.string S3, .int .i64 0]) ∧ Below W.heap.size W w') := fun W a c h hb => (encMan_any W mg mn mu a c ps h HWp.out hmu0 (HT.out.later hb)).mono fun e w' ⟨h1, h2, h3⟩ => ⟨by rw [hS3]; exact h1 hM, h3⟩
    have HDc3 : Hid _ := hdc3
    have HDt3 : Hid _ := hdt3
    have HFl3 : Hid (∀ W, _) := fun W => flipped_any W S3 n 0 (by omega) (by omega) hn (by omega)
    have hnl3 : ¬ S3.toList = [] := toList_ne hlo3
    have hni3 : S3.toList.isEmpty = false := List.isEmpty_eq_false_iff.2 hnl3
    have hbs3 := bytes_beq S3 S3
    rw [decide_eq_true rfl] at hbs3
    clear hdc3 hdt3 hlo3 hhi3 hS3
    have x0 : wg129.cell? ⟨w.heap.size + 1, 0, none⟩ = some (.int .i64 mg) := HS136.out.m.cell 0
    have x1 : wg129.cell? ⟨w.heap.size + 1, 1, none⟩ = some (.int .i64 mn) := HS136.out.m.cell 1
    have x2 : wg129.cell? ⟨w.heap.size + 1, 2, none⟩ = some (.int .u64 mu) := HS136.out.m.cell 2
    have x3 : wg129.cell? ⟨w.heap.size + 1, 3, none⟩ = some (.slice ma ps.length mc) := HS136.out.m.cell 3
    go_wp2_with fail
    refine (HTm.out wg129 HS136.out).mono ?_
    rintro e wt137 ⟨hb138, v139, rfl, hv140⟩
    obtain ⟨a141, c142, rfl, -, -⟩ := hv140.slice
    have HS143 : Hid (TlS w id lo hi gen mg mn mu da ao ma dc cap mc ds es ps wt137) := HS136.out.later hb138
    have HO144 : Hid (SeesP wt137 wt137.heap.size a141 ps) := hv140.sees
    clear hb138 hv140 HS136
    clear x0 x1 x2 x3
    go_wp2_with fail
    refine (HEn3.out wt137 a141 c142 HO144.out HS143.out.bel).mono ?_
    rintro e we145 ⟨rfl, hb146⟩
    have HS147 : Hid (TlS w id lo hi gen mg mn mu da ao ma dc cap mc ds es ps we145) := HS143.out.later hb146
    clear hb146 HS143 HO144
    go_wp2_with fail
    refine (num_any 0 we145 (by omega) (by omega)).mono ?_
    rintro e wn148 ⟨rfl, rfl⟩
    go_wp2_with fail
    refine (HDc3.out wn148 (HT.out.later HS147.out.bel)).mono ?_
    rintro e wd149 ⟨hb150, v151, rfl, ho152⟩
    obtain ⟨a153, c154, rfl, -, -⟩ := ho152.slice
    have hal158 : Below wd149.heap.size wd149 (wd149.alloc (.cells #[.int .i64 mg, .int .i64 mn, .int .u64 mu, .slice a153 ps.length c154] 29)) := (Below.refl _ _).alloc (Nat.le_refl _) _
    have HQ155 : Hid (Mn4 (wd149.alloc (.cells #[.int .i64 mg, .int .i64 mn, .int .u64 mu, .slice a153 ps.length c154] 29)) wd149.heap.size (.int .i64 mg) (.int .i64 mn) (.int .u64 mu) (.slice a153 ps.length c154)) := heap_alloc_new wd149 _
    have HO156 : Hid (ownP (wd149.alloc (.cells #[.int .i64 mg, .int .i64 mn, .int .u64 mu, .slice a153 ps.length c154] 29)) wn148.heap.size (.slice a153 ps.length c154) ps) := ho152.later hal158
    have HS157 : Hid (TlS w id lo hi gen mg mn mu da ao ma dc cap mc ds es ps (wd149.alloc (.cells #[.int .i64 mg, .int .i64 mn, .int .u64 mu, .slice a153 ps.length c154] 29))) := (HS147.out.later hb150).later hal158
    clear hb150 ho152 hal158 HS147
    go_wp2_with fail
    generalize hyy : wd149.alloc (.cells #[.int .i64 mg, .int .i64 mn, .int .u64 mu, .slice a153 ps.length c154] 29) = y159 at *
    generalize hqq : wd149.heap.size = Q160 at *
    clear hyy hqq
    refine (num_any 0 y159 (by omega) (by omega)).mono ?_
    rintro e wn161 ⟨rfl, rfl⟩
    have x0 : wn161.cell? ⟨w.heap.size + 1, 0, none⟩ = some (.int .i64 mg) := HS157.out.m.cell 0
    have x1 : wn161.cell? ⟨w.heap.size + 1, 1, none⟩ = some (.int .i64 mn) := HS157.out.m.cell 1
    have x2 : wn161.cell? ⟨w.heap.size + 1, 2, none⟩ = some (.int .u64 mu) := HS157.out.m.cell 2
    have x3 : wn161.cell? ⟨w.heap.size + 1, 3, none⟩ = some (.slice ma ps.length mc) := HS157.out.m.cell 3
    have k0 : wn161.cell? ⟨Q160, 0, none⟩ = some (.int .i64 mg) := HQ155.out.cell 0
    have k1 : wn161.cell? ⟨Q160, 1, none⟩ = some (.int .i64 mn) := HQ155.out.cell 1
    have k2 : wn161.cell? ⟨Q160, 2, none⟩ = some (.int .u64 mu) := HQ155.out.cell 2
    have k3 : wn161.cell? ⟨Q160, 3, none⟩ = some (.slice a153 ps.length c154) := HQ155.out.cell 3
    go_wp2_with fail
    refine (HSm3.out wn161 a153 c154 HO156.out.sees HS157.out.bel).mono ?_
    rintro e ws162 ⟨rfl, hb163⟩
    have HS164 : Hid (TlS w id lo hi gen mg mn mu da ao ma dc cap mc ds es ps ws162) := HS157.out.later hb163
    clear hb163 HS157 HQ155 HO156
    clear x0 x1 x2 x3
    clear k0 k1 k2 k3
    go_wp2_with fail
    refine (HFl3.out ws162).mono ?_
    rintro e wf165 ⟨⟨T166, rfl, hz167, ht168⟩, hb169⟩
    have HS170 : Hid (TlS w id lo hi gen mg mn mu da ao ma dc cap mc ds es ps wf165) := HS164.out.later hb169
    have HTzT166 : Hid _ := hz167
    have HTtT166 : Hid _ := ht168
    clear hb169 HS164 hz167 ht168
    go_wp2_with fail
    refine (HDt3.out T166 HTzT166.out wf165 (HT.out.later HS170.out.bel)).mono ?_
    rintro e wg171 ⟨hb172, q173, cc174, rfl, la175, ua176, ta177⟩
    have HS178 : Hid (TlS w id lo hi gen mg mn mu da ao ma dc cap mc ds es ps wg171) := HS170.out.later hb172
    clear hb172 HS170 ta177 HTzT166 HTtT166
    go_wp2
    go_ret
    exact ⟨rfl, HS178.out.bel⟩
  · have HEn3 : Hid (∀ W a c, SeesP W W.heap.size a ps → Below w.heap.size w W → Calls Tryz.prog 20 #[.agg #[.int .i64 mg, .int .i64 mn, .int .u64 mu, .slice a ps.length c]] W fun e w' => e = .returned (.tuple #[.string ⟨#[]⟩, .int .i64 2]) ∧ Below W.heap.size W w') := fun W a c h hb => (encMan_any W mg mn mu a c ps h HWp.out hmu0 (HT.out.later hb)).mono fun e w' ⟨h1, h2, h3⟩ => ⟨h2 hM, h3⟩
    have x0 : wg129.cell? ⟨w.heap.size + 1, 0, none⟩ = some (.int .i64 mg) := HS136.out.m.cell 0
    have x1 : wg129.cell? ⟨w.heap.size + 1, 1, none⟩ = some (.int .i64 mn) := HS136.out.m.cell 1
    have x2 : wg129.cell? ⟨w.heap.size + 1, 2, none⟩ = some (.int .u64 mu) := HS136.out.m.cell 2
    have x3 : wg129.cell? ⟨w.heap.size + 1, 3, none⟩ = some (.slice ma ps.length mc) := HS136.out.m.cell 3
    go_wp2_with fail
    refine (HTm.out wg129 HS136.out).mono ?_
    rintro e wt179 ⟨hb180, v181, rfl, hv182⟩
    obtain ⟨a183, c184, rfl, -, -⟩ := hv182.slice
    have HS185 : Hid (TlS w id lo hi gen mg mn mu da ao ma dc cap mc ds es ps wt179) := HS136.out.later hb180
    have HO186 : Hid (SeesP wt179 wt179.heap.size a183 ps) := hv182.sees
    clear hb180 hv182 HS136
    clear x0 x1 x2 x3
    go_wp2_with fail
    refine (HEn3.out wt179 a183 c184 HO186.out HS185.out.bel).mono ?_
    rintro e we187 ⟨rfl, hb188⟩
    have HS189 : Hid (TlS w id lo hi gen mg mn mu da ao ma dc cap mc ds es ps we187) := HS185.out.later hb188
    clear hb188 HS185 HO186
    go_wp2_with fail
    refine (num_any 2 we187 (by omega) (by omega)).mono ?_
    rintro e wn190 ⟨rfl, rfl⟩
    have hb00 := bytes_beq (⟨#[]⟩ : ByteArray) ⟨#[]⟩
    rw [decide_eq_true rfl] at hb00
    go_wp2
    go_ret
    exact ⟨rfl, HS189.out.bel⟩
end Go.Proofs.YtbfjnidpjmhfiaaGreatDoor

namespace Go.Proofs.YtbfjnidpjmhfiaaGreatDoor
open Go.ChangeShapes Go.WideShapes Go.ChangeAt Go.RowKit
set_option linter.unusedVariables false
set_option maxRecDepth 100000
set_option maxHeartbeats 51200000 in
theorem tells_TeB (w : World) (id lo hi gen mg mn mu : Int) (da ao ma : Option Addr) (dc cap mc : Nat) (ds : List DT) (es : List ER) (ps : List PN) (n x : Nat) (hlo0 : 0 ≤ lo) (hmu0 : 0 ≤ mu)
    (hd : SeesT w w.heap.size da ds) (hdc : da = none → ds = [] ∧ dc = 0) (hda : ∀ ad, da = some ad → ds ≠ [] → ∃ b off, ad = ⟨b, off, none⟩) (hdl : ds.length * 40 ≤ 140737488355328) (hwd : ∀ p ∈ ds, p.wf)
    (he : SeesE w w.heap.size ao es) (hcap : ao = none → es = [] ∧ cap = 0) (hao : ∀ ad, ao = some ad → es ≠ [] → ∃ b off, ad = ⟨b, off, none⟩) (hl : es.length * 32 ≤ 140737488355328) (hwe : ∀ p ∈ es, p.wf)
    (hp : SeesP w w.heap.size ma ps) (hmc : ma = none → ps = [] ∧ mc = 0) (hma : ∀ ad, ma = some ad → ps ≠ [] → ∃ b off, ad = ⟨b, off, none⟩) (hpl : ps.length * 56 ≤ 140737488355328) (hwp : ∀ p ∈ ps, p.wf)
    (hn : n ≤ 18446744073709551615) (hx : x < 256) (hx0 : x ≠ 0) (hmust : mayA id lo hi ds ∧ mayD id gen es) (hT0 : HalfAt w) :
    Calls Tryz.prog 5 #[.agg #[.int .i64 id, .int .u64 lo, .int .u64 hi, .slice da ds.length dc, .int .i64 gen, .slice ao es.length cap], .agg #[.int .i64 mg, .int .i64 mn, .int .u64 mu, .slice ma ps.length mc], .int .u64 (n : Int), .int .u8 (x : Int), .bool true] w fun e w' => e = .returned (.bool true) ∧ Below w.heap.size w w' := by
  have HT : Hid (HalfAt w) := hT0
  have HWd : Hid (∀ p ∈ ds, p.wf) := hwd
  have HWe : Hid (∀ p ∈ es, p.wf) := hwe
  have HWp : Hid (∀ p ∈ ps, p.wf) := hwp
  have HTw : Hid (∀ W, TlS w id lo hi gen mg mn mu da ao ma dc cap mc ds es ps W → Calls Tryz.prog 6 #[.agg #[.int .i64 id, .int .u64 lo, .int .u64 hi, .slice da ds.length dc, .int .i64 gen, .slice ao es.length cap]] W (TwD W id lo hi gen ds es)) := fun W h => twin_any W id lo hi gen da ao dc cap ds es (hd.more h.bel) hdc hda hdl (he.more h.bel) hcap hao hl
  have HTm : Hid (∀ W, TlS w id lo hi gen mg mn mu da ao ma dc cap mc ds es ps W → Calls Tryz.prog 21 #[.agg #[.int .i64 mg, .int .i64 mn, .int .u64 mu, .slice ma ps.length mc]] W (TwM W mg mn mu ps)) := fun W h => twinM_any W mg mn mu ma mc ps (hp.moreT h.bel) hmc hma hpl
  have HTq1 : Hid (∀ W a c B, ownT W B (.slice a ds.length c) ds → Calls Tryz.prog 6 #[.agg #[.int .i64 id, .int .u64 lo, .int .u64 hi, .slice a ds.length c, .int .i64 0, .slice none 0 0]] W (TwD W id lo hi 0 ds [])) := fun W a c B h => by
    obtain ⟨a1, q1, e1, hn1, hs1⟩ := h.slice
    injection e1 with i1 i2 i3
    subst i1 i3
    exact twin_any W id lo hi 0 a none c 0 ds [] h.sees hn1 (fun ad e _ => by obtain ⟨b', e5, _⟩ := hs1 ad e; exact ⟨b', 0, e5⟩) hdl (fun i hi => absurd hi (by simp)) (fun _ => ⟨rfl, rfl⟩) (fun ad e => by cases e) (by simp)
  have HTq2 : Hid (∀ W a c B, ownE W B (.slice a es.length c) es → Calls Tryz.prog 6 #[.agg #[.int .i64 id, .int .u64 0, .int .u64 0, .slice none 0 0, .int .i64 gen, .slice a es.length c]] W (TwD W id 0 0 gen [] es)) := fun W a c B h => by
    obtain ⟨a1, q1, e1, hn1, hs1⟩ := h.slice
    injection e1 with i1 i2 i3
    subst i1 i3
    exact twin_any W id 0 0 gen none a 0 c [] es (fun i hi => absurd hi (by simp)) (fun _ => ⟨rfl, rfl⟩) (fun ad e => by cases e) (by simp) h.sees hn1 (fun ad e _ => by obtain ⟨b', e5, _⟩ := hs1 ad e; exact ⟨b', 0, e5⟩) hl
  have HSm1 : Hid (∀ W a c, SeesT W W.heap.size a ds → Below w.heap.size w W → Calls Tryz.prog 15 #[.slice a ds.length c, .slice da ds.length dc] W fun e w' => e = .returned (.bool true) ∧ Below W.heap.size W w') := fun W a c h hb => sameData_eq W a da c dc ds h (hd.more hb) (by omega)
  have HSm2 : Hid (∀ W a c, SeesE W W.heap.size a es → Below w.heap.size w W → Calls Tryz.prog 19 #[.slice a es.length c, .slice ao es.length cap] W fun e w' => e = .returned (.bool true) ∧ Below W.heap.size W w') := fun W a c h hb => sameGone_eq W a ao c cap es h (he.more hb) (by omega)
  have HSm3 : Hid (∀ W a c, SeesP W W.heap.size a ps → Below w.heap.size w W → Calls Tryz.prog 23 #[.agg #[.int .i64 mg, .int .i64 mn, .int .u64 mu, .slice a ps.length c], .agg #[.int .i64 mg, .int .i64 mn, .int .u64 mu, .slice ma ps.length mc]] W fun e w' => e = .returned (.bool true) ∧ Below W.heap.size W w') := fun W a c h hb => sameM_eq W mg mn mu a ma c mc ps h (hp.moreT hb) (by omega)
  have HS0 : Hid (TlS w id lo hi gen mg mn mu da ao ma dc cap mc ds es ps ((w.alloc (.cells #[.int .i64 id, .int .u64 lo, .int .u64 hi, .slice da ds.length dc, .int .i64 gen, .slice ao es.length cap] 26)).alloc (.cells #[.int .i64 mg, .int .i64 mn, .int .u64 mu, .slice ma ps.length mc] 29))) := by
    refine ⟨((Below.refl _ _).alloc (Nat.le_refl _) _).alloc (by simp) _, (Below.heap_alloc _ _ _ (by simp)).trans (heap_alloc_new w _), ?_⟩
    have := heap_alloc_new (w.alloc (.cells #[.int .i64 id, .int .u64 lo, .int .u64 hi, .slice da ds.length dc, .int .i64 gen, .slice ao es.length cap] 26)) (.cells #[.int .i64 mg, .int .i64 mn, .int .u64 mu, .slice ma ps.length mc] 29)
    rw [show (w.alloc (.cells #[.int .i64 id, .int .u64 lo, .int .u64 hi, .slice da ds.length dc, .int .i64 gen, .slice ao es.length cap] 26)).heap.size = w.heap.size + 1 from by simp] at this
    exact this
  clear hT0 hd hdc hda he hcap hao hp hmc hma hwd hwe hwp
  have hxi : (x : Int) ≠ 0 := by omega
  have hxb : ((x : Int) != 0) = true := by rw [bne_iff_ne]; exact hxi
  go_enter Tryz.func5, Tryz.ntmps5
  have hstart : True := trivial
  go_wp2_with fail
  generalize (w.alloc (.cells #[.int .i64 id, .int .u64 lo, .int .u64 hi, .slice da ds.length dc, .int .i64 gen, .slice ao es.length cap] 26)).alloc (.cells #[.int .i64 mg, .int .i64 mn, .int .u64 mu, .slice ma ps.length mc] 29) = W0 at *
  have hD : mayA id lo hi ds := hmust.1
  obtain ⟨S1, hS1, hlo1, hhi1, hdc1, hdt1⟩ := data_back id lo hi ds hlo0 hD HWd.out
  have HEn1 : Hid (∀ W g a c a' n' c', SeesT W W.heap.size a ds → Below w.heap.size w W → Calls Tryz.prog 7 #[.agg #[.int .i64 id, .int .u64 lo, .int .u64 hi, .slice a ds.length c, .int .i64 g, .slice a' n' c']] W fun e w' => e = .returned (.tuple #[.string S1, .int .i64 0]) ∧ Below W.heap.size W w') := fun W g a c a' n' c' h hb => (encData_any W id g lo hi a a' n' c c' ds hlo0 h HWd.out (HT.out.later hb)).mono fun e w' ⟨h1, h2, h3⟩ => ⟨by rw [hS1]; exact h1 hD, h3⟩
  have HDc1 : Hid _ := hdc1
  have HDt1 : Hid _ := hdt1
  have HFl1 : Hid (∀ W, _) := fun W => flipped_any W S1 n x (by omega) (by omega) hn hx
  have hnl1 : ¬ S1.toList = [] := toList_ne hlo1
  have hni1 : S1.toList.isEmpty = false := List.isEmpty_eq_false_iff.2 hnl1
  have hbs1 := bytes_beq S1 S1
  rw [decide_eq_true rfl] at hbs1
  clear hdc1 hdt1 hlo1 hhi1 hS1
  refine (HTw.out W0 HS0.out).mono ?_
  rintro e wt1 ⟨hb4, v2, u3, rfl, hv5, hu6⟩
  obtain ⟨a7, c8, rfl, -, -⟩ := hv5.slice
  obtain ⟨b9, d10, rfl, -, -⟩ := hu6.slice
  have HS11 : Hid (TlS w id lo hi gen mg mn mu da ao ma dc cap mc ds es ps wt1) := HS0.out.later hb4
  have HO12 : Hid (SeesT wt1 wt1.heap.size a7 ds) := hv5.sees
  clear hb4 hv5 hu6 HS0
  go_wp2_with fail
  refine (HEn1.out wt1 gen a7 c8 b9 es.length d10 HO12.out HS11.out.bel).mono ?_
  rintro e we13 ⟨rfl, hb14⟩
  have HS15 : Hid (TlS w id lo hi gen mg mn mu da ao ma dc cap mc ds es ps we13) := HS11.out.later hb14
  clear hb14 HS11 HO12
  go_wp2_with fail
  refine (num_any 0 we13 (by omega) (by omega)).mono ?_
  rintro e wn16 ⟨rfl, rfl⟩
  go_wp2_with fail
  refine (num_any 0 wn16 (by omega) (by omega)).mono ?_
  rintro e wn17 ⟨rfl, rfl⟩
  go_wp2_with fail
  refine (HDc1.out wn17 (HT.out.later HS15.out.bel)).mono ?_
  rintro e wd18 ⟨hb19, v20, rfl, ho21⟩
  obtain ⟨a22, c23, rfl, -, -⟩ := ho21.slice
  have hal27 : Below wd18.heap.size wd18 (wd18.alloc (.cells #[.int .i64 id, .int .u64 lo, .int .u64 hi, .slice a22 ds.length c23, .int .i64 0, .slice none 0 0] 26)) := (Below.refl _ _).alloc (Nat.le_refl _) _
  have HQ24 : Hid (Fp6 (wd18.alloc (.cells #[.int .i64 id, .int .u64 lo, .int .u64 hi, .slice a22 ds.length c23, .int .i64 0, .slice none 0 0] 26)) wd18.heap.size (.int .i64 id) (.int .u64 lo) (.int .u64 hi) (.slice a22 ds.length c23) (.int .i64 0) (.slice none 0 0)) := heap_alloc_new wd18 _
  have HO25 : Hid (ownT (wd18.alloc (.cells #[.int .i64 id, .int .u64 lo, .int .u64 hi, .slice a22 ds.length c23, .int .i64 0, .slice none 0 0] 26)) wn17.heap.size (.slice a22 ds.length c23) ds) := ho21.later hal27
  have HS26 : Hid (TlS w id lo hi gen mg mn mu da ao ma dc cap mc ds es ps (wd18.alloc (.cells #[.int .i64 id, .int .u64 lo, .int .u64 hi, .slice a22 ds.length c23, .int .i64 0, .slice none 0 0] 26))) := (HS15.out.later hb19).later hal27
  clear hb19 ho21 hal27 HS15
  go_wp2_with fail
  generalize hyy : wd18.alloc (.cells #[.int .i64 id, .int .u64 lo, .int .u64 hi, .slice a22 ds.length c23, .int .i64 0, .slice none 0 0] 26) = y28 at *
  generalize hqq : wd18.heap.size = Q29 at *
  clear hyy hqq
  refine (HTq1.out y28 a22 c23 wn17.heap.size HO25.out).mono ?_
  rintro e wt30 ⟨hb31, v32, u33, rfl, hv34, hu35⟩
  obtain ⟨a36, c37, rfl, -, -⟩ := hv34.slice
  obtain ⟨b38, d39, rfl, -, -⟩ := hu35.slice
  have HS40 : Hid (TlS w id lo hi gen mg mn mu da ao ma dc cap mc ds es ps wt30) := HS26.out.later hb31
  have HQ41 : Hid (Fp6 wt30 Q29 (.int .i64 id) (.int .u64 lo) (.int .u64 hi) (.slice a22 ds.length c23) (.int .i64 0) (.slice none 0 0)) := HQ24.out.later hb31 HQ24.out.lt
  have HO42 : Hid (ownT wt30 wn17.heap.size (.slice a22 ds.length c23) ds) := HO25.out.later hb31
  have HX43 : Hid (SeesT wt30 wt30.heap.size a36 ds) := hv34.sees
  clear hb31 hv34 hu35 HQ24 HO25 HS26
  go_wp2_with fail
  refine (HEn1.out wt30 0 a36 c37 b38 0 d39 HX43.out HS40.out.bel).mono ?_
  rintro e we44 ⟨rfl, hb45⟩
  have HS46 : Hid (TlS w id lo hi gen mg mn mu da ao ma dc cap mc ds es ps we44) := HS40.out.later hb45
  have HQ47 : Hid (Fp6 we44 Q29 (.int .i64 id) (.int .u64 lo) (.int .u64 hi) (.slice a22 ds.length c23) (.int .i64 0) (.slice none 0 0)) := HQ41.out.later hb45 HQ41.out.lt
  have HO48 : Hid (ownT we44 wn17.heap.size (.slice a22 ds.length c23) ds) := HO42.out.later hb45
  clear hb45 HQ41 HO42 HS40 HX43
  go_wp2_with fail
  refine (num_any 0 we44 (by omega) (by omega)).mono ?_
  rintro e wn49 ⟨rfl, rfl⟩
  go_wp2_with fail
  refine (num_any 0 wn49 (by omega) (by omega)).mono ?_
  rintro e wn50 ⟨rfl, rfl⟩
  have x0 : wn50.cell? ⟨w.heap.size, 0, none⟩ = some (.int .i64 id) := HS46.out.p.cell 0
  have x1 : wn50.cell? ⟨w.heap.size, 1, none⟩ = some (.int .u64 lo) := HS46.out.p.cell 1
  have x2 : wn50.cell? ⟨w.heap.size, 2, none⟩ = some (.int .u64 hi) := HS46.out.p.cell 2
  have x3 : wn50.cell? ⟨w.heap.size, 3, none⟩ = some (.slice da ds.length dc) := HS46.out.p.cell 3
  have x4 : wn50.cell? ⟨w.heap.size, 4, none⟩ = some (.int .i64 gen) := HS46.out.p.cell 4
  have x5 : wn50.cell? ⟨w.heap.size, 5, none⟩ = some (.slice ao es.length cap) := HS46.out.p.cell 5
  have k0 : wn50.cell? ⟨Q29, 0, none⟩ = some (.int .i64 id) := HQ47.out.cell 0
  have k1 : wn50.cell? ⟨Q29, 1, none⟩ = some (.int .u64 lo) := HQ47.out.cell 1
  have k2 : wn50.cell? ⟨Q29, 2, none⟩ = some (.int .u64 hi) := HQ47.out.cell 2
  have k3 : wn50.cell? ⟨Q29, 3, none⟩ = some (.slice a22 ds.length c23) := HQ47.out.cell 3
  have k4 : wn50.cell? ⟨Q29, 4, none⟩ = some (.int .i64 0) := HQ47.out.cell 4
  have k5 : wn50.cell? ⟨Q29, 5, none⟩ = some (.slice none 0 0) := HQ47.out.cell 5
  go_wp2_with fail
  refine (HSm1.out wn50 a22 c23 HO48.out.sees HS46.out.bel).mono ?_
  rintro e ws51 ⟨rfl, hb52⟩
  have HS53 : Hid (TlS w id lo hi gen mg mn mu da ao ma dc cap mc ds es ps ws51) := HS46.out.later hb52
  have HQ54 : Hid (Fp6 ws51 Q29 (.int .i64 id) (.int .u64 lo) (.int .u64 hi) (.slice a22 ds.length c23) (.int .i64 0) (.slice none 0 0)) := HQ47.out.later hb52 HQ47.out.lt
  clear hb52 HS46 HQ47 HO48
  clear x0 x1 x2 x3 x4 x5
  clear k0 k1 k2 k3 k4 k5
  have k0 : ws51.cell? ⟨Q29, 0, none⟩ = some (.int .i64 id) := HQ54.out.cell 0
  have k1 : ws51.cell? ⟨Q29, 1, none⟩ = some (.int .u64 lo) := HQ54.out.cell 1
  have k2 : ws51.cell? ⟨Q29, 2, none⟩ = some (.int .u64 hi) := HQ54.out.cell 2
  have k3 : ws51.cell? ⟨Q29, 3, none⟩ = some (.slice a22 ds.length c23) := HQ54.out.cell 3
  have k4 : ws51.cell? ⟨Q29, 4, none⟩ = some (.int .i64 0) := HQ54.out.cell 4
  have k5 : ws51.cell? ⟨Q29, 5, none⟩ = some (.slice none 0 0) := HQ54.out.cell 5
  go_wp2_with fail
  refine (HFl1.out ws51).mono ?_
  rintro e wf55 ⟨⟨T56, rfl, hz57, ht58⟩, hb59⟩
  have HS60 : Hid (TlS w id lo hi gen mg mn mu da ao ma dc cap mc ds es ps wf55) := HS53.out.later hb59
  have HTzT56 : Hid _ := hz57
  have HTtT56 : Hid _ := ht58
  clear hb59 HS53 HQ54 hz57 ht58
  clear k0 k1 k2 k3 k4 k5
  go_wp2_with fail
  refine (HDt1.out T56 HTzT56.out wf55 (HT.out.later HS60.out.bel)).mono ?_
  rintro e wg61 ⟨hb62, q63, cc64, rfl, la65, ua66, ta67⟩
  have HS68 : Hid (TlS w id lo hi gen mg mn mu da ao ma dc cap mc ds es ps wg61) := HS60.out.later hb62
  have hnecc64 : cc64 ≠ 0 := ta67 (HTtT56.out hx0)
  have hnbcc64 : (cc64 == 0) = false := beq_eq_false_iff_ne.2 hnecc64
  have hnccc64 : (cc64 != 0) = true := by rw [bne_iff_ne]; exact hnecc64
  clear hb62 HS60 ta67 HTzT56 HTtT56
  go_wp2_with fail
  refine (num_any cc64 wg61 la65 ua66).mono ?_
  rintro e wn69 ⟨rfl, rfl⟩
  have hE : mayD id gen es := hmust.2
  obtain ⟨S2, hS2, hlo2, hhi2, hdc2, hdt2⟩ := delta_back id gen es hE HWe.out
  have HEn2 : Hid (∀ W l t a n' c a' c', SeesE W W.heap.size a' es → Below w.heap.size w W → Calls Tryz.prog 17 #[.agg #[.int .i64 id, .int .u64 l, .int .u64 t, .slice a n' c, .int .i64 gen, .slice a' es.length c']] W fun e w' => e = .returned (.tuple #[.string S2, .int .i64 0]) ∧ Below W.heap.size W w') := fun W l t a n' c a' c' h hb => (encDelta_any W id gen l t a a' n' c c' es h HWe.out (HT.out.later hb)).mono fun e w' ⟨h1, h2, h3⟩ => ⟨by rw [hS2]; exact h1 hE, h3⟩
  have HDc2 : Hid _ := hdc2
  have HDt2 : Hid _ := hdt2
  have HFl2 : Hid (∀ W, _) := fun W => flipped_any W S2 n x (by omega) (by omega) hn hx
  have hnl2 : ¬ S2.toList = [] := toList_ne hlo2
  have hni2 : S2.toList.isEmpty = false := List.isEmpty_eq_false_iff.2 hnl2
  have hbs2 := bytes_beq S2 S2
  rw [decide_eq_true rfl] at hbs2
  clear hdc2 hdt2 hlo2 hhi2 hS2
  have x0 : wn69.cell? ⟨w.heap.size, 0, none⟩ = some (.int .i64 id) := HS68.out.p.cell 0
  have x1 : wn69.cell? ⟨w.heap.size, 1, none⟩ = some (.int .u64 lo) := HS68.out.p.cell 1
  have x2 : wn69.cell? ⟨w.heap.size, 2, none⟩ = some (.int .u64 hi) := HS68.out.p.cell 2
  have x3 : wn69.cell? ⟨w.heap.size, 3, none⟩ = some (.slice da ds.length dc) := HS68.out.p.cell 3
  have x4 : wn69.cell? ⟨w.heap.size, 4, none⟩ = some (.int .i64 gen) := HS68.out.p.cell 4
  have x5 : wn69.cell? ⟨w.heap.size, 5, none⟩ = some (.slice ao es.length cap) := HS68.out.p.cell 5
  go_wp2_with fail
  refine (HTw.out wn69 HS68.out).mono ?_
  rintro e wt70 ⟨hb73, v71, u72, rfl, hv74, hu75⟩
  obtain ⟨a76, c77, rfl, -, -⟩ := hv74.slice
  obtain ⟨b78, d79, rfl, -, -⟩ := hu75.slice
  have HS80 : Hid (TlS w id lo hi gen mg mn mu da ao ma dc cap mc ds es ps wt70) := HS68.out.later hb73
  have HO81 : Hid (SeesE wt70 wt70.heap.size b78 es) := hu75.sees
  clear hb73 hv74 hu75 HS68
  clear x0 x1 x2 x3 x4 x5
  go_wp2_with fail
  refine (HEn2.out wt70 lo hi a76 ds.length c77 b78 d79 HO81.out HS80.out.bel).mono ?_
  rintro e we82 ⟨rfl, hb83⟩
  have HS84 : Hid (TlS w id lo hi gen mg mn mu da ao ma dc cap mc ds es ps we82) := HS80.out.later hb83
  clear hb83 HS80 HO81
  go_wp2_with fail
  refine (num_any 0 we82 (by omega) (by omega)).mono ?_
  rintro e wn85 ⟨rfl, rfl⟩
  go_wp2_with fail
  refine (num_any 0 wn85 (by omega) (by omega)).mono ?_
  rintro e wn86 ⟨rfl, rfl⟩
  go_wp2_with fail
  refine (HDc2.out wn86 (HT.out.later HS84.out.bel)).mono ?_
  rintro e wd87 ⟨hb88, v89, rfl, ho90⟩
  obtain ⟨a91, c92, rfl, -, -⟩ := ho90.slice
  have hal96 : Below wd87.heap.size wd87 (wd87.alloc (.cells #[.int .i64 id, .int .u64 0, .int .u64 0, .slice none 0 0, .int .i64 gen, .slice a91 es.length c92] 26)) := (Below.refl _ _).alloc (Nat.le_refl _) _
  have HQ93 : Hid (Fp6 (wd87.alloc (.cells #[.int .i64 id, .int .u64 0, .int .u64 0, .slice none 0 0, .int .i64 gen, .slice a91 es.length c92] 26)) wd87.heap.size (.int .i64 id) (.int .u64 0) (.int .u64 0) (.slice none 0 0) (.int .i64 gen) (.slice a91 es.length c92)) := heap_alloc_new wd87 _
  have HO94 : Hid (ownE (wd87.alloc (.cells #[.int .i64 id, .int .u64 0, .int .u64 0, .slice none 0 0, .int .i64 gen, .slice a91 es.length c92] 26)) wn86.heap.size (.slice a91 es.length c92) es) := ho90.later hal96
  have HS95 : Hid (TlS w id lo hi gen mg mn mu da ao ma dc cap mc ds es ps (wd87.alloc (.cells #[.int .i64 id, .int .u64 0, .int .u64 0, .slice none 0 0, .int .i64 gen, .slice a91 es.length c92] 26))) := (HS84.out.later hb88).later hal96
  clear hb88 ho90 hal96 HS84
  go_wp2_with fail
  generalize hyy : wd87.alloc (.cells #[.int .i64 id, .int .u64 0, .int .u64 0, .slice none 0 0, .int .i64 gen, .slice a91 es.length c92] 26) = y97 at *
  generalize hqq : wd87.heap.size = Q98 at *
  clear hyy hqq
  refine (HTq2.out y97 a91 c92 wn86.heap.size HO94.out).mono ?_
  rintro e wt99 ⟨hb100, v101, u102, rfl, hv103, hu104⟩
  obtain ⟨a105, c106, rfl, -, -⟩ := hv103.slice
  obtain ⟨b107, d108, rfl, -, -⟩ := hu104.slice
  have HS109 : Hid (TlS w id lo hi gen mg mn mu da ao ma dc cap mc ds es ps wt99) := HS95.out.later hb100
  have HQ110 : Hid (Fp6 wt99 Q98 (.int .i64 id) (.int .u64 0) (.int .u64 0) (.slice none 0 0) (.int .i64 gen) (.slice a91 es.length c92)) := HQ93.out.later hb100 HQ93.out.lt
  have HO111 : Hid (ownE wt99 wn86.heap.size (.slice a91 es.length c92) es) := HO94.out.later hb100
  have HX112 : Hid (SeesE wt99 wt99.heap.size b107 es) := hu104.sees
  clear hb100 hv103 hu104 HQ93 HO94 HS95
  go_wp2_with fail
  refine (HEn2.out wt99 0 0 a105 0 c106 b107 d108 HX112.out HS109.out.bel).mono ?_
  rintro e we113 ⟨rfl, hb114⟩
  have HS115 : Hid (TlS w id lo hi gen mg mn mu da ao ma dc cap mc ds es ps we113) := HS109.out.later hb114
  have HQ116 : Hid (Fp6 we113 Q98 (.int .i64 id) (.int .u64 0) (.int .u64 0) (.slice none 0 0) (.int .i64 gen) (.slice a91 es.length c92)) := HQ110.out.later hb114 HQ110.out.lt
  have HO117 : Hid (ownE we113 wn86.heap.size (.slice a91 es.length c92) es) := HO111.out.later hb114
  clear hb114 HQ110 HO111 HS109 HX112
  go_wp2_with fail
  refine (num_any 0 we113 (by omega) (by omega)).mono ?_
  rintro e wn118 ⟨rfl, rfl⟩
  go_wp2_with fail
  refine (num_any 0 wn118 (by omega) (by omega)).mono ?_
  rintro e wn119 ⟨rfl, rfl⟩
  have x0 : wn119.cell? ⟨w.heap.size, 0, none⟩ = some (.int .i64 id) := HS115.out.p.cell 0
  have x1 : wn119.cell? ⟨w.heap.size, 1, none⟩ = some (.int .u64 lo) := HS115.out.p.cell 1
  have x2 : wn119.cell? ⟨w.heap.size, 2, none⟩ = some (.int .u64 hi) := HS115.out.p.cell 2
  have x3 : wn119.cell? ⟨w.heap.size, 3, none⟩ = some (.slice da ds.length dc) := HS115.out.p.cell 3
  have x4 : wn119.cell? ⟨w.heap.size, 4, none⟩ = some (.int .i64 gen) := HS115.out.p.cell 4
  have x5 : wn119.cell? ⟨w.heap.size, 5, none⟩ = some (.slice ao es.length cap) := HS115.out.p.cell 5
  have k0 : wn119.cell? ⟨Q98, 0, none⟩ = some (.int .i64 id) := HQ116.out.cell 0
  have k1 : wn119.cell? ⟨Q98, 1, none⟩ = some (.int .u64 0) := HQ116.out.cell 1
  have k2 : wn119.cell? ⟨Q98, 2, none⟩ = some (.int .u64 0) := HQ116.out.cell 2
  have k3 : wn119.cell? ⟨Q98, 3, none⟩ = some (.slice none 0 0) := HQ116.out.cell 3
  have k4 : wn119.cell? ⟨Q98, 4, none⟩ = some (.int .i64 gen) := HQ116.out.cell 4
  have k5 : wn119.cell? ⟨Q98, 5, none⟩ = some (.slice a91 es.length c92) := HQ116.out.cell 5
  go_wp2_with fail
  refine (HSm2.out wn119 a91 c92 HO117.out.sees HS115.out.bel).mono ?_
  rintro e ws120 ⟨rfl, hb121⟩
  have HS122 : Hid (TlS w id lo hi gen mg mn mu da ao ma dc cap mc ds es ps ws120) := HS115.out.later hb121
  have HQ123 : Hid (Fp6 ws120 Q98 (.int .i64 id) (.int .u64 0) (.int .u64 0) (.slice none 0 0) (.int .i64 gen) (.slice a91 es.length c92)) := HQ116.out.later hb121 HQ116.out.lt
  clear hb121 HS115 HQ116 HO117
  clear x0 x1 x2 x3 x4 x5
  clear k0 k1 k2 k3 k4 k5
  have k0 : ws120.cell? ⟨Q98, 0, none⟩ = some (.int .i64 id) := HQ123.out.cell 0
  have k1 : ws120.cell? ⟨Q98, 1, none⟩ = some (.int .u64 0) := HQ123.out.cell 1
  have k2 : ws120.cell? ⟨Q98, 2, none⟩ = some (.int .u64 0) := HQ123.out.cell 2
  have k3 : ws120.cell? ⟨Q98, 3, none⟩ = some (.slice none 0 0) := HQ123.out.cell 3
  have k4 : ws120.cell? ⟨Q98, 4, none⟩ = some (.int .i64 gen) := HQ123.out.cell 4
  have k5 : ws120.cell? ⟨Q98, 5, none⟩ = some (.slice a91 es.length c92) := HQ123.out.cell 5
  go_wp2_with fail
  refine (HFl2.out ws120).mono ?_
  rintro e wf124 ⟨⟨T125, rfl, hz126, ht127⟩, hb128⟩
  have HS129 : Hid (TlS w id lo hi gen mg mn mu da ao ma dc cap mc ds es ps wf124) := HS122.out.later hb128
  have HTzT125 : Hid _ := hz126
  have HTtT125 : Hid _ := ht127
  clear hb128 HS122 HQ123 hz126 ht127
  clear k0 k1 k2 k3 k4 k5
  go_wp2_with fail
  refine (HDt2.out T125 HTzT125.out wf124 (HT.out.later HS129.out.bel)).mono ?_
  rintro e wg130 ⟨hb131, q132, cc133, rfl, la134, ua135, ta136⟩
  have HS137 : Hid (TlS w id lo hi gen mg mn mu da ao ma dc cap mc ds es ps wg130) := HS129.out.later hb131
  have hnecc133 : cc133 ≠ 0 := ta136 (HTtT125.out hx0)
  have hnbcc133 : (cc133 == 0) = false := beq_eq_false_iff_ne.2 hnecc133
  have hnccc133 : (cc133 != 0) = true := by rw [bne_iff_ne]; exact hnecc133
  clear hb131 HS129 ta136 HTzT125 HTtT125
  go_wp2_with fail
  refine (num_any cc133 wg130 la134 ua135).mono ?_
  rintro e wn138 ⟨rfl, rfl⟩
  by_cases hM : mayM mg mn mu ps
  · obtain ⟨S3, hS3, hlo3, hhi3, hdc3, hdt3⟩ := man_back mg mn mu ps hmu0 hM HWp.out
    have HEn3 : Hid (∀ W a c, SeesP W W.heap.size a ps → Below w.heap.size w W → Calls Tryz.prog 20 #[.agg #[.int .i64 mg, .int .i64 mn, .int .u64 mu, .slice a ps.length c]] W fun e w' => e = .returned (.tuple #[.string S3, .int .i64 0]) ∧ Below W.heap.size W w') := fun W a c h hb => (encMan_any W mg mn mu a c ps h HWp.out hmu0 (HT.out.later hb)).mono fun e w' ⟨h1, h2, h3⟩ => ⟨by rw [hS3]; exact h1 hM, h3⟩
    have HDc3 : Hid _ := hdc3
    have HDt3 : Hid _ := hdt3
    have HFl3 : Hid (∀ W, _) := fun W => flipped_any W S3 n x (by omega) (by omega) hn hx
    have hnl3 : ¬ S3.toList = [] := toList_ne hlo3
    have hni3 : S3.toList.isEmpty = false := List.isEmpty_eq_false_iff.2 hnl3
    have hbs3 := bytes_beq S3 S3
    rw [decide_eq_true rfl] at hbs3
    clear hdc3 hdt3 hlo3 hhi3 hS3
    have x0 : wn138.cell? ⟨w.heap.size + 1, 0, none⟩ = some (.int .i64 mg) := HS137.out.m.cell 0
    have x1 : wn138.cell? ⟨w.heap.size + 1, 1, none⟩ = some (.int .i64 mn) := HS137.out.m.cell 1
    have x2 : wn138.cell? ⟨w.heap.size + 1, 2, none⟩ = some (.int .u64 mu) := HS137.out.m.cell 2
    have x3 : wn138.cell? ⟨w.heap.size + 1, 3, none⟩ = some (.slice ma ps.length mc) := HS137.out.m.cell 3
    go_wp2_with fail
    refine (HTm.out wn138 HS137.out).mono ?_
    rintro e wt139 ⟨hb140, v141, rfl, hv142⟩
    obtain ⟨a143, c144, rfl, -, -⟩ := hv142.slice
    have HS145 : Hid (TlS w id lo hi gen mg mn mu da ao ma dc cap mc ds es ps wt139) := HS137.out.later hb140
    have HO146 : Hid (SeesP wt139 wt139.heap.size a143 ps) := hv142.sees
    clear hb140 hv142 HS137
    clear x0 x1 x2 x3
    go_wp2_with fail
    refine (HEn3.out wt139 a143 c144 HO146.out HS145.out.bel).mono ?_
    rintro e we147 ⟨rfl, hb148⟩
    have HS149 : Hid (TlS w id lo hi gen mg mn mu da ao ma dc cap mc ds es ps we147) := HS145.out.later hb148
    clear hb148 HS145 HO146
    go_wp2_with fail
    refine (num_any 0 we147 (by omega) (by omega)).mono ?_
    rintro e wn150 ⟨rfl, rfl⟩
    go_wp2_with fail
    refine (HDc3.out wn150 (HT.out.later HS149.out.bel)).mono ?_
    rintro e wd151 ⟨hb152, v153, rfl, ho154⟩
    obtain ⟨a155, c156, rfl, -, -⟩ := ho154.slice
    have hal160 : Below wd151.heap.size wd151 (wd151.alloc (.cells #[.int .i64 mg, .int .i64 mn, .int .u64 mu, .slice a155 ps.length c156] 29)) := (Below.refl _ _).alloc (Nat.le_refl _) _
    have HQ157 : Hid (Mn4 (wd151.alloc (.cells #[.int .i64 mg, .int .i64 mn, .int .u64 mu, .slice a155 ps.length c156] 29)) wd151.heap.size (.int .i64 mg) (.int .i64 mn) (.int .u64 mu) (.slice a155 ps.length c156)) := heap_alloc_new wd151 _
    have HO158 : Hid (ownP (wd151.alloc (.cells #[.int .i64 mg, .int .i64 mn, .int .u64 mu, .slice a155 ps.length c156] 29)) wn150.heap.size (.slice a155 ps.length c156) ps) := ho154.later hal160
    have HS159 : Hid (TlS w id lo hi gen mg mn mu da ao ma dc cap mc ds es ps (wd151.alloc (.cells #[.int .i64 mg, .int .i64 mn, .int .u64 mu, .slice a155 ps.length c156] 29))) := (HS149.out.later hb152).later hal160
    clear hb152 ho154 hal160 HS149
    go_wp2_with fail
    generalize hyy : wd151.alloc (.cells #[.int .i64 mg, .int .i64 mn, .int .u64 mu, .slice a155 ps.length c156] 29) = y161 at *
    generalize hqq : wd151.heap.size = Q162 at *
    clear hyy hqq
    refine (num_any 0 y161 (by omega) (by omega)).mono ?_
    rintro e wn163 ⟨rfl, rfl⟩
    have x0 : wn163.cell? ⟨w.heap.size + 1, 0, none⟩ = some (.int .i64 mg) := HS159.out.m.cell 0
    have x1 : wn163.cell? ⟨w.heap.size + 1, 1, none⟩ = some (.int .i64 mn) := HS159.out.m.cell 1
    have x2 : wn163.cell? ⟨w.heap.size + 1, 2, none⟩ = some (.int .u64 mu) := HS159.out.m.cell 2
    have x3 : wn163.cell? ⟨w.heap.size + 1, 3, none⟩ = some (.slice ma ps.length mc) := HS159.out.m.cell 3
    have k0 : wn163.cell? ⟨Q162, 0, none⟩ = some (.int .i64 mg) := HQ157.out.cell 0
    have k1 : wn163.cell? ⟨Q162, 1, none⟩ = some (.int .i64 mn) := HQ157.out.cell 1
    have k2 : wn163.cell? ⟨Q162, 2, none⟩ = some (.int .u64 mu) := HQ157.out.cell 2
    have k3 : wn163.cell? ⟨Q162, 3, none⟩ = some (.slice a155 ps.length c156) := HQ157.out.cell 3
    go_wp2_with fail
    refine (HSm3.out wn163 a155 c156 HO158.out.sees HS159.out.bel).mono ?_
    rintro e ws164 ⟨rfl, hb165⟩
    have HS166 : Hid (TlS w id lo hi gen mg mn mu da ao ma dc cap mc ds es ps ws164) := HS159.out.later hb165
    clear hb165 HS159 HQ157 HO158
    clear x0 x1 x2 x3
    clear k0 k1 k2 k3
    go_wp2_with fail
    refine (HFl3.out ws164).mono ?_
    rintro e wf167 ⟨⟨T168, rfl, hz169, ht170⟩, hb171⟩
    have HS172 : Hid (TlS w id lo hi gen mg mn mu da ao ma dc cap mc ds es ps wf167) := HS166.out.later hb171
    have HTzT168 : Hid _ := hz169
    have HTtT168 : Hid _ := ht170
    clear hb171 HS166 hz169 ht170
    go_wp2_with fail
    refine (HDt3.out T168 HTzT168.out wf167 (HT.out.later HS172.out.bel)).mono ?_
    rintro e wg173 ⟨hb174, q175, cc176, rfl, la177, ua178, ta179⟩
    have HS180 : Hid (TlS w id lo hi gen mg mn mu da ao ma dc cap mc ds es ps wg173) := HS172.out.later hb174
    have hnecc176 : cc176 ≠ 0 := ta179 (HTtT168.out hx0)
    have hnbcc176 : (cc176 == 0) = false := beq_eq_false_iff_ne.2 hnecc176
    have hnccc176 : (cc176 != 0) = true := by rw [bne_iff_ne]; exact hnecc176
    clear hb174 HS172 ta179 HTzT168 HTtT168
    go_wp2_with fail
    refine (num_any cc176 wg173 la177 ua178).mono ?_
    rintro e wn181 ⟨rfl, rfl⟩
    go_wp2
    go_ret
    exact ⟨rfl, HS180.out.bel⟩
  · have HEn3 : Hid (∀ W a c, SeesP W W.heap.size a ps → Below w.heap.size w W → Calls Tryz.prog 20 #[.agg #[.int .i64 mg, .int .i64 mn, .int .u64 mu, .slice a ps.length c]] W fun e w' => e = .returned (.tuple #[.string ⟨#[]⟩, .int .i64 2]) ∧ Below W.heap.size W w') := fun W a c h hb => (encMan_any W mg mn mu a c ps h HWp.out hmu0 (HT.out.later hb)).mono fun e w' ⟨h1, h2, h3⟩ => ⟨h2 hM, h3⟩
    have x0 : wn138.cell? ⟨w.heap.size + 1, 0, none⟩ = some (.int .i64 mg) := HS137.out.m.cell 0
    have x1 : wn138.cell? ⟨w.heap.size + 1, 1, none⟩ = some (.int .i64 mn) := HS137.out.m.cell 1
    have x2 : wn138.cell? ⟨w.heap.size + 1, 2, none⟩ = some (.int .u64 mu) := HS137.out.m.cell 2
    have x3 : wn138.cell? ⟨w.heap.size + 1, 3, none⟩ = some (.slice ma ps.length mc) := HS137.out.m.cell 3
    go_wp2_with fail
    refine (HTm.out wn138 HS137.out).mono ?_
    rintro e wt182 ⟨hb183, v184, rfl, hv185⟩
    obtain ⟨a186, c187, rfl, -, -⟩ := hv185.slice
    have HS188 : Hid (TlS w id lo hi gen mg mn mu da ao ma dc cap mc ds es ps wt182) := HS137.out.later hb183
    have HO189 : Hid (SeesP wt182 wt182.heap.size a186 ps) := hv185.sees
    clear hb183 hv185 HS137
    clear x0 x1 x2 x3
    go_wp2_with fail
    refine (HEn3.out wt182 a186 c187 HO189.out HS188.out.bel).mono ?_
    rintro e we190 ⟨rfl, hb191⟩
    have HS192 : Hid (TlS w id lo hi gen mg mn mu da ao ma dc cap mc ds es ps we190) := HS188.out.later hb191
    clear hb191 HS188 HO189
    go_wp2_with fail
    refine (num_any 2 we190 (by omega) (by omega)).mono ?_
    rintro e wn193 ⟨rfl, rfl⟩
    have hb00 := bytes_beq (⟨#[]⟩ : ByteArray) ⟨#[]⟩
    rw [decide_eq_true rfl] at hb00
    go_wp2
    go_ret
    exact ⟨rfl, HS192.out.bel⟩
end Go.Proofs.YtbfjnidpjmhfiaaGreatDoor
