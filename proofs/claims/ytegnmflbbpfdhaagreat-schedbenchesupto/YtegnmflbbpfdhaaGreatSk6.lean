import Derived.Test.YtegnmflbbpfdhaaGreatSk5
namespace Go.Proofs.YtegnmflbbpfdhaaGreat
open Go.ChangeShapes Go.WideShapes Go.ChangeAt Go.RowKit Go.MuLone Go.RwLone
set_option linter.unusedVariables false
set_option maxRecDepth 100000
set_option maxHeartbeats 6400000
theorem eqNilBn (w : World) (x : Option Addr) : (binOp .eql 48 (.pointer x) (.pointer none)).run Tryz.prog w = .ok (.bool x.isNone) w := by
  cases x <;> kernel_rfl
theorem eqNilRb (w : World) (x : Option Addr) : (binOp .eql 53 (.pointer x) (.pointer none)).run Tryz.prog w = .ok (.bool x.isNone) w := by
  cases x <;> kernel_rfl
theorem neNilRb (w : World) (x : Option Addr) : (binOp .neq 53 (.pointer x) (.pointer none)).run Tryz.prog w = .ok (.bool (!x.isNone)) w := by
  cases x <;> kernel_rfl
theorem benches_walk (w : World) (C : Nat) (ca : Option Addr) (cc : Nat) (ta : Option Addr) (tc : Nat) (tvf : Nat → Value) (cs : List Int) (ts : List (List I8)) (h : LitG w C ca cc ta tc tvf cs ts) (hco : csOk cs) (hio : ∀ l ∈ ts, ∀ x ∈ l, immOk x) (l1 : cs.length ≤ 1048576) (l2 : ts.length ≤ 1048576) (l3 : ∀ i (hi : i < ts.length), ts[i].length ≤ 1048576)
    (da : Option Addr) (dc : Nat) (ea : Option Addr) (ec : Nat) (evf : Nat → Value) (ds : List Int) (es : List (List I8)) (h' : LitG w C da dc ea ec evf ds es) (hdo : csOk ds) (heo : ∀ l ∈ es, ∀ x ∈ l, immOk x) (m1 : ds.length ≤ 1048576) (m2 : es.length ≤ 1048576) (m3 : ∀ i (hi : i < es.length), es[i].length ≤ 1048576)
    (ua : Option Addr) (uc : Nat) (us : List Tu) (hu : InG tuC w C (.slice ua us.length uc) us) (hul : us.length ≤ 1048576) (huz : ∀ t ∈ us, t.2.2.size ≤ 1048576) (hC : C ≤ w.heap.size) :
    Calls Tryz.prog 5 #[.agg (litC ca cs.length cc ta ts.length tc), .agg (litC da ds.length dc ea es.length ec), .slice ua us.length uc] w fun e w' => e = .returned (.bool true) ∧ Below w.heap.size w w' := by
  have sz0 : ((w.alloc (.cells (litC ca cs.length cc ta ts.length tc) 27)).alloc (.cells (litC da ds.length dc ea es.length ec) 27)).heap.size = w.heap.size + 2 := by rw [szAl, szAl]
  have HK0 : Hid (KB w ((w.alloc (.cells (litC ca cs.length cc ta ts.length tc) 27)).alloc (.cells (litC da ds.length dc ea es.length ec) 27)) C ca cc ta tc tvf cs ts da dc ea ec evf ds es ua uc us) := by
    have b : Below w.heap.size w ((w.alloc (.cells (litC ca cs.length cc ta ts.length tc) 27)).alloc (.cells (litC da ds.length dc ea es.length ec) 27)) := ((Below.refl _ _).alloc (Nat.le_refl _) _).alloc (by rw [szAl]; omega) _
    exact ⟨h.later (b.mono hC), h'.later (b.mono hC), (Below.heap_alloc _ _ _ (by rw [szAl]; omega)).trans (heap_alloc_last _ _ _ rfl), heap_alloc_last _ _ _ (szAl _ _).symm, hu.later (b.mono hC), hC, b⟩
  have HI : Hid (csOk cs ∧ (∀ l ∈ ts, ∀ x ∈ l, immOk x) ∧ (∀ i (hi : i < ts.length), ts[i].length ≤ 1099511627776) ∧ csOk ds ∧ (∀ l ∈ es, ∀ x ∈ l, immOk x) ∧ (∀ i (hi : i < es.length), es[i].length ≤ 1099511627776)) := ⟨hco, hio, fun i hi => by have := l3 i hi; omega, hdo, heo, fun i hi => by have := m3 i hi; omega⟩
  have HUZ : Hid (∀ t ∈ us, t.2.2.size ≤ 1048576) := huz
  clear h h' hu hco hio l3 hdo heo m3 huz
  go_enter Tryz.func5, Tryz.ntmps5
  go_wp2_with fail
  generalize (w.alloc (.cells (litC ca cs.length cc ta ts.length tc) 27)).alloc (.cells (litC da ds.length dc ea es.length ec) 27) = W0 at *
  refine (lend_any W0 C ca cc ta tc tvf cs ts HK0.out.l (by omega) (by omega) (by omega) HI.out.2.2.1).mono ?_
  rintro e w1 ⟨gc, gcap, tvv, ab, acap, ps, v79, rfl, lt1, b1⟩
  obtain ⟨ta0, tc0, htv⟩ := lt1.ot.form
  subst htv
  rw [sz0] at lt1
  have s1 := b1.size
  rw [sz0] at s1
  have HL1 : Hid (LtB (w1.alloc (.cells #[.slice (some ⟨gc, 0, none⟩) cs.length gcap, .slice (some ⟨ab, 0, none⟩) ts.length acap, .slice (some ⟨gc, 0, none⟩) (cs.length + 2) gcap, .slice ta0 ps.length tc0, .slice (some ⟨ab, 0, none⟩) (ts.length + 1) acap] 46)) (w.heap.size + 2 + 3) w1.heap.size cs ts gc gcap (.slice ta0 ps.length tc0) ab acap ps v79) := LtB.new lt1
  have HK1 : Hid (KB w (w1.alloc (.cells #[.slice (some ⟨gc, 0, none⟩) cs.length gcap, .slice (some ⟨ab, 0, none⟩) ts.length acap, .slice (some ⟨gc, 0, none⟩) (cs.length + 2) gcap, .slice ta0 ps.length tc0, .slice (some ⟨ab, 0, none⟩) (ts.length + 1) acap] 46)) C ca cc ta tc tvf cs ts da dc ea ec evf ds es ua uc us) := HK0.out.still ((below_keeps b1).alloc _)
  clear b1 HK0
  obtain ⟨-, -, q2, q3⟩ := HK1.out.cells
  have hl1 : w.heap.size + 2 + 3 ≤ w1.heap.size := by have := World.ownsRow.lt lt1.oc gc rfl; omega
  clear lt1
  go_wp2_with fail
  have sW1 : (w1.alloc (.cells #[.slice (some ⟨gc, 0, none⟩) cs.length gcap, .slice (some ⟨ab, 0, none⟩) ts.length acap, .slice (some ⟨gc, 0, none⟩) (cs.length + 2) gcap, .slice ta0 ps.length tc0, .slice (some ⟨ab, 0, none⟩) (ts.length + 1) acap] 46)).heap.size = w1.heap.size + 1 := szAl _ _
  generalize w1.alloc (.cells #[.slice (some ⟨gc, 0, none⟩) cs.length gcap, .slice (some ⟨ab, 0, none⟩) ts.length acap, .slice (some ⟨gc, 0, none⟩) (cs.length + 2) gcap, .slice ta0 ps.length tc0, .slice (some ⟨ab, 0, none⟩) (ts.length + 1) acap] 46) = W1 at *
  generalize w1.heap.size = x1 at *
  clear q2 q3
  refine (lend_any W1 C da dc ea ec evf ds es HK1.out.m (by have := HK1.out.hC; have := HK1.out.sz; omega) (by omega) (by omega) HI.out.2.2.2.2.2).mono ?_
  rintro e w2 ⟨hc, hcap, tvv2, ab2, acap2, ps2, v792, rfl, lt2, b2⟩
  obtain ⟨ta2, tc2, htv⟩ := lt2.ot.form
  subst htv
  rw [sW1] at lt2
  have HL2 : Hid (LtB (w2.alloc (.cells #[.slice (some ⟨hc, 0, none⟩) ds.length hcap, .slice (some ⟨ab2, 0, none⟩) es.length acap2, .slice (some ⟨hc, 0, none⟩) (ds.length + 2) hcap, .slice ta2 ps2.length tc2, .slice (some ⟨ab2, 0, none⟩) (es.length + 1) acap2] 46)) (x1 + 1 + 3) w2.heap.size ds es hc hcap (.slice ta2 ps2.length tc2) ab2 acap2 ps2 v792) := LtB.new lt2
  have HK2 : Hid (KB w (w2.alloc (.cells #[.slice (some ⟨hc, 0, none⟩) ds.length hcap, .slice (some ⟨ab2, 0, none⟩) es.length acap2, .slice (some ⟨hc, 0, none⟩) (ds.length + 2) hcap, .slice ta2 ps2.length tc2, .slice (some ⟨ab2, 0, none⟩) (es.length + 1) acap2] 46)) C ca cc ta tc tvf cs ts da dc ea ec evf ds es ua uc us ∧ LtB (w2.alloc (.cells #[.slice (some ⟨hc, 0, none⟩) ds.length hcap, .slice (some ⟨ab2, 0, none⟩) es.length acap2, .slice (some ⟨hc, 0, none⟩) (ds.length + 2) hcap, .slice ta2 ps2.length tc2, .slice (some ⟨ab2, 0, none⟩) (es.length + 1) acap2] 46)) (w.heap.size + 2 + 3) x1 cs ts gc gcap (.slice ta0 ps.length tc0) ab acap ps v79) := ⟨HK1.out.still ((below_keeps b2).alloc _), HL1.out.still ((below_keeps b2).alloc _)⟩
  have hl2 : x1 + 1 + 3 ≤ w2.heap.size := by have := World.ownsRow.lt lt2.oc hc rfl; omega
  clear b2 lt2 HK1 HL1
  obtain ⟨q0, q1, -, -, -⟩ := HK2.out.2.cells
  go_wp2_with fail
  have sW2 : (w2.alloc (.cells #[.slice (some ⟨hc, 0, none⟩) ds.length hcap, .slice (some ⟨ab2, 0, none⟩) es.length acap2, .slice (some ⟨hc, 0, none⟩) (ds.length + 2) hcap, .slice ta2 ps2.length tc2, .slice (some ⟨ab2, 0, none⟩) (es.length + 1) acap2] 46)).heap.size = w2.heap.size + 1 := szAl _ _
  generalize w2.alloc (.cells #[.slice (some ⟨hc, 0, none⟩) ds.length hcap, .slice (some ⟨ab2, 0, none⟩) es.length acap2, .slice (some ⟨hc, 0, none⟩) (ds.length + 2) hcap, .slice ta2 ps2.length tc2, .slice (some ⟨ab2, 0, none⟩) (es.length + 1) acap2] 46) = W2 at *
  generalize w2.heap.size = x2 at *
  clear q0 q1
  obtain ⟨tv1, g1⟩ := HK2.out.2.lt.lit (by omega) (by omega) (fun i hi => by have := HI.out.2.2.1 i hi; omega)
  refine (layV W2 W2.heap.size _ gcap _ acap tv1 cs ts g1 (Nat.le_refl _) HI.out.1 HI.out.2.1).mono ?_
  rintro e w3 ⟨o1, rfl, lp1, k3⟩
  rw [sW2] at lp1
  have H3 : Hid (KB w w3 C ca cc ta tc tvf cs ts da dc ea ec evf ds es ua uc us ∧ LtB w3 (w.heap.size + 2 + 3) x1 cs ts gc gcap (.slice ta0 ps.length tc0) ab acap ps v79 ∧ LtB w3 (x1 + 1 + 3) x2 ds es hc hcap (.slice ta2 ps2.length tc2) ab2 acap2 ps2 v792 ∧ LayP w3 (fun y => x2 + 1 ≤ y ∧ y < w3.heap.size) o1 cs ts) := ⟨HK2.out.1.still k3, HK2.out.2.still k3, HL2.out.still k3, lp1⟩
  have s3 : x2 + 1 ≤ w3.heap.size := by have := k3.size; omega
  clear k3 lp1 g1 HK2 HL2
  obtain ⟨q0, q1, -, -, -⟩ := H3.out.2.2.1.cells
  obtain ⟨E1, hE1⟩ : ∃ E1, outE cs ts = E1 := ⟨_, rfl⟩
  have HE1 : Hid (outE cs ts = E1) := hE1
  rw [hE1]
  clear hE1
  go_wp2_with fail
  clear q0 q1
  obtain ⟨tv2, g2⟩ := H3.out.2.2.1.lt.lit (by omega) (by omega) (fun i hi => by have := HI.out.2.2.2.2.2 i hi; omega)
  refine (layV w3 w3.heap.size _ hcap _ acap2 tv2 ds es g2 (Nat.le_refl _) HI.out.2.2.2.1 HI.out.2.2.2.2.1).mono ?_
  rintro e w4 ⟨o2, rfl, lp2, k4⟩
  have HST : Hid (∀ W, Keeps (fun _ => False) w4 W → KB w W C ca cc ta tc tvf cs ts da dc ea ec evf ds es ua uc us ∧ LtB W (w.heap.size + 2 + 3) x1 cs ts gc gcap (.slice ta0 ps.length tc0) ab acap ps v79 ∧ LtB W (x1 + 1 + 3) x2 ds es hc hcap (.slice ta2 ps2.length tc2) ab2 acap2 ps2 v792 ∧ LayP W (fun y => x2 + 1 ≤ y ∧ y < w3.heap.size) o1 cs ts ∧ LayP W (fun y => w3.heap.size ≤ y ∧ y < w4.heap.size) o2 ds es) := fun W k => by
    have k' := k4.trans k
    exact ⟨H3.out.1.still k', H3.out.2.1.still k', H3.out.2.2.1.still k', H3.out.2.2.2.keeps k' (fun _ e => e.elim), lp2.keeps k (fun _ e => e.elim)⟩
  have s4 : w3.heap.size ≤ w4.heap.size := k4.size
  clear k4 lp2 g2 H3
  obtain ⟨E2, hE2⟩ : ∃ E2, outE ds es = E2 := ⟨_, rfl⟩
  have HE2 : Hid (outE ds es = E2) := hE2
  rw [hE2]
  clear hE2
  generalize w3.heap.size = n3 at *
  obtain ⟨x10, x11, x12, x13, x14⟩ := (HST.out w4 (Keeps.refl _ _)).2.1.cells
  obtain ⟨q0, q1, -, -⟩ := (HST.out w4 (Keeps.refl _ _)).1.cells
  go_wp2_with fail
  clear x10 x11 x12 x13 x14 q0 q1
  have h3 := HST.out w4 (Keeps.refl _ _)
  refine (kept_any w4 C (by have := h3.1.hC; have := h3.1.sz; omega) (w.heap.size + 2 + 3) ca cc ta tc tvf cs ts h3.1.l _ _ gc gcap _ ab acap ps v79 h3.2.1.lt rfl rfl (by omega) (by omega) HI.out.2.2.1).mono ?_
  clear h3
  rintro e w5 ⟨rfl, k⟩
  have H5 : Hid (Keeps (fun _ => False) w4 w5) := k
  clear k
  obtain ⟨x10, x11, x12, x13, x14⟩ := (HST.out w5 H5.out).2.2.1.cells
  obtain ⟨-, -, q0, q1⟩ := (HST.out w5 H5.out).1.cells
  go_wp2_with fail
  clear x10 x11 x12 x13 x14 q0 q1
  have h3 := HST.out w5 H5.out
  refine (kept_any w5 C (by have := h3.1.hC; have := h3.1.sz; omega) (x1 + 1 + 3) da dc ea ec evf ds es h3.1.m _ _ hc hcap _ ab2 acap2 ps2 v792 h3.2.2.1.lt rfl rfl (by omega) (by omega) HI.out.2.2.2.2.2).mono ?_
  clear h3
  rintro e w6 ⟨rfl, k⟩
  have H6 : Hid (Keeps (fun _ => False) w4 w6) := H5.out.trans k
  clear k H5
  obtain ⟨q0, q1, -, -, -⟩ := (HST.out w6 H6.out).2.1.cells
  go_wp2_with fail
  clear q0 q1
  have h6 := HST.out w6 H6.out
  have HC6 : Hid (KB w w6 C ca cc ta tc tvf cs ts da dc ea ec evf ds es ua uc us ∧ LtB w6 (w.heap.size + 2 + 3) x1 cs ts gc gcap (.slice ta0 ps.length tc0) ab acap ps v79 ∧ LtB w6 (x1 + 1 + 3) x2 ds es hc hcap (.slice ta2 ps2.length tc2) ab2 acap2 ps2 v792 ∧ LayP w6 (fun y => x2 + 1 ≤ y ∧ y < n3) o1 cs ts ∧ LayP w6 (fun y => n3 ≤ y ∧ y < w4.heap.size) o2 ds es ∧ w4.heap.size ≤ w6.heap.size) := ⟨h6.1, h6.2.1, h6.2.2.1, h6.2.2.2.1, h6.2.2.2.2, H6.out.size⟩
  clear h6 HST H6
  generalize w4.heap.size = n4 at *
  refine (wreck_any w6 _ cs ts gc gcap _ ab acap ps v79 HC6.out.2.1.lt (by have := HC6.out.2.2.2.2.2; omega) HI.out.1 (by omega) (by omega) HI.out.2.2.1).mono ?_
  rintro e w7 ⟨rfl, ps', ltf, hff, k⟩
  have HC7 : Hid (KB w w7 C ca cc ta tc tvf cs ts da dc ea ec evf ds es ua uc us ∧ LtB w7 (x1 + 1 + 3) x2 ds es hc hcap (.slice ta2 ps2.length tc2) ab2 acap2 ps2 v792 ∧ LayP w7 (fun y => x2 + 1 ≤ y ∧ y < n3) o1 cs ts ∧ LayP w7 (fun y => n3 ≤ y ∧ y < n4) o2 ds es ∧ n4 ≤ w7.heap.size) := by
    have lo : ∀ x, wkQ gc ps x → w.heap.size + 2 + 3 ≤ x ∧ x < x1 := fun x hx => ⟨(HC6.out.2.1.lt.lq x (wk_lq hx)).1, HC6.out.2.1.tp x (wk_lq hx)⟩
    exact ⟨HC6.out.1.keeps k (fun x e => by have := lo x e; omega), HC6.out.2.2.1.keeps (by omega) k (fun x e => by have := lo x e; omega), HC6.out.2.2.2.1.keeps k (fun x e e' => by have := lo x e; omega), HC6.out.2.2.2.2.1.keeps k (fun x e e' => by have := lo x e; omega), by have := k.size; have := HC6.out.2.2.2.2.2; omega⟩
  clear ltf hff k HC6
  obtain ⟨q0, q1, -, -, -⟩ := HC7.out.2.1.cells
  go_wp2_with fail
  clear q0 q1
  refine (wreck_any w7 _ ds es hc hcap _ ab2 acap2 ps2 v792 HC7.out.2.1.lt (by have := HC7.out.2.2.2.2; omega) HI.out.2.2.2.1 (by omega) (by omega) HI.out.2.2.2.2.2).mono ?_
  rintro e w8 ⟨rfl, ps3, ltf, hff, k⟩
  have HC8 : Hid (KB w w8 C ca cc ta tc tvf cs ts da dc ea ec evf ds es ua uc us ∧ LayP w8 (fun y => x2 + 1 ≤ y ∧ y < n3) o1 cs ts ∧ LayP w8 (fun y => n3 ≤ y ∧ y < n4) o2 ds es ∧ n4 ≤ w8.heap.size) := by
    have lo : ∀ x, wkQ hc ps2 x → x1 + 1 + 3 ≤ x ∧ x < x2 := fun x hx => ⟨(HC7.out.2.1.lt.lq x (wk_lq hx)).1, HC7.out.2.1.tp x (wk_lq hx)⟩
    exact ⟨HC7.out.1.keeps k (fun x e => by have := lo x e; omega), HC7.out.2.2.1.keeps k (fun x e e' => by have := lo x e; omega), HC7.out.2.2.2.1.keeps k (fun x e e' => by have := lo x e; omega), by have := k.size; have := HC7.out.2.2.2.2; omega⟩
  clear ltf hff k HC7
  obtain ⟨q0, q1, -, -⟩ := HC8.out.1.cells
  go_wp2_with fail
  clear q0 q1
  refine (rlayV w8 C ca cc ta tc tvf cs ts HC8.out.1.l (by have := HC8.out.1.hC; have := HC8.out.1.sz; omega)).mono ?_
  rintro e w9 ⟨p1, rfl, lr1, k9⟩
  rw [HE1.out]
  have HC9 : Hid (KB w w9 C ca cc ta tc tvf cs ts da dc ea ec evf ds es ua uc us ∧ LayP w9 (fun y => x2 + 1 ≤ y ∧ y < n3) o1 cs ts ∧ LayP w9 (fun y => n3 ≤ y ∧ y < n4) o2 ds es ∧ LayR w9 (fun y => w8.heap.size ≤ y ∧ y < w9.heap.size) p1 cs ts) := ⟨HC8.out.1.still k9, HC8.out.2.1.keeps k9 (fun _ e => e.elim), HC8.out.2.2.1.keeps k9 (fun _ e => e.elim), lr1⟩
  have s8 : n4 ≤ w8.heap.size := HC8.out.2.2.2
  have s9 : w8.heap.size ≤ w9.heap.size := k9.size
  clear k9 lr1 HC8
  obtain ⟨-, -, q0, q1⟩ := HC9.out.1.cells
  go_wp2_with fail
  clear q0 q1
  refine (rlayV w9 C da dc ea ec evf ds es HC9.out.1.m (by have := HC9.out.1.hC; have := HC9.out.1.sz; omega)).mono ?_
  rintro e wa ⟨p2, rfl, lr2, ka⟩
  rw [HE2.out]
  have sa : w9.heap.size ≤ wa.heap.size := ka.size
  have SD1 := side_of (HC9.out.2.1.keeps ka (fun _ e => e.elim)) (HC9.out.2.2.2.keeps ka (fun _ e => e.elim)) (fun y e e' => by omega)
  have SD2 := side_of (HC9.out.2.2.1.keeps ka (fun _ e => e.elim)) lr2 (fun y e e' => by omega)
  have hn1 := SD1.nils
  have hn2 := SD2.nils
  have HCA : Hid (KB w wa C ca cc ta tc tvf cs ts da dc ea ec evf ds es ua uc us ∧ ∃ F1 F2, Side wa F1 o1 p1 ∧ Side wa F2 o2 p2 ∧ (∀ y, F1 y → ¬ F2 y) ∧ ∀ y, F1 y ∨ F2 y → w.heap.size + 2 ≤ y ∧ y < wa.heap.size) := ⟨HC9.out.1.still ka, _, _, SD1, SD2, fun y e e' => by omega, fun y e => by omega⟩
  clear ka lr2 HC9 SD1 SD2
  obtain ⟨n1, hm1⟩ : ∃ n1, p1.isNone = n1 := ⟨_, rfl⟩
  obtain ⟨n2, hm2⟩ : ∃ n2, p2.isNone = n2 := ⟨_, rfl⟩
  rw [hm1] at hn1
  rw [hm2] at hn2
  have r1 : ∀ W, (binOp .eql 48 (.pointer o1) (.pointer none)).run Tryz.prog W = .ok (.bool n1) W := fun W => by rw [eqNilBn, hn1]
  have r2 : ∀ W, (binOp .eql 48 (.pointer o2) (.pointer none)).run Tryz.prog W = .ok (.bool n2) W := fun W => by rw [eqNilBn, hn2]
  have r3 : ∀ W, (binOp .eql 53 (.pointer p1) (.pointer none)).run Tryz.prog W = .ok (.bool n1) W := fun W => by rw [eqNilRb, hm1]
  have r4 : ∀ W, (binOp .eql 53 (.pointer p2) (.pointer none)).run Tryz.prog W = .ok (.bool n2) W := fun W => by rw [eqNilRb, hm2]
  have HNN : Hid (p1.isNone = n1 ∧ p2.isNone = n2) := ⟨hm1, hm2⟩
  have HNE : Hid ((∀ W, (binOp .neq 53 (.pointer p1) (.pointer none)).run Tryz.prog W = .ok (.bool (!n1)) W) ∧ ∀ W, (binOp .neq 53 (.pointer p2) (.pointer none)).run Tryz.prog W = .ok (.bool (!n2)) W) := ⟨fun W => by rw [neNilRb, hm1], fun W => by rw [neNilRb, hm2]⟩
  clear hn1 hn2 hm1 hm2
  go_wp2_with fail
  clear r1 r2 r3 r4
  go_loopw [17] (fun c wr => ∃ (t : Nat) (F1 F2 : Nat → Prop), c = .int .i64 t ∧ t ≤ us.length ∧ KB w wr C ca cc ta tc tvf cs ts da dc ea ec evf ds es ua uc us ∧ Side wr F1 o1 p1 ∧ Side wr F2 o2 p2 ∧ (∀ y, F1 y → ¬ F2 y) ∧ ∀ y, F1 y ∨ F2 y → w.heap.size + 2 ≤ y ∧ y < wr.heap.size) (fun c _ => us.length - (intOf c).toNat)
  case atStart =>
    obtain ⟨kb, F1, F2, d1, d2, d3, d4⟩ := HCA.out
    exact ⟨0, F1, F2, rfl, by omega, kb, d1, d2, d3, d4⟩
  case round =>
    obtain ⟨t, F1, F2, rfl, ht, kb, d1, d2, d3, d4⟩ := hrel
    have HR : Hid (KB w wr C ca cc ta tc tvf cs ts da dc ea ec evf ds es ua uc us ∧ Side wr F1 o1 p1 ∧ Side wr F2 o2 p2 ∧ (∀ y, F1 y → ¬ F2 y) ∧ ∀ y, F1 y ∨ F2 y → w.heap.size + 2 ≤ y ∧ y < wr.heap.size) := ⟨kb, d1, d2, d3, d4⟩
    clear kb d1 d2 d3 d4 HCA
    by_cases h5 : t < us.length
    · have t0 : (0 : Int) ≤ (t : Int) := Int.natCast_nonneg _
      have t1 : (t : Int) < (us.length : Int) := by omega
      have hz := HUZ.out us[t] (List.getElem_mem h5)
      have HT : Hid (∀ W, KB w W C ca cc ta tc tvf cs ts da dc ea ec evf ds es ua uc us → ∃ b off, ua = some ⟨b, off, none⟩ ∧ ∀ j, j < 3 → W.cell? ⟨b, off + t * 3 + j, none⟩ = (tuC us[t])[j]?) := fun W k => by
        obtain ⟨b, off, e, _, hc⟩ := InG.cell (cs := tuC) (n := 3) (fun _ => rfl) k.u t h5 (by decide)
        exact ⟨b, off, e, hc⟩
      generalize us[t] = x at *
      obtain ⟨se, lk, pl⟩ := x
      obtain ⟨b, off, rfl, hc⟩ := HT.out wr HR.out.1
      have HT2 : Hid (∀ W, KB w W C ca cc ta tc tvf cs ts da dc ea ec evf ds es (some ⟨b, off, none⟩) uc us → W.cell? ⟨b, off + t * 3, none⟩ = some (.bool se)) := fun W k => by
        obtain ⟨b', off', e, hc⟩ := HT.out W k
        injection e with e
        injection e with e e'
        subst e e'
        exact hc 0 (by decide)
      have c0 : wr.cell? ⟨b, off + t * 3, none⟩ = some (.bool se) := hc 0 (by decide)
      have c1 : wr.cell? ⟨b, off + t * 3 + 1, none⟩ = some (.bool lk) := hc 1 (by decide)
      have c2 : wr.cell? ⟨b, off + t * 3 + 2, none⟩ = some (.string pl) := hc 2 (by decide)
      obtain ⟨e1, e2⟩ := HNE.out
      clear hc HT
      dsimp only at hz
      cases se with
      | true =>
        cases n2 with
        | true =>
          go_wp2_with fail
          clear c0 c1 c2 e1 e2
          go_roundw
          case rel => exact ⟨t + 1, F1, F2, by go_num, by omega, HR.out⟩
          case measure => simp [intOf]; omega
        | false =>
          go_wp2_with fail
          clear c0 c1 c2
          refine (bench_any wr F2 o2 p2 HR.out.2.2.1 HNN.out.2 true lk pl hz).mono ?_
          rintro e w' ⟨rfl, F', f1, f2, f3, k⟩
          have HN : Hid (KB w w' C ca cc ta tc tvf cs ts da dc ea ec evf ds es (some ⟨b, off, none⟩) uc us ∧ Side w' F1 o1 p1 ∧ Side w' F' o2 p2 ∧ (∀ y, F1 y → ¬ F' y) ∧ ∀ y, F1 y ∨ F' y → w.heap.size + 2 ≤ y ∧ y < w'.heap.size) := by
            obtain ⟨a1, a2, a3, a4, a5⟩ := HR.out
            have hs := k.size
            have hsz := a1.sz
            refine ⟨a1.keeps k (fun y e => (a5 y (.inr e)).1), a2.keeps k (fun y e e' => a4 y e' e), f1, fun y e e' => ?_, fun y e => ?_⟩
            · rcases f2 y e' with h | h
              · exact a4 y e h
              · have := (a5 y (.inl e)).2; omega
            · rcases e with e | e
              · have := a5 y (.inl e); omega
              · have := f3 y e
                rcases f2 y e with h | h
                · have := a5 y (.inr h); omega
                · omega
          have c0 := HT2.out w' HN.out.1
          clear f1 f2 f3 k HR
          go_wp2_with fail
          clear c0 e1 e2
          go_roundw
          case rel => exact ⟨t + 1, F1, F', by go_num, by omega, HN.out⟩
          case measure => simp [intOf]; omega
      | false =>
        cases n1 with
        | true =>
          go_wp2_with fail
          clear c0 c1 c2 e1 e2
          go_roundw
          case rel => exact ⟨t + 1, F1, F2, by go_num, by omega, HR.out⟩
          case measure => simp [intOf]; omega
        | false =>
          go_wp2_with fail
          clear c0 c1 c2
          refine (bench_any wr F1 o1 p1 HR.out.2.1 HNN.out.1 false lk pl hz).mono ?_
          rintro e w' ⟨rfl, F', f1, f2, f3, k⟩
          have HN : Hid (KB w w' C ca cc ta tc tvf cs ts da dc ea ec evf ds es (some ⟨b, off, none⟩) uc us ∧ Side w' F' o1 p1 ∧ Side w' F2 o2 p2 ∧ (∀ y, F' y → ¬ F2 y) ∧ ∀ y, F' y ∨ F2 y → w.heap.size + 2 ≤ y ∧ y < w'.heap.size) := by
            obtain ⟨a1, a2, a3, a4, a5⟩ := HR.out
            have hs := k.size
            have hsz := a1.sz
            refine ⟨a1.keeps k (fun y e => (a5 y (.inl e)).1), f1, a3.keeps k (fun y e e' => a4 y e e'), fun y e e' => ?_, fun y e => ?_⟩
            · rcases f2 y e with h | h
              · exact a4 y h e'
              · have := (a5 y (.inr e')).2; omega
            · rcases e with e | e
              · have := f3 y e
                rcases f2 y e with h | h
                · have := a5 y (.inl h); omega
                · omega
              · have := a5 y (.inr e); omega
          clear f1 f2 f3 k HR
          go_wp2_with fail
          clear e1 e2
          go_roundw
          case rel => exact ⟨t + 1, F', F2, by go_num, by omega, HN.out⟩
          case measure => simp [intOf]; omega
    · go_wp2
      go_ret
      exact ⟨rfl, HR.out.1.be⟩
end Go.Proofs.YtegnmflbbpfdhaaGreat
