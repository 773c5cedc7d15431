import Derived.Test.YtegnmflbbpfdhaaGreatSj1
namespace Go.Proofs.YtegnmflbbpfdhaaGreat
open Go.ChangeShapes Go.WideShapes Go.ChangeAt Go.RowKit Go.MuLone Go.RwLone
set_option linter.unusedVariables false
set_option maxRecDepth 100000
set_option maxHeartbeats 6400000
/-- An outcome stored into its block. -/
theorem RO.store {W : World} {b B : Nat} {c1 : Option Addr} {k1 : Nat} {c2 : Option Addr} {k2 : Nat} {X Y : List Int} {u0 u1 : Value} (hb : W.heap[b]? = some (.cells #[u0, u1] 34)) (h1 : OwW W B (.slice c1 X.length k1) X) (h2 : OwW W B (.slice c2 Y.length k2) Y) (hB : b < B) :
    RO ((W.setCell ⟨b, 0, none⟩ (.slice c1 X.length k1)).setCell ⟨b, 1, none⟩ (.slice c2 Y.length k2)) b B c1 k1 c2 k2 X Y ∧ Keeps (fun x => x = b) W ((W.setCell ⟨b, 0, none⟩ (.slice c1 X.length k1)).setCell ⟨b, 1, none⟩ (.slice c2 Y.length k2)) := by
  have k : Keeps (fun x => x = b) W ((W.setCell ⟨b, 0, none⟩ (.slice c1 X.length k1)).setCell ⟨b, 1, none⟩ (.slice c2 Y.length k2)) := Keeps.setCell (B := fun x => x = b) (Keeps.setCell (B := fun x => x = b) (Keeps.refl _ _) rfl _) rfl _
  have e2 : (W.setCell ⟨b, 0, none⟩ (.slice c1 X.length k1)).heap[b]? = some (.cells (#[u0, u1].setIfInBounds 0 (.slice c1 X.length k1)) 34) := heapSet hb _
  have e3 := heapSet e2 (j := 1) (Value.slice c2 Y.length k2)
  exact ⟨⟨e3, owK h1 k (fun g hg e => by have := (World.ownsRow.lt h1 g hg).1; omega), owK h2 k (fun g hg e => by have := (World.ownsRow.lt h2 g hg).1; omega)⟩, k⟩
theorem runs_walk (w : World) (C : Nat) (ca : Option Addr) (cc : Nat) (ta : Option Addr) (tc : Nat) (tvf : Nat → Value) (cs : List Int) (ts : List (List I8)) (h : LitG w C ca cc ta tc tvf cs ts) (hC : C ≤ w.heap.size) (hco : csOk cs) (hio : ∀ l ∈ ts, ∀ x ∈ l, immOk x) (l1 : cs.length ≤ 1048576) (l2 : ts.length ≤ 1048576) (l3 : ∀ i (hi : i < ts.length), ts[i].length ≤ 1048576) (s : ByteArray) (hs : s.size ≤ 1048576) :
    Calls Tryz.prog 6 #[.agg (litC ca cs.length cc ta ts.length tc), .string s] w fun e w' => e = .returned (.bool true) ∧ Below w.heap.size w w' := by
  have b0 : Below w.heap.size w (lgW w (litC ca cs.length cc ta ts.length tc)) := (Below.refl _ _).alloc (Nat.le_refl _) _
  have sz0 : (lgW w (litC ca cs.length cc ta ts.length tc)).heap.size = w.heap.size + 1 := szAl _ _
  obtain ⟨X, Y, E, lx, ly, HP, HQ⟩ := runV cs ts hco hio s hs rfl rfl
  obtain ⟨X2, Y2, E2, lx2, ly2, HP2, HQ2⟩ := runV (cs.map flipW) (ts.map (fun l => l.map (fun _ => wrI))) (csOk_flip cs) (imm_wr ts) s hs (n := cs.length) (m := ts.length) (by simp) (by simp)
  have HP' : Hid _ := HP
  have HQ' : Hid _ := HQ
  have HP2' : Hid _ := HP2
  have HQ2' : Hid _ := HQ2
  clear HP HQ HP2 HQ2
  have HLIT : Hid (∀ W, Below (w.heap.size + 1) (lgW w (litC ca cs.length cc ta ts.length tc)) W → LitG W C ca cc ta tc tvf cs ts ∧ W.heap[w.heap.size]? = some (.cells (litC ca cs.length cc ta ts.length tc) 27) ∧ Below w.heap.size w W) := fun W k => by
    have e : W.heap[w.heap.size]? = some (.cells (litC ca cs.length cc ta ts.length tc) 27) := (k.block _ (by omega)).trans (heap_alloc_last _ _ _ rfl)
    exact ⟨h.later ((b0.mono hC).trans (k.mono (by omega))), e, b0.trans (k.mono (by omega))⟩
  have HLE := lend_any (lgW w (litC ca cs.length cc ta ts.length tc)) C ca cc ta tc tvf cs ts (HLIT.out _ (Below.refl _ _)).1 (by omega) (by omega) (by omega) (fun i hi => by have := l3 i hi; omega)
  rw [sz0] at HLE
  have HLEE : Hid (∀ _ : Unit, _) := fun _ => HLE
  have HCI : Hid (csOk cs ∧ (∀ l ∈ ts, ∀ x ∈ l, immOk x) ∧ (∀ i (hi : i < ts.length), ts[i].length ≤ 1048576)) := ⟨hco, hio, l3⟩
  clear HLE h hco hio l3
  go_enter Tryz.func6, Tryz.ntmps6
  go_wp2_with fail
  refine (HLEE.out ()).mono ?_
  rintro e w1 ⟨gc, gcap, tvv, ab, acap, ps, v79, rfl, lt1, b1⟩
  obtain ⟨ta0, tc0, htv⟩ := lt1.ot.form
  subst htv
  have hb1 := HLIT.out w1 b1
  have hs1 := b1.size
  have HA : Hid (RA w ((w1.alloc (.cells #[.slice (some ⟨gc, 0, none⟩) cs.length gcap, .slice (some ⟨ab, 0, none⟩) ts.length acap, .slice (some ⟨gc, 0, none⟩) (cs.length + 2) gcap, (.slice ta0 ps.length tc0), .slice (some ⟨ab, 0, none⟩) (ts.length + 1) acap] 46)).alloc (.cells (litC (some ⟨gc, 0, none⟩) cs.length gcap (some ⟨ab, 0, none⟩) ts.length acap) 27)) C ca cc ta tc tvf cs ts gc gcap (.slice ta0 ps.length tc0) ab acap ps v79 w1.heap.size) := by
    have k : Keeps (fun _ => False) w1 ((w1.alloc (.cells #[.slice (some ⟨gc, 0, none⟩) cs.length gcap, .slice (some ⟨ab, 0, none⟩) ts.length acap, .slice (some ⟨gc, 0, none⟩) (cs.length + 2) gcap, (.slice ta0 ps.length tc0), .slice (some ⟨ab, 0, none⟩) (ts.length + 1) acap] 46)).alloc (.cells (litC (some ⟨gc, 0, none⟩) cs.length gcap (some ⟨ab, 0, none⟩) ts.length acap) 27)) := ((Keeps.refl _ _).alloc _).alloc _
    rw [sz0] at hs1
    refine ⟨hb1.1.later (k.below (by omega) (fun _ _ e => e)), (k.block _ (by omega) (fun e => e)).trans hb1.2.1, lt1.keeps k (fun _ _ e => e), (Below.heap_alloc _ _ _ (by rw [szAl]; omega)).trans (heap_alloc_last _ _ _ rfl), heap_alloc_last _ _ _ (szAl _ _).symm, fun x hx => (lt1.lq x hx).2, by omega, hC, hb1.2.2.trans (k.below (by omega) (fun _ _ e => e))⟩
  clear lt1 b1 HLEE hb1 hs1
  go_wp2_with fail
  generalize (w1.alloc (.cells #[.slice (some ⟨gc, 0, none⟩) cs.length gcap, .slice (some ⟨ab, 0, none⟩) ts.length acap, .slice (some ⟨gc, 0, none⟩) (cs.length + 2) gcap, (.slice ta0 ps.length tc0), .slice (some ⟨ab, 0, none⟩) (ts.length + 1) acap] 46)).alloc (.cells (litC (some ⟨gc, 0, none⟩) cs.length gcap (some ⟨ab, 0, none⟩) ts.length acap) 27) = W0 at *
  generalize w1.heap.size = bx at *
  have HLG : Hid (∀ W B' cs' ts' ps', cs'.length = cs.length → ts'.length = ts.length → (∀ i (hi : i < ts'.length), ts'[i].length ≤ 1048576) → Lt W B' cs' ts' gc gcap (.slice ta0 ps.length tc0) ab acap ps' v79 → ∃ tv, LitG W W.heap.size (some ⟨gc, 0, none⟩) gcap (some ⟨ab, 0, none⟩) acap tv cs' ts') := fun W B' cs' ts' ps' e1 e2 e3 h => h.lit (by omega) (by omega) (fun i hi => by have := e3 i hi; omega)
  obtain ⟨tv1, g1⟩ := HLG.out W0 _ cs ts ps rfl rfl HCI.out.2.2 HA.out.lt
  refine (HP'.out W0 W0.heap.size _ gcap _ acap tv1 g1 (Nat.le_refl _)).mono ?_
  rintro e w2 ⟨c1, k1, c2, k2, rfl, o1, o2, dj, kk⟩
  have sA := HA.out.sz
  have HO : Hid (RO (w2.alloc (.cells #[.slice c1 X.length k1, .slice c2 Y.length k2] 34)) w2.heap.size W0.heap.size c1 k1 c2 k2 X Y) := RO.fresh o1 o2
  have HA2 : Hid (RA w (w2.alloc (.cells #[.slice c1 X.length k1, .slice c2 Y.length k2] 34)) C ca cc ta tc tvf cs ts gc gcap (.slice ta0 ps.length tc0) ab acap ps v79 bx) := HA.out.still (kk.alloc _)
  have HB2 : Hid ((∀ g, (Value.slice c1 X.length k1).ownBlock = some g → bx + 2 ≤ g ∧ g < w2.heap.size) ∧ (∀ g, (Value.slice c2 Y.length k2).ownBlock = some g → bx + 2 ≤ g ∧ g < w2.heap.size) ∧ (∀ x, (Value.slice c1 X.length k1).ownBlock = some x → (Value.slice c2 Y.length k2).ownBlock = some x → False) ∧ bx + 2 ≤ w2.heap.size) := ⟨fun g hg => by have := World.ownsRow.lt o1 g hg; omega, fun g hg => by have := World.ownsRow.lt o2 g hg; omega, dj, by have := kk.size; omega⟩
  clear o1 o2 dj kk g1 HA sA
  obtain ⟨q0, q1⟩ := HA2.out.gcells
  go_wp2_with fail
  have sW1 : (w2.alloc (.cells #[.slice c1 X.length k1, .slice c2 Y.length k2] 34)).heap.size = w2.heap.size + 1 := szAl _ _
  generalize w2.alloc (.cells #[.slice c1 X.length k1, .slice c2 Y.length k2] 34) = W1 at *
  generalize w2.heap.size = bo at *
  clear q0 q1
  obtain ⟨tv2, g2⟩ := HLG.out W1 _ cs ts ps rfl rfl HCI.out.2.2 HA2.out.lt
  refine (HP'.out W1 W1.heap.size _ gcap _ acap tv2 g2 (Nat.le_refl _)).mono ?_
  rintro e w3 ⟨c3, k3, c4, k4, rfl, o3, o4, dj, kk⟩
  rw [sW1] at o3 o4
  have HZ : Hid (RO (w3.alloc (.cells #[.slice c3 X.length k3, .slice c4 Y.length k4] 34)) w3.heap.size (bo + 1) c3 k3 c4 k4 X Y) := RO.fresh o3 o4
  have HA3 : Hid (RA w (w3.alloc (.cells #[.slice c3 X.length k3, .slice c4 Y.length k4] 34)) C ca cc ta tc tvf cs ts gc gcap (.slice ta0 ps.length tc0) ab acap ps v79 bx ∧ RO (w3.alloc (.cells #[.slice c3 X.length k3, .slice c4 Y.length k4] 34)) bo W0.heap.size c1 k1 c2 k2 X Y) := ⟨HA2.out.still (kk.alloc _), HO.out.still (kk.alloc _)⟩
  have hz1 : bo + 1 ≤ w3.heap.size := by have := kk.size; omega
  clear o3 o4 dj kk g2 HA2 HO sW1
  obtain ⟨q0, q1⟩ := HA3.out.1.lcells
  go_wp2_with fail
  have sW2 : (w3.alloc (.cells #[.slice c3 X.length k3, .slice c4 Y.length k4] 34)).heap.size = w3.heap.size + 1 := szAl _ _
  generalize w3.alloc (.cells #[.slice c3 X.length k3, .slice c4 Y.length k4] 34) = W2 at *
  generalize w3.heap.size = bz at *
  clear q0 q1
  refine (HQ'.out W2 C ca cc ta tc tvf HA3.out.1.lit (by have := HA3.out.1.hC; have := HA3.out.1.be.size; omega)).mono ?_
  rintro e w4 ⟨c5, k5, c6, k6, rfl, o5, o6, kk⟩
  rw [sW2] at o5 o6
  have HST : Hid (∀ W, Keeps (fun _ => False) (w4.alloc (.cells #[.slice c5 X.length k5, .slice c6 Y.length k6] 34)) W → RA w W C ca cc ta tc tvf cs ts gc gcap (.slice ta0 ps.length tc0) ab acap ps v79 bx ∧ RO W bo W0.heap.size c1 k1 c2 k2 X Y ∧ RO W bz (bo + 1) c3 k3 c4 k4 X Y ∧ RO W w4.heap.size (bz + 1) c5 k5 c6 k6 X Y) := fun W k => by
    have k' := (kk.alloc (.cells #[.slice c5 X.length k5, .slice c6 Y.length k6] 34)).trans k
    exact ⟨HA3.out.1.still k', HA3.out.2.still k', HZ.out.still k', (RO.fresh o5 o6).still k⟩
  have hp1 : bz + 1 ≤ w4.heap.size := by have := kk.size; omega
  clear o5 o6 kk HA3 HZ sW2
  have HCL : Hid (∀ W, Keeps (fun _ => False) (w4.alloc (.cells #[.slice c5 X.length k5, .slice c6 Y.length k6] 34)) W → (W.cell? ⟨bo, 0, none⟩ = some (.slice c1 X.length k1) ∧ W.cell? ⟨bo, 1, none⟩ = some (.slice c2 Y.length k2)) ∧ (W.cell? ⟨bz, 0, none⟩ = some (.slice c3 X.length k3) ∧ W.cell? ⟨bz, 1, none⟩ = some (.slice c4 Y.length k4)) ∧ W.cell? ⟨w4.heap.size, 0, none⟩ = some (.slice c5 X.length k5) ∧ W.cell? ⟨w4.heap.size, 1, none⟩ = some (.slice c6 Y.length k6)) := fun W k => ⟨(HST.out W k).2.1.cells, (HST.out W k).2.2.1.cells, (HST.out W k).2.2.2.cells⟩
  obtain ⟨⟨q0, q1⟩, -, q4, q5⟩ := HCL.out _ (Keeps.refl _ _)
  go_wp2_with fail
  generalize w4.alloc (.cells #[.slice c5 X.length k5, .slice c6 Y.length k6] 34) = W3 at *
  generalize w4.heap.size = bp at *
  clear q0 q1 q4 q5
  have h3 := HST.out W3 (Keeps.refl _ _)
  refine (sameO W3 W3.heap.size (Nat.le_refl _) c1 k1 c5 k5 X c2 k2 c6 k6 Y h3.2.1.o1.in h3.2.2.2.o1.in (by omega) h3.2.1.o2.in h3.2.2.2.o2.in (by omega)).mono ?_
  clear h3
  rintro e w5 ⟨rfl, k⟩
  have H5 : Hid (Keeps (fun _ => False) W3 w5) := k
  clear k
  obtain ⟨-, ⟨q2, q3⟩, q4, q5⟩ := HCL.out _ H5.out
  go_wp2_with fail
  clear q2 q3 q4 q5
  have h3 := HST.out w5 H5.out
  refine (sameO w5 w5.heap.size (Nat.le_refl _) c3 k3 c5 k5 X c4 k4 c6 k6 Y h3.2.2.1.o1.in h3.2.2.2.o1.in (by omega) h3.2.2.1.o2.in h3.2.2.2.o2.in (by omega)).mono ?_
  clear h3
  rintro e w6 ⟨rfl, k⟩
  have H6 : Hid (Keeps (fun _ => False) W3 w6) := H5.out.trans k
  clear k H5
  obtain ⟨x0, x1, x2, x3, x4⟩ := (HST.out w6 H6.out).1.xcells
  obtain ⟨q0, q1⟩ := (HST.out w6 H6.out).1.lcells
  go_wp2_with fail
  clear x0 x1 x2 x3 x4 q0 q1
  have h3 := (HST.out w6 H6.out).1
  refine (kept_any w6 C (by have := h3.hC; have := h3.be.size; omega) (w.heap.size + 4) ca cc ta tc tvf cs ts h3.lit _ _ gc gcap _ ab acap ps v79 h3.lt rfl rfl (by omega) (by omega) (fun i hi => by have := HCI.out.2.2 i hi; omega)).mono ?_
  clear h3
  rintro e w7 ⟨rfl, k⟩
  have H7 : Hid (Keeps (fun _ => False) W3 w7) := H6.out.trans k
  clear k H6
  obtain ⟨⟨q0, q1⟩, -⟩ := HCL.out _ H7.out
  go_wp2_with fail
  clear q0 q1
  have h7 := HST.out w7 H7.out
  have HC7 : Hid (RA w w7 C ca cc ta tc tvf cs ts gc gcap (.slice ta0 ps.length tc0) ab acap ps v79 bx ∧ RO w7 bo W0.heap.size c1 k1 c2 k2 X Y ∧ RO w7 bz (bo + 1) c3 k3 c4 k4 X Y ∧ RO w7 bp (bz + 1) c5 k5 c6 k6 X Y) := h7
  clear h7 HST HCL H7
  refine (worded_any w7 _ 400 X (HC7.out.2.1.o1.down (Nat.zero_le _)) (by omega)).mono ?_
  rintro e w8 ⟨rfl, k⟩
  have HD8 : Hid (RA w w8 C ca cc ta tc tvf cs ts gc gcap (.slice ta0 ps.length tc0) ab acap ps v79 bx ∧ w8.heap[bo]? = some (.cells #[.slice c1 X.length k1, .slice c2 Y.length k2] 34) ∧ OwW w8 0 (.slice c2 Y.length k2) Y ∧ RO w8 bz (bo + 1) c3 k3 c4 k4 X Y ∧ RO w8 bp (bz + 1) c5 k5 c6 k6 X Y) := by
    have h7 := HC7.out
    have lo := (Array.getElem?_eq_some_iff.1 h7.2.1.b).1
    refine ⟨h7.1.keeps k (fun x e => (HB2.out.1 x e).1), (k.block bo lo (fun e => by have := (HB2.out.1 bo e).2; omega)).trans h7.2.1.b, owK (h7.2.1.o2.down (Nat.zero_le _)) k (fun g hg e => HB2.out.2.2.1 g e hg), h7.2.2.1.keeps k (fun e => by have := (HB2.out.1 bz e).2; omega) (fun g hg e => ?_) (fun g hg e => ?_), h7.2.2.2.keeps k (fun e => by have := (HB2.out.1 bp e).2; omega) (fun g hg e => ?_) (fun g hg e => ?_)⟩
    · have := (World.ownsRow.lt h7.2.2.1.o1 g hg).1; have := (HB2.out.1 g e).2; omega
    · have := (World.ownsRow.lt h7.2.2.1.o2 g hg).1; have := (HB2.out.1 g e).2; omega
    · have := (World.ownsRow.lt h7.2.2.2.o1 g hg).1; have := (HB2.out.1 g e).2; omega
    · have := (World.ownsRow.lt h7.2.2.2.o2 g hg).1; have := (HB2.out.1 g e).2; omega
  clear k HC7
  have q1 : w8.cell? ⟨bo, 1, none⟩ = some (.slice c2 Y.length k2) := (cell?_heap HD8.out.2.1 1).trans rfl
  go_wp2_with fail
  clear q1
  refine (worded_any w8 _ 500 Y HD8.out.2.2.1 (by omega)).mono ?_
  rintro e w9 ⟨rfl, k⟩
  have HD9 : Hid (RA w w9 C ca cc ta tc tvf cs ts gc gcap (.slice ta0 ps.length tc0) ab acap ps v79 bx ∧ w9.heap[bo]? = some (.cells #[.slice c1 X.length k1, .slice c2 Y.length k2] 34) ∧ RO w9 bz (bo + 1) c3 k3 c4 k4 X Y ∧ RO w9 bp (bz + 1) c5 k5 c6 k6 X Y) := by
    have h7 := HD8.out
    have lo := (Array.getElem?_eq_some_iff.1 h7.2.1).1
    refine ⟨h7.1.keeps k (fun x e => (HB2.out.2.1 x e).1), (k.block bo lo (fun e => by have := (HB2.out.2.1 bo e).2; omega)).trans h7.2.1, h7.2.2.2.1.keeps k (fun e => by have := (HB2.out.2.1 bz e).2; omega) (fun g hg e => ?_) (fun g hg e => ?_), h7.2.2.2.2.keeps k (fun e => by have := (HB2.out.2.1 bp e).2; omega) (fun g hg e => ?_) (fun g hg e => ?_)⟩
    · have := (World.ownsRow.lt h7.2.2.2.1.o1 g hg).1; have := (HB2.out.2.1 g e).2; omega
    · have := (World.ownsRow.lt h7.2.2.2.1.o2 g hg).1; have := (HB2.out.2.1 g e).2; omega
    · have := (World.ownsRow.lt h7.2.2.2.2.o1 g hg).1; have := (HB2.out.2.1 g e).2; omega
    · have := (World.ownsRow.lt h7.2.2.2.2.o2 g hg).1; have := (HB2.out.2.1 g e).2; omega
  clear k HD8
  obtain ⟨q0, q1⟩ := HD9.out.2.2.1.cells
  obtain ⟨q2, q3⟩ := HD9.out.2.2.2.cells
  go_wp2_with fail
  clear q0 q1 q2 q3
  have h3 := HD9.out
  refine (sameO w9 w9.heap.size (Nat.le_refl _) c3 k3 c5 k5 X c4 k4 c6 k6 Y h3.2.2.1.o1.in h3.2.2.2.o1.in (by omega) h3.2.2.1.o2.in h3.2.2.2.o2.in (by omega)).mono ?_
  clear h3
  rintro e wa ⟨rfl, k⟩
  have HDA : Hid (RA w wa C ca cc ta tc tvf cs ts gc gcap (.slice ta0 ps.length tc0) ab acap ps v79 bx ∧ wa.heap[bo]? = some (.cells #[.slice c1 X.length k1, .slice c2 Y.length k2] 34) ∧ wa.heap[bp]? = some (.cells #[.slice c5 X.length k5, .slice c6 Y.length k6] 34)) := ⟨HD9.out.1.still k, (k.block bo (Array.getElem?_eq_some_iff.1 HD9.out.2.1).1 (fun e => e)).trans HD9.out.2.1, (HD9.out.2.2.2.still k).b⟩
  clear k HD9
  obtain ⟨q0, q1⟩ := HDA.out.1.gcells
  go_wp2_with fail
  clear q0 q1
  refine (wreck_any wa (w.heap.size + 4) cs ts gc gcap _ ab acap ps v79 HDA.out.1.lt (by have := HDA.out.1.sz; have := HDA.out.1.tp gc (Or.inl rfl); have := (HDA.out.1.lt.lq gc (Or.inl rfl)).1; omega) HCI.out.1 (by omega) (by omega) (fun i hi => by have := HCI.out.2.2 i hi; omega)).mono ?_
  rintro e wb ⟨rfl, ps', ltf, hff, k⟩
  have tpk : ∀ x, wkQ gc ps x → x < bx := fun x hx => HDA.out.1.tp x (wk_lq hx)
  have sB := HDA.out.1.sz
  have HDB : Hid (Lt wb (w.heap.size + 4) (cs.map flipW) (ts.map (fun l => l.map (fun _ => wrI))) gc gcap (.slice ta0 ps.length tc0) ab acap ps' v79 ∧ wb.heap[bx + 1]? = some (.cells (litC (some ⟨gc, 0, none⟩) cs.length gcap (some ⟨ab, 0, none⟩) ts.length acap) 27) ∧ wb.heap[bo]? = some (.cells #[.slice c1 X.length k1, .slice c2 Y.length k2] 34) ∧ wb.heap[bp]? = some (.cells #[.slice c5 X.length k5, .slice c6 Y.length k6] 34) ∧ Below w.heap.size w wb) := by
    have l1 := (Array.getElem?_eq_some_iff.1 HDA.out.2.1).1
    have l2 := (Array.getElem?_eq_some_iff.1 HDA.out.2.2).1
    have b2 := HB2.out.2.2.2
    refine ⟨ltf, (k.block _ (by omega) (fun e => by have := tpk _ e; omega)).trans HDA.out.1.g, (k.block _ l1 (fun e => by have := tpk _ e; omega)).trans HDA.out.2.1, (k.block _ l2 (fun e => by have := tpk _ e; omega)).trans HDA.out.2.2, HDA.out.1.be.trans (k.below (by have := HDA.out.1.be.size; omega) (fun x hx e => by have := (HDA.out.1.lt.lq x (wk_lq e)).1; omega))⟩
  have hne1 : ¬ bo = bx + 1 := by have := HB2.out.2.2.2; omega
  have hne2 : ¬ bp = bx + 1 := by have := HB2.out.2.2.2; omega
  have hne3 : ¬ bp = bo := by omega
  have hbx : ∀ x, ltQ gc (.slice ta0 ps.length tc0) ab ps v79 x → x < bx := HDA.out.1.tp
  have hwb : w.heap.size < bx := HDA.out.1.wb
  clear k ltf tpk sB HDA
  have q0 : wb.cell? ⟨bx + 1, 0, none⟩ = some (.slice (some ⟨gc, 0, none⟩) cs.length gcap) := (cell?_heap HDB.out.2.1 0).trans rfl
  have q1 : wb.cell? ⟨bx + 1, 1, none⟩ = some (.slice (some ⟨ab, 0, none⟩) ts.length acap) := (cell?_heap HDB.out.2.1 1).trans rfl
  go_wp2_with fail
  clear q0 q1
  have lwr : ∀ i (hi : i < (ts.map (fun l : List I8 => l.map (fun _ => wrI))).length), ((ts.map (fun l : List I8 => l.map (fun _ => wrI)))[i]'hi).length ≤ 1048576 := fun i hi => by
    rw [List.getElem_map, List.length_map]
    exact HCI.out.2.2 i (by simpa using hi)
  obtain ⟨tv3, g3⟩ := HLG.out wb _ _ _ ps' (List.length_map _) (List.length_map _) lwr HDB.out.1
  refine (HP2'.out wb wb.heap.size _ gcap _ acap tv3 g3 (Nat.le_refl _)).mono ?_
  rintro e wc ⟨c7, k7, c8, k8, rfl, o7, o8, dj, kk⟩
  have ec : wc.heap[bo]? = some (.cells #[.slice c1 X.length k1, .slice c2 Y.length k2] 34) := (kk.block _ (Array.getElem?_eq_some_iff.1 HDB.out.2.2.1).1 (fun e => e)).trans HDB.out.2.2.1
  have r0 : wc.cell? ⟨bo, 0, none⟩ = some (.slice c1 X.length k1) := (cell?_heap ec 0).trans rfl
  have r1 : wc.cell? ⟨bo, 1, none⟩ = some (.slice c2 Y.length k2) := (cell?_heap ec 1).trans rfl
  have f0 := frozen?_heap ec 0
  have f1 := frozen?_heap ec 1
  have eg : wc.heap[bx + 1]? = some (.cells (litC (some ⟨gc, 0, none⟩) cs.length gcap (some ⟨ab, 0, none⟩) ts.length acap) 27) := (kk.block _ (Array.getElem?_eq_some_iff.1 HDB.out.2.1).1 (fun e => e)).trans HDB.out.2.1
  have q0 : wc.cell? ⟨bx + 1, 0, none⟩ = some (.slice (some ⟨gc, 0, none⟩) cs.length gcap) := (cell?_heap eg 0).trans rfl
  have q1 : wc.cell? ⟨bx + 1, 1, none⟩ = some (.slice (some ⟨ab, 0, none⟩) ts.length acap) := (cell?_heap eg 1).trans rfl
  clear g3
  go_wp2_with fail
  clear q0 q1 r0 r1 f0 f1
  have lbo := (Array.getElem?_eq_some_iff.1 HDB.out.2.2.1).1
  have lbp := (Array.getElem?_eq_some_iff.1 HDB.out.2.2.2.1).1
  obtain ⟨ro, ks⟩ := RO.store ec o7 o8 (by omega)
  have HDC : Hid (RO ((wc.setCell ⟨bo, 0, none⟩ (.slice c7 X2.length k7)).setCell ⟨bo, 1, none⟩ (.slice c8 Y2.length k8)) bo wb.heap.size c7 k7 c8 k8 X2 Y2 ∧ Lt ((wc.setCell ⟨bo, 0, none⟩ (.slice c7 X2.length k7)).setCell ⟨bo, 1, none⟩ (.slice c8 Y2.length k8)) (w.heap.size + 4) (cs.map flipW) (ts.map (fun l => l.map (fun _ => wrI))) gc gcap (.slice ta0 ps.length tc0) ab acap ps' v79 ∧ ((wc.setCell ⟨bo, 0, none⟩ (.slice c7 X2.length k7)).setCell ⟨bo, 1, none⟩ (.slice c8 Y2.length k8)).heap[bp]? = some (.cells #[.slice c5 X.length k5, .slice c6 Y.length k6] 34) ∧ Below w.heap.size w ((wc.setCell ⟨bo, 0, none⟩ (.slice c7 X2.length k7)).setCell ⟨bo, 1, none⟩ (.slice c8 Y2.length k8)) ∧ wb.heap.size ≤ ((wc.setCell ⟨bo, 0, none⟩ (.slice c7 X2.length k7)).setCell ⟨bo, 1, none⟩ (.slice c8 Y2.length k8)).heap.size) := by
    have hsz := kk.size
    have hsz2 := ks.size
    have b5 := HDB.out.2.2.2.2
    have kb : Keeps (fun x => x = bo) wb ((wc.setCell ⟨bo, 0, none⟩ (.slice c7 X2.length k7)).setCell ⟨bo, 1, none⟩ (.slice c8 Y2.length k8)) := (kk.mono (fun _ e => e.elim)).trans ks
    have lb2 := HB2.out.2.2.2
    refine ⟨ro, HDB.out.1.keeps kb (fun x hx e => ?_), (kb.block _ lbp (fun e => hne3 e)).trans HDB.out.2.2.2.1, b5.trans (kb.below b5.size (fun x hx e => by omega)), by omega⟩
    have := hbx x (lq_fst hff hx)
    omega
  generalize (wc.setCell ⟨bo, 0, none⟩ (.slice c7 X2.length k7)).setCell ⟨bo, 1, none⟩ (.slice c8 Y2.length k8) = wd at *
  clear ro ks ec eg o7 o8 dj kk HDB
  obtain ⟨tv4, g4⟩ := HLG.out wd _ _ _ ps' (List.length_map _) (List.length_map _) lwr HDC.out.2.1
  have HCP := copyLit wd wd.heap.size _ gcap _ acap tv4 _ _ g4 (Nat.le_refl _) (by rw [List.length_map]; omega) (by rw [List.length_map]; omega) (fun i hi => by have := lwr i hi; omega)
  rw [List.length_map, List.length_map] at HCP
  refine HCP.mono ?_
  clear HCP g4
  rintro e we ⟨na, nc, ma, mc, tv5, rfl, g5, be⟩
  have HE : Hid (Keeps (fun _ => False) wd we ∧ LitG we we.heap.size na nc ma mc tv5 (cs.map flipW) (ts.map (fun l => l.map (fun _ => wrI)))) := ⟨below_keeps be, g5⟩
  clear g5 be
  go_wp2_with fail
  refine (HQ2'.out we we.heap.size na nc ma mc tv5 HE.out.2 (Nat.le_refl _)).mono ?_
  rintro e wf ⟨c9, k9, c10, k10, rfl, o9, o10, kk⟩
  have ep : wf.heap[bp]? = some (.cells #[.slice c5 X.length k5, .slice c6 Y.length k6] 34) := ((HE.out.1.trans kk).block _ (Array.getElem?_eq_some_iff.1 HDC.out.2.2.1).1 (fun e => e)).trans HDC.out.2.2.1
  have r0 : wf.cell? ⟨bp, 0, none⟩ = some (.slice c5 X.length k5) := (cell?_heap ep 0).trans rfl
  have r1 : wf.cell? ⟨bp, 1, none⟩ = some (.slice c6 Y.length k6) := (cell?_heap ep 1).trans rfl
  have f0 := frozen?_heap ep 0
  have f1 := frozen?_heap ep 1
  have hse := HE.out.1.size
  have hsd := HDC.out.2.2.2.2
  obtain ⟨ro, ks⟩ := RO.store ep o9 o10 (by omega)
  have HDF : Hid (RO ((wf.setCell ⟨bp, 0, none⟩ (.slice c9 X2.length k9)).setCell ⟨bp, 1, none⟩ (.slice c10 Y2.length k10)) bo wb.heap.size c7 k7 c8 k8 X2 Y2 ∧ RO ((wf.setCell ⟨bp, 0, none⟩ (.slice c9 X2.length k9)).setCell ⟨bp, 1, none⟩ (.slice c10 Y2.length k10)) bp we.heap.size c9 k9 c10 k10 X2 Y2 ∧ Below w.heap.size w ((wf.setCell ⟨bp, 0, none⟩ (.slice c9 X2.length k9)).setCell ⟨bp, 1, none⟩ (.slice c10 Y2.length k10))) := by
    have kb := ((HE.out.1.trans kk).mono (B' := fun x => x = bp) (fun _ e => e.elim)).trans ks
    have hd := HDC.out
    have lb2 := HB2.out.2.2.2
    exact ⟨hd.1.keeps kb (fun e => hne3 e.symm) (fun g hg e => by have := (World.ownsRow.lt hd.1.o1 g hg).1; omega) (fun g hg e => by have := (World.ownsRow.lt hd.1.o2 g hg).1; omega), ro, hd.2.2.2.1.trans (kb.below hd.2.2.2.1.size (fun x hx e => by omega))⟩
  have z0 : wf.cell? ⟨bo, 0, none⟩ = some (.slice c7 X2.length k7) := (((HE.out.1.trans kk).cell (p := ⟨bo, 0, none⟩) (Array.getElem?_eq_some_iff.1 HDC.out.1.b).1 (fun e => e))).trans HDC.out.1.cells.1
  have z1 : wf.cell? ⟨bo, 1, none⟩ = some (.slice c8 Y2.length k8) := (((HE.out.1.trans kk).cell (p := ⟨bo, 1, none⟩) (Array.getElem?_eq_some_iff.1 HDC.out.1.b).1 (fun e => e))).trans HDC.out.1.cells.2
  clear ro ks ep kk o9 o10
  go_wp2_with fail
  generalize (wf.setCell ⟨bp, 0, none⟩ (.slice c9 X2.length k9)).setCell ⟨bp, 1, none⟩ (.slice c10 Y2.length k10) = wg at *
  clear r0 r1 f0 f1 z0 z1
  have h3 := HDF.out
  refine (sameO wg wg.heap.size (Nat.le_refl _) c7 k7 c9 k9 X2 c8 k8 c10 k10 Y2 h3.1.o1.in h3.2.1.o1.in (by omega) h3.1.o2.in h3.2.1.o2.in (by omega)).mono ?_
  clear h3
  rintro e wh ⟨rfl, k⟩
  have HX : Hid (Below w.heap.size w wh) := HDF.out.2.2.trans (k.below HDF.out.2.2.size (fun _ _ e => e))
  clear k HDF
  go_wp2
  go_ret
  exact ⟨rfl, HX.out⟩
end Go.Proofs.YtegnmflbbpfdhaaGreat
