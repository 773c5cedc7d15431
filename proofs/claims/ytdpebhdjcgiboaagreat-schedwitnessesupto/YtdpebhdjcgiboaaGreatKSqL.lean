import Derived.Test.YtdpebhdjcgiboaaGreatKSqK
import Derived.Test.YtdpebhdjcgiboaaGreatKSj1
namespace Go.Proofs.YtdpebhdjcgiboaaGreat
set_option linter.unusedSimpArgs false
open Go.ChangeShapes Go.WideShapes Go.ChangeAt Go.RowKit Go.MuLone Go.RwLone
set_option linter.unusedVariables false
set_option maxRecDepth 100000
set_option maxHeartbeats 6400000
abbrev ouA (a1 : Option Addr) (n1 d1 : Nat) (a2 : Option Addr) (n2 d2 : Nat) : Array Value := #[.slice a1 n1 d1, .slice a2 n2 d2]
abbrev woW (w : World) (c o : Array Value) : World := (w.alloc (.cells c 49)).alloc (.cells o 51)
abbrev leA (gc n gcap ab m acap : Nat) (tvv : Value) : Array Value := #[.slice (some ⟨gc, 0, none⟩) n gcap, .slice (some ⟨ab, 0, none⟩) m acap, .slice (some ⟨gc, 0, none⟩) (n + 2) gcap, tvv, .slice (some ⟨ab, 0, none⟩) (m + 1) acap]
/-- What SchedWitnesses holds from the asking on. -/
structure WA (w W : World) (C : Nat) (ca : Option Addr) (cc : Nat) (ta : Option Addr) (tc : Nat) (tvf : Nat → Value) (cs : List Int) (ts : List (List I8)) (gc gcap : Nat) (tvv : Value) (ab acap : Nat) (ps : List (Value × List I8)) (v79 : Value) (bx : Nat) (a1 : Option Addr) (d1 : Nat) (a2 : Option Addr) (d2 : Nat) (X Y : List Int) : Prop where
  lit : LitG W C ca cc ta tc tvf cs ts
  l : W.heap[w.heap.size]? = some (.cells (litC ca cs.length cc ta ts.length tc) 49)
  o : W.heap[w.heap.size + 1]? = some (.cells (ouA a1 X.length d1 a2 Y.length d2) 51)
  i1 : InG wdC W C (.slice a1 X.length d1) X
  i2 : InG wdC W C (.slice a2 Y.length d2) Y
  lt : Lt W (w.heap.size + 5) cs ts gc gcap tvv ab acap ps v79
  x : W.heap[bx]? = some (.cells (leA gc cs.length gcap ab ts.length acap tvv) 53)
  be : Below w.heap.size w W
section
variable {w W W' : World} {C : Nat} {ca : Option Addr} {cc : Nat} {ta : Option Addr} {tc : Nat} {tvf : Nat → Value} {cs : List Int} {ts : List (List I8)} {gc gcap : Nat} {tvv : Value} {ab acap : Nat} {ps : List (Value × List I8)} {v79 : Value} {bx : Nat} {a1 : Option Addr} {d1 : Nat} {a2 : Option Addr} {d2 : Nat} {X Y : List Int}
theorem WA.still (h : WA w W C ca cc ta tc tvf cs ts gc gcap tvv ab acap ps v79 bx a1 d1 a2 d2 X Y) (hC : C ≤ w.heap.size) (k : Keeps (fun _ => False) W W') : WA w W' C ca cc ta tc tvf cs ts gc gcap tvv ab acap ps v79 bx a1 d1 a2 d2 X Y := by
  have s1 := h.be.size
  have kb : Below C W W' := k.below (by omega) (fun _ _ e => e)
  exact ⟨h.lit.later kb, (k.block _ (Array.getElem?_eq_some_iff.1 h.l).1 (fun e => e)).trans h.l, (k.block _ (Array.getElem?_eq_some_iff.1 h.o).1 (fun e => e)).trans h.o, h.i1.later kb, h.i2.later kb, h.lt.keeps k (fun _ _ e => e), (k.block _ (Array.getElem?_eq_some_iff.1 h.x).1 (fun e => e)).trans h.x, h.be.trans (k.below s1 (fun _ _ e => e))⟩
theorem WA.lcells (h : WA w W C ca cc ta tc tvf cs ts gc gcap tvv ab acap ps v79 bx a1 d1 a2 d2 X Y) : W.cell? ⟨w.heap.size, 0, none⟩ = some (.slice ca cs.length cc) ∧ W.cell? ⟨w.heap.size, 1, none⟩ = some (.slice ta ts.length tc) := ⟨(cell?_heap h.l 0).trans rfl, (cell?_heap h.l 1).trans rfl⟩
theorem WA.ocells (h : WA w W C ca cc ta tc tvf cs ts gc gcap tvv ab acap ps v79 bx a1 d1 a2 d2 X Y) : W.cell? ⟨w.heap.size + 1, 0, none⟩ = some (.slice a1 X.length d1) ∧ W.cell? ⟨w.heap.size + 1, 1, none⟩ = some (.slice a2 Y.length d2) := ⟨(cell?_heap h.o 0).trans rfl, (cell?_heap h.o 1).trans rfl⟩
theorem WA.xcells (h : WA w W C ca cc ta tc tvf cs ts gc gcap tvv ab acap ps v79 bx a1 d1 a2 d2 X Y) : W.cell? ⟨bx, 0, none⟩ = some (.slice (some ⟨gc, 0, none⟩) cs.length gcap) ∧ W.cell? ⟨bx, 1, none⟩ = some (.slice (some ⟨ab, 0, none⟩) ts.length acap) ∧ W.cell? ⟨bx, 2, none⟩ = some (.slice (some ⟨gc, 0, none⟩) (cs.length + 2) gcap) ∧ W.cell? ⟨bx, 3, none⟩ = some tvv ∧ W.cell? ⟨bx, 4, none⟩ = some (.slice (some ⟨ab, 0, none⟩) (ts.length + 1) acap) := ⟨(cell?_heap h.x 0).trans rfl, (cell?_heap h.x 1).trans rfl, (cell?_heap h.x 2).trans rfl, (cell?_heap h.x 3).trans rfl, (cell?_heap h.x 4).trans rfl⟩
end
theorem last_cell {w : World} {B g n cap : Nat} {xs : List Int} {x : Int} (h : OwW w B (.slice (some ⟨g, 0, none⟩) (n + 1) cap) (xs ++ [x])) (hn : xs.length = n) : w.cell? ⟨g, n, none⟩ = some (.int .u64 x) := by
  subst hn
  have e := (owG_cap h).1
  rw [e] at h
  refine (World.ownsRow.cellAt h xs.length (by simp)).trans ?_
  rw [flat_wd, List.getElem?_map, List.getElem?_append_right (Nat.le_refl _), Nat.sub_self]
  rfl
theorem witnesses_walk (w : World) (C : Nat) (ca : Option Addr) (cc : Nat) (ta : Option Addr) (tc : Nat) (tvf : Nat → Value) (cs : List Int) (ts : List (List I8)) (h : LitG w C ca cc ta tc tvf cs ts) (hC : C ≤ w.heap.size) (hco : csOk cs) (hio : ∀ l ∈ ts, ∀ x ∈ l, immOk x) (l1 : cs.length ≤ 1048576) (l2 : ts.length ≤ 1048576) (l3 : ∀ i (hi : i < ts.length), ts[i].length ≤ 1048576) (a1 : Option Addr) (d1 : Nat) (a2 : Option Addr) (d2 : Nat) (X Y : List Int) (i1 : InG wdC w C (.slice a1 X.length d1) X) (i2 : InG wdC w C (.slice a2 Y.length d2) Y) (lx : X.length ≤ 1048576) (ly : Y.length ≤ 1048576) :
    Calls Tryz.prog 5 #[.agg (litC ca cs.length cc ta ts.length tc), .agg #[.slice a1 X.length d1, .slice a2 Y.length d2]] w fun e w' => e = .returned (.bool true) ∧ Below w.heap.size w w' := by
  have b0 : Below w.heap.size w (woW w (litC ca cs.length cc ta ts.length tc) (ouA a1 X.length d1 a2 Y.length d2)) := ((Below.refl _ _).alloc (Nat.le_refl _) _).alloc (by rw [szAl]; omega) _
  have sz0 : (woW w (litC ca cs.length cc ta ts.length tc) (ouA a1 X.length d1 a2 Y.length d2)).heap.size = w.heap.size + 2 := by rw [szAl, szAl]
  have HLIT : Hid (∀ W, Below (w.heap.size + 2) (woW w (litC ca cs.length cc ta ts.length tc) (ouA a1 X.length d1 a2 Y.length d2)) W → LitG W C ca cc ta tc tvf cs ts ∧ W.heap[w.heap.size]? = some (.cells (litC ca cs.length cc ta ts.length tc) 49) ∧ W.heap[w.heap.size + 1]? = some (.cells (ouA a1 X.length d1 a2 Y.length d2) 51) ∧ InG wdC W C (.slice a1 X.length d1) X ∧ InG wdC W C (.slice a2 Y.length d2) Y ∧ Below w.heap.size w W) := fun W k => by
    have e : W.heap[w.heap.size]? = some (.cells (litC ca cs.length cc ta ts.length tc) 49) := (k.block _ (by omega)).trans ((Below.heap_alloc _ _ _ (by rw [szAl]; omega)).trans (heap_alloc_last _ _ _ rfl))
    have e1 : W.heap[w.heap.size + 1]? = some (.cells (ouA a1 X.length d1 a2 Y.length d2) 51) := (k.block _ (by omega)).trans (heap_alloc_last _ _ _ (szAl _ _).symm)
    have kb := (b0.mono hC).trans (k.mono (by omega))
    exact ⟨h.later kb, e, e1, i1.later kb, i2.later kb, b0.trans (k.mono (by omega))⟩
  have HLE := lend_any (woW w (litC ca cs.length cc ta ts.length tc) (ouA a1 X.length d1 a2 Y.length d2)) C ca cc ta tc tvf cs ts (HLIT.out _ (Below.refl _ _)).1 (by omega) (by omega) (by omega) (fun i hi => by have := l3 i hi; omega)
  rw [sz0] at HLE
  have HLEE : Hid (∀ _ : Unit, _) := fun _ => HLE
  have HCI : Hid (csOk cs ∧ (∀ l ∈ ts, ∀ x ∈ l, immOk x) ∧ (∀ i (hi : i < ts.length), ts[i].length ≤ 1048576)) := ⟨hco, hio, l3⟩
  have HSZ : Hid ((woW w (litC ca cs.length cc ta ts.length tc) (ouA a1 X.length d1 a2 Y.length d2)).heap.size = w.heap.size + 2) := sz0
  obtain ⟨xn, hxn⟩ : ∃ xn, X.length = xn := ⟨_, rfl⟩
  obtain ⟨yn, hyn⟩ : ∃ yn, Y.length = yn := ⟨_, rfl⟩
  have HXY : Hid (X.length = xn ∧ Y.length = yn) := ⟨hxn, hyn⟩
  rw [hxn] at lx
  rw [hyn] at ly
  rw [hxn, hyn] at HLEE HLIT HSZ
  rw [hxn, hyn]
  clear HLE h hco hio l3 i1 i2 b0 sz0 hxn hyn
  go_enter Tryz.func5, Tryz.ntmps5
  go_wp2_with fail
  refine (HLEE.out ()).mono ?_
  rintro e w1 ⟨gc, gcap, tvv, ab, acap, ps, v79, rfl, lt1, b1⟩
  obtain ⟨ta0, tc0, htv⟩ := lt1.ot.form
  subst htv
  generalize woW w (litC ca cs.length cc ta ts.length tc) (ouA a1 xn d1 a2 yn d2) = w0 at *
  obtain ⟨pn, hpn⟩ : ∃ pn, ps.length = pn := ⟨_, rfl⟩
  rw [hpn] at lt1 ⊢
  have hb1 := HLIT.out w1 (by have := HSZ.out; exact b1)
  have hs1 := b1.size
  rw [HSZ.out] at hs1
  have k1 : Keeps (fun _ => False) w1 (w1.alloc (.cells (leA gc cs.length gcap ab ts.length acap (.slice ta0 pn tc0)) 53)) := (Keeps.refl _ _).alloc _
  have HA : Hid (WA w (w1.alloc (.cells (leA gc cs.length gcap ab ts.length acap (.slice ta0 pn tc0)) 53)) C ca cc ta tc tvf cs ts gc gcap (.slice ta0 pn tc0) ab acap ps v79 w1.heap.size a1 d1 a2 d2 X Y) := by
    obtain ⟨g1, g2, g3, g4, g5, g6⟩ := hb1
    rw [← HXY.out.1, ← HXY.out.2] at g3
    rw [← HXY.out.1] at g4
    rw [← HXY.out.2] at g5
    refine ⟨g1.later (k1.below (by omega) (fun _ _ e => e)), (k1.block _ (by omega) (fun e => e)).trans g2, (k1.block _ (by omega) (fun e => e)).trans g3, g4.later (k1.below (by omega) (fun _ _ e => e)), g5.later (k1.below (by omega) (fun _ _ e => e)), lt1.keeps k1 (fun _ _ e => e), heap_alloc_last _ _ _ rfl, g6.trans (k1.below (by omega) (fun _ _ e => e))⟩
  clear lt1 b1 HLEE hb1 hs1 k1 HLIT HSZ hpn
  have HIN : Hid (∀ W, WA w W C ca cc ta tc tvf cs ts gc gcap (.slice ta0 pn tc0) ab acap ps v79 w1.heap.size a1 d1 a2 d2 X Y → (W.cell? ⟨w.heap.size + 1, 0, none⟩ = some (.slice a1 xn d1) ∧ W.cell? ⟨w.heap.size + 1, 1, none⟩ = some (.slice a2 yn d2)) ∧ InG wdC W C (.slice a1 xn d1) X ∧ InG wdC W C (.slice a2 yn d2) Y ∧ C ≤ W.heap.size) := fun W hW => by
    obtain ⟨e1, e2⟩ := hW.ocells
    have e3 := hW.i1
    have e4 := hW.i2
    have e5 := hW.be.size
    rw [HXY.out.1] at e1 e3
    rw [HXY.out.2] at e2 e4
    exact ⟨⟨e1, e2⟩, e3, e4, by omega⟩
  have q0 : ((w1.alloc (.cells #[.slice (some ⟨gc, 0, none⟩) cs.length gcap, .slice (some ⟨ab, 0, none⟩) ts.length acap, .slice (some ⟨gc, 0, none⟩) (cs.length + 2) gcap, .slice ta0 pn tc0, .slice (some ⟨ab, 0, none⟩) (ts.length + 1) acap] 53)).alloc (.cells #[] 55)).cell? ⟨w.heap.size + 1, 0, none⟩ = some (.slice a1 xn d1) := (HIN.out _ (HA.out.still hC ((Keeps.refl _ _).alloc (.cells #[] 55)))).1.1
  go_wp2_with (at_builtin; refine hideG ?_)
  change wpList _ _ _ _ _ _
  refine copy_list (cs := wdC) (w := w1.alloc (.cells (leA gc cs.length gcap ab ts.length acap (.slice ta0 pn tc0)) 53)) (by rfl) _ _ 46 55 (by rfl) Tryz.underlying46 infoU64 rfl (by decide) (fun _ => rfl) (w1.heap.size + 1) (szAl _ _).symm (by rfl) C _ X (by rfl) (HIN.out _ HA.out).2.1 (HIN.out _ HA.out).2.2.2 (fun y _ => wdC_one y) (by rw [HXY.out.1]; unfold maxLen; omega) (by rw [HXY.out.1]; omega) ?_
  generalize w1.alloc (.cells (leA gc cs.length gcap ab ts.length acap (.slice ta0 pn tc0)) 53) = W1 at *
  generalize w1.heap.size = bx at *
  intro v2 w2 ho2 hb2
  obtain ⟨va, vc, rfl⟩ := ho2.form
  have hs2 := hb2.size
  have HO2 : Hid (OwW w2 W1.heap.size (.slice va X.length vc) X ∧ Below W1.heap.size W1 w2) := ⟨ho2, hb2⟩
  rw [HXY.out.1] at HO2 ⊢
  clear ho2 hb2 q0
  go_wp2_with (at_builtin; refine hideG ?_)
  change wpList _ _ _ _ _ _
  refine app_one (cs := wdC) (wr := w2) (by rfl) _ _ 46 55 (by rfl) Tryz.underlying46 infoU64 rfl (by decide) (fun _ => rfl) W1.heap.size _ X 881 HO2.out.1 (by rfl) w2.heap.size rfl (by rfl) (wdC_one _) _ rfl (by rw [HXY.out.1]; unfold maxLen; omega) (by rw [HXY.out.1]; omega) hs2 ?_
  intro v3 w3 ho3 hb3 hk3
  obtain ⟨gx, kx, hv3, -, -⟩ := owG_some ho3 (by simp)
  subst hv3
  have hxl : (X ++ [881]).length = xn + 1 := by rw [List.length_append, HXY.out.1]; rfl
  rw [hxl] at ho3 ⊢
  have hb31 : Below W1.heap.size W1 w3 := HO2.out.2.trans hb3
  have HO3 : Hid (OwW w3 0 (.slice (some ⟨gx, 0, none⟩) (xn + 1) kx) (X ++ [881]) ∧ WA w w3 C ca cc ta tc tvf cs ts gc gcap (.slice ta0 pn tc0) ab acap ps v79 bx a1 d1 a2 d2 X Y) := ⟨ho3.down (Nat.zero_le _), HA.out.still hC (below_keeps hb31)⟩
  clear ho3 hb3 hk3 hxl hb31 hs2 HO2 HA
  have q1 : (w3.alloc (.cells #[] 55)).cell? ⟨w.heap.size + 1, 1, none⟩ = some (.slice a2 yn d2) := (HIN.out _ (HO3.out.2.still hC ((Keeps.refl _ _).alloc (.cells #[] 55)))).1.2
  go_wp2_with (at_builtin; refine hideG ?_)
  change wpList _ _ _ _ _ _
  refine copy_list (cs := wdC) (w := w3) (by rfl) _ _ 46 55 (by rfl) Tryz.underlying46 infoU64 rfl (by decide) (fun _ => rfl) w3.heap.size rfl (by rfl) C _ Y (by rfl) (HIN.out _ HO3.out.2).2.2.1 (HIN.out _ HO3.out.2).2.2.2 (fun y _ => wdC_one y) (by rw [HXY.out.2]; unfold maxLen; omega) (by rw [HXY.out.2]; omega) ?_
  intro v4 w4 ho4 hb4
  obtain ⟨vb, vd, rfl⟩ := ho4.form
  have hs4 := hb4.size
  have HO4 : Hid (OwW w4 w3.heap.size (.slice vb Y.length vd) Y ∧ Below w3.heap.size w3 w4) := ⟨ho4, hb4⟩
  rw [HXY.out.2] at HO4 ⊢
  clear ho4 hb4 q1
  go_wp2_with (at_builtin; refine hideG ?_)
  change wpList _ _ _ _ _ _
  refine app_one (cs := wdC) (wr := w4) (by rfl) _ _ 46 55 (by rfl) Tryz.underlying46 infoU64 rfl (by decide) (fun _ => rfl) w3.heap.size _ Y 882 HO4.out.1 (by rfl) w4.heap.size rfl (by rfl) (wdC_one _) _ rfl (by rw [HXY.out.2]; unfold maxLen; omega) (by rw [HXY.out.2]; omega) hs4 ?_
  intro v5 w5 ho5 hb5 hk5
  obtain ⟨gy, ky, hv5, -, -⟩ := owG_some ho5 (by simp)
  subst hv5
  have hyl : (Y ++ [882]).length = yn + 1 := by rw [List.length_append, HXY.out.2]; rfl
  rw [hyl] at ho5 ⊢
  have hb51 : Below w3.heap.size w3 w5 := HO4.out.2.trans hb5
  have HO5 : Hid (OwW w5 0 (.slice (some ⟨gx, 0, none⟩) (xn + 1) kx) (X ++ [881]) ∧ OwW w5 0 (.slice (some ⟨gy, 0, none⟩) (yn + 1) ky) (Y ++ [882]) ∧ WA w w5 C ca cc ta tc tvf cs ts gc gcap (.slice ta0 pn tc0) ab acap ps v79 bx a1 d1 a2 d2 X Y) := ⟨HO3.out.1.later hb51, ho5.down (Nat.zero_le _), HO3.out.2.still hC (below_keeps hb51)⟩
  clear ho5 hb5 hk5 hyl hb51 hs4 HO4 HO3
  have hc1 : xn ≤ kx := by have := (owG_cap HO5.out.1).2.1; rw [List.length_append, HXY.out.1] at this; omega
  have hc2 : yn ≤ ky := by have := (owG_cap HO5.out.2.1).2.1; rw [List.length_append, HXY.out.2] at this; omega
  have hs1 : ∀ W : World, (Instr.slice 46 (.slice (some ⟨gx, 0, none⟩) (xn + 1) kx) none (some (.int .i64 ((xn : Nat) : Int))) none).run Tryz.prog W = .ok (.slice (some ⟨gx, 0, none⟩) xn kx) W := fun W => slice_toW W _ (xn + 1) kx _ hc1
  have hs2 : ∀ W : World, (Instr.slice 46 (.slice (some ⟨gy, 0, none⟩) (yn + 1) ky) none (some (.int .i64 ((yn : Nat) : Int))) none).run Tryz.prog W = .ok (.slice (some ⟨gy, 0, none⟩) yn ky) W := fun W => slice_toW W _ (yn + 1) ky _ hc2
  clear hc1 hc2
  have sx := (HIN.out w5.drew (HO5.out.2.2.still hC (Keeps.refl _ _).drew)).1
  go_wp2_with fail
  (refine wp_region_held_drew (S := (fun Z => Z.cell? ⟨w.heap.size + 1, 0, none⟩ = some (.slice a1 xn d1) ∧ Z.cell? ⟨w.heap.size + 1, 1, none⟩ = some (.slice a2 yn d2))) (by kernel_rfl) sx (fun hHeld => ?_); simp only [List.size_toArray, List.length_cons, List.length_nil, Nat.reduceAdd, Array.replicate_succ, Array.replicate_zero, List.push_toArray, List.append_toArray, List.nil_append, List.cons_append])
  refine rgT 0 (h := ?_)
  refine rgT 1 (h := ?_)
  refine rgT 2 (h := ?_)
  refine rgT 3 (h := ?_)
  refine rgT 4 (h := ?_)
  refine rgT 5 (h := ?_)
  refine rgT 6 (h := ?_)
  refine rgT 7 (h := ?_)
  refine rgT 8 (h := ?_)
  refine rgT 9 (h := ?_)
  refine rgT 10 (h := ?_)
  clear hs1 hs2
  (refine rgS 11 (h := fun K hK => ?_); go_simp)
  have HA6 : Hid (OwW (w5.drew.alloc (.cells #[.slice none 0 0, .slice none 0 0] 51)) 0 (.slice (some ⟨gx, 0, none⟩) (xn + 1) kx) (X ++ [881]) ∧ OwW (w5.drew.alloc (.cells #[.slice none 0 0, .slice none 0 0] 51)) 0 (.slice (some ⟨gy, 0, none⟩) (yn + 1) ky) (Y ++ [882]) ∧ WA w (w5.drew.alloc (.cells #[.slice none 0 0, .slice none 0 0] 51)) C ca cc ta tc tvf cs ts gc gcap (.slice ta0 pn tc0) ab acap ps v79 bx a1 d1 a2 d2 X Y) := by
    have k := ((Keeps.refl (fun _ => False) w5).drew).alloc (.cells #[.slice none 0 0, .slice none 0 0] 51)
    exact ⟨owK HO5.out.1 k (fun _ _ e => e), owK HO5.out.2.1 k (fun _ _ e => e), HO5.out.2.2.still hC k⟩
  (refine hK.out _ _ (HIN.out _ HA6.out.2.2).1 (fun hHeld => ?_); clear hK K; try simp only [Act.put, List.setIfInBounds_toArray, List.set_cons_zero, List.set_cons_succ])
  (refine rgS 12 (h := fun K hK => ?_); go_simp)
  have k6 : Keeps (fun _ => False) w5 (w5.alloc (.cells #[.slice (some ⟨gx, 0, none⟩) xn kx, .slice (some ⟨gy, 0, none⟩) yn ky] 51)).drew := ((Keeps.refl _ _).alloc _).drew
  have e6 : (w5.alloc (.cells #[.slice (some ⟨gx, 0, none⟩) xn kx, .slice (some ⟨gy, 0, none⟩) yn ky] 51)).drew.heap[w5.heap.size]? = some (.cells #[.slice (some ⟨gx, 0, none⟩) xn kx, .slice (some ⟨gy, 0, none⟩) yn ky] 51) := heap_alloc_last _ _ _ rfl
  have HS0 : Hid (∀ W, Keeps (fun _ => False) (w5.alloc (.cells #[.slice (some ⟨gx, 0, none⟩) xn kx, .slice (some ⟨gy, 0, none⟩) yn ky] 51)).drew W → OwW W 0 (.slice (some ⟨gx, 0, none⟩) (xn + 1) kx) (X ++ [881]) ∧ OwW W 0 (.slice (some ⟨gy, 0, none⟩) (yn + 1) ky) (Y ++ [882]) ∧ WA w W C ca cc ta tc tvf cs ts gc gcap (.slice ta0 pn tc0) ab acap ps v79 bx a1 d1 a2 d2 X Y ∧ W.heap[w5.heap.size]? = some (.cells #[.slice (some ⟨gx, 0, none⟩) xn kx, .slice (some ⟨gy, 0, none⟩) yn ky] 51)) := fun W k => by
    have k' := k6.trans k
    exact ⟨owK HO5.out.1 k' (fun _ _ e => e), owK HO5.out.2.1 k' (fun _ _ e => e), HO5.out.2.2.still hC k', (k.block _ (Array.getElem?_eq_some_iff.1 e6).1 (fun e => e)).trans e6⟩
  (refine hK.out _ _ (HIN.out _ (HS0.out _ (Keeps.refl _ _)).2.2.1).1 (fun hHeld => ?_); clear hK K; try simp only [Act.put, List.setIfInBounds_toArray, List.set_cons_zero, List.set_cons_succ])
  refine wpAnyH_done (by kernel_rfl) ?_ _
  clear hHeld k6 e6 sx HA6 HO5
  clear hHeld
  clear hHeld
  generalize (w5.alloc (.cells #[.slice (some ⟨gx, 0, none⟩) xn kx, .slice (some ⟨gy, 0, none⟩) yn ky] 51)).drew = W6 at *
  generalize w5.heap.size = bq at *
  have HS : Hid (∀ W, Keeps (fun _ => False) W6 W → WA w W C ca cc ta tc tvf cs ts gc gcap (.slice ta0 pn tc0) ab acap ps v79 bx a1 d1 a2 d2 X Y ∧ C ≤ W.heap.size ∧ (∃ tv, LitG W W.heap.size (some ⟨gc, 0, none⟩) gcap (some ⟨ab, 0, none⟩) acap tv cs ts) ∧ InG wdC W W.heap.size (.slice (some ⟨gx, 0, none⟩) X.length kx) X ∧ InG wdC W W.heap.size (.slice (some ⟨gy, 0, none⟩) Y.length ky) Y ∧ W.cell? ⟨bq, 0, none⟩ = some (.slice (some ⟨gx, 0, none⟩) xn kx) ∧ W.cell? ⟨bq, 1, none⟩ = some (.slice (some ⟨gy, 0, none⟩) yn ky) ∧ W.cell? ⟨gx, xn, none⟩ = some (.int .u64 881) ∧ W.cell? ⟨gy, yn, none⟩ = some (.int .u64 882)) := fun W k => by
    obtain ⟨o1, o2, hA, hb⟩ := HS0.out W k
    have s1 := hA.be.size
    refine ⟨hA, by omega, hA.lt.lit (by omega) (by omega) (fun i hi => by have := HCI.out.2.2 i hi; omega), o1.pre, o2.pre, (cell?_heap hb 0).trans rfl, (cell?_heap hb 1).trans rfl, ?_, ?_⟩
    · exact last_cell o1 HXY.out.1
    · exact last_cell o2 HXY.out.2
  clear HS0
  obtain ⟨x0, x1, -⟩ := (HS.out W6 (Keeps.refl _ _)).1.xcells
  obtain ⟨-, -, ⟨tv6, g6⟩, j1, j2, y0, y1, -⟩ := HS.out W6 (Keeps.refl _ _)
  have hwi := witA W6 W6.heap.size _ gcap _ acap tv6 cs ts g6 (Nat.le_refl _) HCI.out.1 HCI.out.2.1 _ kx _ ky X Y j1 j2
  rw [HXY.out.1, HXY.out.2] at hwi
  have HWI : Hid (∀ _ : Unit, _) := fun _ => hwi
  clear hwi g6 j1 j2
  go_wp2_with fail
  refine (HWI.out ()).mono ?_
  rintro e w7 ⟨st, er, rfl, hb7, hw0, hw1⟩
  clear x0 x1 y0 y1 HWI
  have HW7 : Hid ((soundP cs ts = false → er = 35 ∧ st = ⟨#[]⟩) ∧ (soundP cs ts = true → (er = 0 ∧ st.size ≤ 64 ∧ HasP cs ts X Y ∧ wlL (endA cs ts (dL st.data.toList)).2.wo cs.length = X ∧ regsL (endA cs ts (dL st.data.toList)).2.rg ts.length = Y) ∨ (er = 36 ∧ st = ⟨#[]⟩ ∧ ¬ HasP cs ts X Y))) := ⟨hw0, hw1⟩
  have HK7 : Hid (Keeps (fun _ => False) W6 w7) := below_keeps hb7
  clear hw0 hw1 hb7
  have h7 := (HS.out w7 HK7.out).1
  obtain ⟨x0, x1, x2, x3, x4⟩ := h7.xcells
  obtain ⟨q0, q1⟩ := h7.lcells
  go_wp2_with fail
  clear x0 x1 x2 x3 x4 q0 q1
  refine (kept_any w7 C (HS.out w7 HK7.out).2.1 (w.heap.size + 5) ca cc ta tc tvf cs ts h7.lit _ _ gc gcap _ ab acap ps v79 h7.lt rfl rfl (by omega) (by omega) (fun i hi => by have := HCI.out.2.2 i hi; omega)).mono ?_
  clear h7
  rintro e w8 ⟨rfl, k⟩
  have HK8 : Hid (Keeps (fun _ => False) W6 w8) := HK7.out.trans k
  clear k HK7
  have HSM : Hid (∀ W, Keeps (fun _ => False) W6 W → ∀ (p1 : Option Addr) (pk1 : Nat) (p2 : Option Addr) (pk2 : Nat), InG wdC W W.heap.size (.slice p1 X.length pk1) X → InG wdC W W.heap.size (.slice p2 Y.length pk2) Y → Calls Tryz.prog 23 #[.agg #[.slice p1 xn pk1, .slice p2 yn pk2], .agg #[.slice a1 xn d1, .slice a2 yn d2]] W fun e w' => e = .returned (.bool true) ∧ Keeps (fun _ => False) W w') := fun W k p1 pk1 p2 pk2 g1 g2 => by
    obtain ⟨hA, hc, _⟩ := HS.out W k
    have := sameO W W.heap.size (Nat.le_refl _) p1 pk1 a1 d1 X p2 pk2 a2 d2 Y g1 (hA.i1.up hc) (by rw [HXY.out.1]; omega) g2 (hA.i2.up hc) (by rw [HXY.out.2]; omega)
    rw [HXY.out.1, HXY.out.2] at this
    exact this
  obtain ⟨-, -, -, -, -, y0, y1, c881, c882⟩ := HS.out w8 HK8.out
  obtain ⟨⟨q0, q1⟩, -⟩ := HIN.out w8 (HS.out w8 HK8.out).1
  go_wp2_with fail
  clear y0 y1 c881 c882 q0 q1
  refine (HSM.out w8 HK8.out _ kx _ ky (HS.out w8 HK8.out).2.2.2.1 (HS.out w8 HK8.out).2.2.2.2.1).mono ?_
  rintro e w9 ⟨rfl, k⟩
  have HK9 : Hid (Keeps (fun _ => False) W6 w9) := HK8.out.trans k
  clear k HK8
  obtain ⟨-, -, -, -, -, -, -, c881, c882⟩ := HS.out w9 HK9.out
  obtain ⟨⟨q0, q1⟩, -⟩ := HIN.out w9 (HS.out w9 HK9.out).1
  obtain ⟨r0, r1⟩ := (HS.out w9 HK9.out).1.lcells
  obtain ⟨sd, hsd⟩ : ∃ sd, soundP cs ts = sd := ⟨_, rfl⟩
  have HSD : Hid (soundP cs ts = sd) := hsd
  have hso := rSound_any w9 C ca cc ta tc tvf cs ts (HS.out w9 HK9.out).1.lit (HS.out w9 HK9.out).2.1
  rw [hsd] at hso
  have HSO : Hid (∀ _ : Unit, _) := fun _ => hso
  clear hso hsd
  go_wp2_with fail
  clear q0 q1 c881 c882 r0 r1
  refine (HSO.out ()).mono ?_
  rintro e w10 ⟨rfl, k⟩
  have HK10 : Hid (Keeps (fun _ => False) W6 w10) := HK9.out.trans k
  clear k HK9 HSO
  cases sd
  · obtain ⟨rfl, rfl⟩ := HW7.out.1 HSD.out
    have HE : Hid (Below w.heap.size w w10) := (HS.out w10 HK10.out).1.be
    clear HW7
    go_wp2
    go_ret
    exact ⟨rfl, HE.out⟩
  · obtain ⟨r0, r1⟩ := (HS.out w10 HK10.out).1.lcells
    obtain ⟨⟨q0, q1⟩, t1, t2, t3⟩ := HIN.out w10 (HS.out w10 HK10.out).1
    have hha := rHas_any w10 C ca cc ta tc tvf cs ts (HS.out w10 HK10.out).1.lit t3 HSD.out a1 d1 a2 d2 X Y (HS.out w10 HK10.out).1.i1 (HS.out w10 HK10.out).1.i2 (by rw [HXY.out.1]; omega) (by rw [HXY.out.2]; omega)
    rw [HXY.out.1, HXY.out.2] at hha
    have HHA : Hid (∀ _ : Unit, _) := fun _ => hha
    clear hha t1 t2 t3
    go_wp2_with fail
    clear q0 q1 r0 r1
    refine (HHA.out ()).mono ?_
    rintro e w11 ⟨hb, rfl, hiff, b11⟩
    have HK11 : Hid (Keeps (fun _ => False) W6 w11) := HK10.out.trans (below_keeps b11)
    have HI : Hid (hb = true ↔ HasP cs ts X Y) := hiff
    clear b11 hiff HK10 HHA
    cases hb
    · obtain ⟨rfl, rfl⟩ : er = 36 ∧ st = ⟨#[]⟩ := by
        rcases HW7.out.2 HSD.out with ⟨_, _, h3, _⟩ | ⟨h1, h2, _⟩
        · exact absurd (HI.out.2 h3) (by decide)
        · exact ⟨h1, h2⟩
      have HE : Hid (Below w.heap.size w w11) := (HS.out w11 HK11.out).1.be
      clear HW7
      go_wp2
      go_ret
      exact ⟨rfl, HE.out⟩
    · obtain ⟨rfl, hst, hx, hy⟩ : er = 0 ∧ st.size ≤ 64 ∧ wlL (endA cs ts (dL st.data.toList)).2.wo cs.length = X ∧ regsL (endA cs ts (dL st.data.toList)).2.rg ts.length = Y := by
        rcases HW7.out.2 HSD.out with ⟨h1, h2, _, h4, h5⟩ | ⟨_, _, h3⟩
        · exact ⟨h1, h2, h4, h5⟩
        · exact absurd (HI.out.1 rfl) h3
      have hru := rrunU w11 C ca cc ta tc tvf cs ts (HS.out w11 HK11.out).1.lit (HS.out w11 HK11.out).2.1 st (by omega)
      have ex : outX cs ts (dL st.data.toList) = X := by unfold outX; rw [if_pos HSD.out, hx]
      have ey : outY cs ts (dL st.data.toList) = Y := by unfold outY; rw [if_pos HSD.out, hy]
      rw [ex, ey, HXY.out.1, HXY.out.2] at hru
      have HRU : Hid (∀ _ : Unit, _) := fun _ => hru
      have hst2 : (st.size : Int) ≤ 64 := by omega
      obtain ⟨r0, r1⟩ := (HS.out w11 HK11.out).1.lcells
      clear hru ex ey hx hy HW7 HI
      go_wp2_with fail
      clear r0 r1
      refine (HRU.out ()).mono ?_
      rintro e w12 ⟨c1, k1, c2, k2, rfl, o1, o2, b12⟩
      have hk12 := below_keeps b12
      have hz11 := hk12.size
      have HO12 : Hid (OwW w12 w11.heap.size (.slice c1 xn k1) X ∧ OwW w12 w11.heap.size (.slice c2 yn k2) Y ∧ Keeps (fun _ => False) W6 w12) := ⟨o1, o2, HK11.out.trans hk12⟩
      have k13 : Keeps (fun _ => False) w12 (w12.alloc (.cells #[.slice c1 xn k1, .slice c2 yn k2] 51)) := (Keeps.refl _ _).alloc _
      have HO13 : Hid (Keeps (fun _ => False) W6 (w12.alloc (.cells #[.slice c1 xn k1, .slice c2 yn k2] 51)) ∧ InG wdC (w12.alloc (.cells #[.slice c1 xn k1, .slice c2 yn k2] 51)) (w12.alloc (.cells #[.slice c1 xn k1, .slice c2 yn k2] 51)).heap.size (.slice c1 xn k1) X ∧ InG wdC (w12.alloc (.cells #[.slice c1 xn k1, .slice c2 yn k2] 51)) (w12.alloc (.cells #[.slice c1 xn k1, .slice c2 yn k2] 51)).heap.size (.slice c2 yn k2) Y) := ⟨HO12.out.2.2.trans k13, (owK o1 k13 (fun _ _ e => e)).in, (owK o2 k13 (fun _ _ e => e)).in⟩
      have hsm := HSM.out _ HO13.out.1 c1 k1 c2 k2 (by rw [HXY.out.1]; exact HO13.out.2.1) (by rw [HXY.out.2]; exact HO13.out.2.2)
      have HS3 : Hid (∀ _ : Unit, _) := fun _ => hsm
      obtain ⟨⟨q0, q1⟩, -⟩ := HIN.out _ (HS.out _ HO13.out.1).1
      clear hsm o1 o2 b12 hk12 hz11 k13 HRU
      go_wp2_with fail
      clear q0 q1
      refine (HS3.out ()).mono ?_
      rintro e w14 ⟨rfl, k⟩
      have HE : Hid (Below w.heap.size w w14) := (HS.out w14 (HO13.out.1.trans k)).1.be
      clear k HS3
      go_wp2
      go_ret
      exact ⟨rfl, HE.out⟩
end Go.Proofs.YtdpebhdjcgiboaaGreat
