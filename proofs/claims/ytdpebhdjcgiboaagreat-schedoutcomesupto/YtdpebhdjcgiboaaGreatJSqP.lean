import Derived.Test.YtdpebhdjcgiboaaGreatJSoQ
import Derived.Test.YtdpebhdjcgiboaaGreatJSj1
namespace Go.Proofs.YtdpebhdjcgiboaaGreat
set_option linter.unusedSimpArgs false
open Go.ChangeShapes Go.WideShapes Go.ChangeAt Go.RowKit Go.MuLone Go.RwLone
set_option linter.unusedVariables false
set_option maxRecDepth 100000
set_option maxHeartbeats 6400000
abbrev leB (gc n gcap ab m acap : Nat) (tvv : Value) : Array Value := #[.slice (some ⟨gc, 0, none⟩) n gcap, .slice (some ⟨ab, 0, none⟩) m acap, .slice (some ⟨gc, 0, none⟩) (n + 2) gcap, tvv, .slice (some ⟨ab, 0, none⟩) (m + 1) acap]
/-- What SchedOutcomes holds. -/
structure OA (w W : World) (C : Nat) (ca : Option Addr) (cc : Nat) (ta : Option Addr) (tc : Nat) (tvf : Nat → Value) (cs : List Int) (ts : List (List I8)) (gc gcap : Nat) (tvv : Value) (ab acap : Nat) (ps : List (Value × List I8)) (v79 : Value) (bx : Nat) : Prop where
  lit : LitG W C ca cc ta tc tvf cs ts
  l : W.heap[w.heap.size]? = some (.cells (litC ca cs.length cc ta ts.length tc) 49)
  lt : Lt W (w.heap.size + 4) cs ts gc gcap tvv ab acap ps v79
  x : W.heap[bx]? = some (.cells (leB gc cs.length gcap ab ts.length acap tvv) 53)
  be : Below w.heap.size w W
section
variable {w W W' : World} {C : Nat} {ca : Option Addr} {cc : Nat} {ta : Option Addr} {tc : Nat} {tvf : Nat → Value} {cs : List Int} {ts : List (List I8)} {gc gcap : Nat} {tvv : Value} {ab acap : Nat} {ps : List (Value × List I8)} {v79 : Value} {bx : Nat}
theorem OA.still (h : OA w W C ca cc ta tc tvf cs ts gc gcap tvv ab acap ps v79 bx) (hC : C ≤ w.heap.size) (k : Keeps (fun _ => False) W W') : OA w W' C ca cc ta tc tvf cs ts gc gcap tvv ab acap ps v79 bx := by
  have s1 := h.be.size
  have kb : Below C W W' := k.below (by omega) (fun _ _ e => e)
  exact ⟨h.lit.later kb, (k.block _ (Array.getElem?_eq_some_iff.1 h.l).1 (fun e => e)).trans h.l, h.lt.keeps k (fun _ _ e => e), (k.block _ (Array.getElem?_eq_some_iff.1 h.x).1 (fun e => e)).trans h.x, h.be.trans (k.below s1 (fun _ _ e => e))⟩
theorem OA.lcells (h : OA w W C ca cc ta tc tvf cs ts gc gcap tvv ab acap ps v79 bx) : W.cell? ⟨w.heap.size, 0, none⟩ = some (.slice ca cs.length cc) ∧ W.cell? ⟨w.heap.size, 1, none⟩ = some (.slice ta ts.length tc) := ⟨(cell?_heap h.l 0).trans rfl, (cell?_heap h.l 1).trans rfl⟩
theorem OA.xcells (h : OA w W C ca cc ta tc tvf cs ts gc gcap tvv ab acap ps v79 bx) : W.cell? ⟨bx, 0, none⟩ = some (.slice (some ⟨gc, 0, none⟩) cs.length gcap) ∧ W.cell? ⟨bx, 1, none⟩ = some (.slice (some ⟨ab, 0, none⟩) ts.length acap) ∧ W.cell? ⟨bx, 2, none⟩ = some (.slice (some ⟨gc, 0, none⟩) (cs.length + 2) gcap) ∧ W.cell? ⟨bx, 3, none⟩ = some tvv ∧ W.cell? ⟨bx, 4, none⟩ = some (.slice (some ⟨ab, 0, none⟩) (ts.length + 1) acap) := ⟨(cell?_heap h.x 0).trans rfl, (cell?_heap h.x 1).trans rfl, (cell?_heap h.x 2).trans rfl, (cell?_heap h.x 3).trans rfl, (cell?_heap h.x 4).trans rfl⟩
end
/-- The list of all outcomes. -/
def IsOu (cs : List Int) (tl : List (List I8)) (Z : List (List Int × List Int)) : Prop := Z.Pairwise ltO ∧ ∀ p, p ∈ Z ↔ ∃ u, EndS cs tl u ∧ OutOf cs tl u p.1 p.2
theorem isOu_one {cs : List Int} {tl : List (List I8)} {Z Z' : List (List Int × List Int)} (h : IsOu cs tl Z) (k : IsOu cs tl Z') : Z = Z' := rising_same ltO_ir ltO_tr _ _ h.1 k.1 (fun p => (h.2 p).trans (k.2 p).symm)
theorem outs_is {cs : List Int} {tl : List (List I8)} {w w' : World} {v : Value} {ys : List OuD} (h : Outs w w' cs tl v ys) : IsOu cs tl (ys.map outP) := by
  refine ⟨?_, fun p => ⟨fun hp => ?_, fun ⟨u, hu, ho⟩ => ?_⟩⟩
  · rw [List.pairwise_map]
    refine (h.s.and h.d).imp ?_
    rintro a b ⟨h1, h2⟩
    show cmO a.X a.Y b.X b.Y < 0
    have f := cmO_ord.f (a.X, a.Y) (b.X, b.Y)
    dsimp only at f
    rcases Int.lt_or_eq_of_le (show cmO a.X a.Y b.X b.Y ≤ 0 by omega) with e | e
    · exact e
    · have := cmO_ord.e (a.X, a.Y) (b.X, b.Y) e
      injection this with e1 e2
      exact absurd ⟨e1, e2⟩ h2
  · obtain ⟨y, hy, rfl⟩ := List.mem_map.1 hp
    obtain ⟨u, hu, h1, h2⟩ := h.e y hy
    exact ⟨u, hu, h1, h2⟩
  · obtain ⟨y, hy, h3, h4⟩ := h.a u hu
    exact List.mem_map.2 ⟨y, hy, by show (y.X, y.Y) = p; rw [h3, h4, ← ho.1, ← ho.2]⟩
theorem routs_is {cs : List Int} {tl : List (List I8)} {w w' : World} {v : Value} {ys : List OuD} (k : ROuts cs tl w w' v ys) : IsOu cs tl (ys.map outP) := by
  refine ⟨?_, fun p => ⟨fun hp => ?_, fun ⟨u, hu, ho⟩ => ?_⟩⟩
  · rw [List.pairwise_map]
    exact k.s
  · obtain ⟨y, hy, rfl⟩ := List.mem_map.1 hp
    obtain ⟨u, hu, h1, h2⟩ := k.g y hy
    exact ⟨u, hu, h1, h2⟩
  · obtain ⟨y, hy, h3, h4⟩ := k.b u hu
    exact List.mem_map.2 ⟨y, hy, by show (y.X, y.Y) = p; rw [h3, h4, ← ho.1, ← ho.2]⟩
/-- What Outcomes answers, whatever the program is: of each side, the same list Z. -/
structure OuQ (w w' : World) (v : Value) (ys : List OuD) (Z : List (List Int × List Int)) : Prop where
  r : OwG ouC 51 2 w' w.heap.size v ys
  o : ∀ y ∈ ys, OuW w' w.heap.size y
  k : Keeps (fun _ => False) w w'
  z : ys.map outP = Z
  l : ys.length ≤ 6103515625
  q : ys.Pairwise DjO
  n : ∀ y ∈ ys, InO y
structure OuR (w w' : World) (v : Value) (ys : List OuD) (Z : List (List Int × List Int)) : Prop where
  r : OwG ouC 51 2 w' w.heap.size v ys
  o : ∀ y ∈ ys, OuW w' w.heap.size y
  k : Keeps (fun _ => False) w w'
  z : ys.map outP = Z
theorem outsV (cs : List Int) (tl : List (List I8)) (hco : csOk cs) (hio : ∀ l ∈ tl, ∀ x ∈ l, immOk x) {n m : Nat} (hn : cs.length = n) (hm : tl.length = m) :
    ∃ Z E,
      (∀ W C ca cc ta tc tvf, LitG W C ca cc ta tc tvf cs tl → C ≤ W.heap.size → Calls Tryz.prog 27 #[.agg (litC ca n cc ta m tc)] W fun e w' => ∃ v ys, e = .returned (.tuple #[v, .int .i64 E]) ∧ OuQ W w' v ys Z) ∧
      (∀ W C ca cc ta tc tvf, LitG W C ca cc ta tc tvf cs tl → C ≤ W.heap.size → Calls Tryz.prog 28 #[.agg (litC ca n cc ta m tc)] W fun e w' => ∃ v ys, e = .returned (.tuple #[v, .int .i64 E]) ∧ OuR W w' v ys Z) := by
  subst hn hm
  cases hsd : soundP cs tl
  · refine ⟨[], 35, fun W C ca cc ta tc tvf h hC => ?_, fun W C ca cc ta tc tvf h hC => ?_⟩
    · refine (outcomes_no W C ca cc ta tc tvf cs tl h hC hsd).mono ?_
      rintro e w' ⟨rfl, k⟩
      exact ⟨_, [], rfl, OwG.nil _ _ _ _ _, (fun y hy => by cases hy), k, rfl, by simp, List.Pairwise.nil, (fun y hy => by cases hy)⟩
    · refine (routs_no W C ca cc ta tc tvf cs tl h hC hsd).mono ?_
      rintro e w' ⟨rfl, k⟩
      exact ⟨_, [], rfl, OwG.nil _ _ _ _ _, (fun y hy => by cases hy), k, rfl⟩
  · by_cases hz : ∃ Z, IsOu cs tl Z
    · obtain ⟨Z, hZ⟩ := hz
      refine ⟨Z, 0, fun W C ca cc ta tc tvf h hC => ?_, fun W C ca cc ta tc tvf h hC => ?_⟩
      · refine (outcomes_any W C ca cc ta tc tvf cs tl h hC hsd hco hio).mono ?_
        rintro e w' ⟨v, ys, rfl, ho⟩
        exact ⟨_, ys, rfl, ho.r, ho.o, below_keeps ho.k, isOu_one (outs_is ho) hZ, ho.l, ho.q, ho.n⟩
      · refine (routs_any W C ca cc ta tc tvf cs tl h hC hsd).mono ?_
        rintro e w' ⟨v, ys, rfl, ho⟩
        exact ⟨_, ys, rfl, ho.r, ho.o, below_keeps ho.k, isOu_one (routs_is ho) hZ⟩
    · refine ⟨[], 0, fun W C ca cc ta tc tvf h hC => ?_, fun W C ca cc ta tc tvf h hC => ?_⟩
      · refine (outcomes_any W C ca cc ta tc tvf cs tl h hC hsd hco hio).mono ?_
        rintro e w' ⟨v, ys, rfl, ho⟩
        exact absurd ⟨_, outs_is ho⟩ hz
      · refine (routs_any W C ca cc ta tc tvf cs tl h hC hsd).mono ?_
        rintro e w' ⟨v, ys, rfl, ho⟩
        exact absurd ⟨_, routs_is ho⟩ hz
theorem map_at {ys zs : List OuD} {Z : List (List Int × List Int)} (h : ys.map outP = Z) (k : zs.map outP = Z) {i : Nat} {y z : OuD} (hy : ys[i]? = some y) (hz : zs[i]? = some z) : y.X = z.X ∧ y.Y = z.Y := by
  have e1 : (ys.map outP)[i]? = some (outP y) := by rw [List.getElem?_map, hy]; rfl
  have e2 : (zs.map outP)[i]? = some (outP z) := by rw [List.getElem?_map, hz]; rfl
  rw [h, ← k, e2] at e1
  injection e1 with e1
  injection e1 with e1 e2
  exact ⟨e1.symm, e2.symm⟩
theorem outcomes_walk (w : World) (C : Nat) (ca : Option Addr) (cc : Nat) (ta : Option Addr) (tc : Nat) (tvf : Nat → Value) (cs : List Int) (ts : List (List I8)) (h : LitG w C ca cc ta tc tvf cs ts) (hC : C ≤ w.heap.size) (hco : csOk cs) (hio : ∀ l ∈ ts, ∀ x ∈ l, immOk x) (l1 : cs.length ≤ 1048576) (l2 : ts.length ≤ 1048576) (l3 : ∀ i (hi : i < ts.length), ts[i].length ≤ 1048576) :
    Calls Tryz.prog 6 #[.agg (litC ca cs.length cc ta ts.length tc)] w fun e w' => e = .returned (.bool true) ∧ Below w.heap.size w w' := by
  have b0 : Below w.heap.size w (lgW w (litC ca cs.length cc ta ts.length tc)) := (Below.refl _ _).alloc (Nat.le_refl _) _
  have sz0 : (lgW w (litC ca cs.length cc ta ts.length tc)).heap.size = w.heap.size + 1 := szAl _ _
  obtain ⟨Z, E, HP, HQ⟩ := outsV cs ts hco hio rfl rfl
  have HP' : Hid _ := HP
  have HQ' : Hid _ := HQ
  have HLIT : Hid (∀ W, Below (w.heap.size + 1) (lgW w (litC ca cs.length cc ta ts.length tc)) W → LitG W C ca cc ta tc tvf cs ts ∧ W.heap[w.heap.size]? = some (.cells (litC ca cs.length cc ta ts.length tc) 49) ∧ Below w.heap.size w W) := fun W k => by
    have e : W.heap[w.heap.size]? = some (.cells (litC ca cs.length cc ta ts.length tc) 49) := (k.block _ (by omega)).trans (heap_alloc_last _ _ _ rfl)
    exact ⟨h.later ((b0.mono hC).trans (k.mono (by omega))), e, b0.trans (k.mono (by omega))⟩
  have HLE := lend_any (lgW w (litC ca cs.length cc ta ts.length tc)) C ca cc ta tc tvf cs ts (HLIT.out _ (Below.refl _ _)).1 (by omega) (by omega) (by omega) (fun i hi => by have := l3 i hi; omega)
  rw [sz0] at HLE
  have HLEE : Hid (∀ _ : Unit, _) := fun _ => HLE
  have HCI : Hid (∀ i (hi : i < ts.length), ts[i].length ≤ 1048576) := l3
  clear HLE h hco hio l3 HP HQ
  go_enter Tryz.func6, Tryz.ntmps6
  go_wp2_with fail
  refine (HLEE.out ()).mono ?_
  rintro e w1 ⟨gc, gcap, tvv, ab, acap, ps, v79, rfl, lt1, b1⟩
  obtain ⟨ta0, tc0, htv⟩ := lt1.ot.form
  subst htv
  obtain ⟨pn, hpn⟩ : ∃ pn, ps.length = pn := ⟨_, rfl⟩
  rw [hpn] at lt1 ⊢
  have hb1 := HLIT.out w1 b1
  have hs1 := b1.size
  have k1 : Keeps (fun _ => False) w1 (w1.alloc (.cells (leB gc cs.length gcap ab ts.length acap (.slice ta0 pn tc0)) 53)) := (Keeps.refl _ _).alloc _
  have HA : Hid (OA w (w1.alloc (.cells (leB gc cs.length gcap ab ts.length acap (.slice ta0 pn tc0)) 53)) C ca cc ta tc tvf cs ts gc gcap (.slice ta0 pn tc0) ab acap ps v79 w1.heap.size) := by
    rw [sz0] at hs1
    refine ⟨hb1.1.later (k1.below (by omega) (fun _ _ e => e)), (k1.block _ (by omega) (fun e => e)).trans hb1.2.1, lt1.keeps k1 (fun _ _ e => e), heap_alloc_last _ _ _ rfl, hb1.2.2.trans (k1.below (by omega) (fun _ _ e => e))⟩
  clear lt1 b1 HLEE hb1 hs1 k1 HLIT sz0 b0 hpn
  have HLG : Hid (∀ W, OA w W C ca cc ta tc tvf cs ts gc gcap (.slice ta0 pn tc0) ab acap ps v79 w1.heap.size → (∃ tv, LitG W W.heap.size (some ⟨gc, 0, none⟩) gcap (some ⟨ab, 0, none⟩) acap tv cs ts) ∧ C ≤ W.heap.size) := fun W hW => ⟨hW.lt.lit (by omega) (by omega) (fun i hi => by have := HCI.out i hi; omega), by have := hW.be.size; omega⟩
  obtain ⟨x0, x1, -⟩ := HA.out.xcells
  go_wp2_with fail
  generalize w1.alloc (.cells (leB gc cs.length gcap ab ts.length acap (.slice ta0 pn tc0)) 53) = W1 at *
  generalize w1.heap.size = bx at *
  clear x0 x1
  obtain ⟨⟨tv1, g1⟩, -⟩ := HLG.out W1 HA.out
  refine (HP'.out W1 W1.heap.size _ gcap _ acap tv1 g1 (Nat.le_refl _)).mono ?_
  rintro e w2 ⟨v2, ys, rfl, q2⟩
  clear g1
  have HA2 : Hid (OA w w2 C ca cc ta tc tvf cs ts gc gcap (.slice ta0 pn tc0) ab acap ps v79 bx ∧ OuQ W1 w2 v2 ys Z) := ⟨HA.out.still hC q2.k, q2⟩
  have hs2 := q2.k.size
  clear q2
  obtain ⟨x0, x1, -⟩ := HA2.out.1.xcells
  go_wp2_with fail
  clear x0 x1
  obtain ⟨⟨tv2, g2⟩, -⟩ := HLG.out w2 HA2.out.1
  refine (HP'.out w2 w2.heap.size _ gcap _ acap tv2 g2 (Nat.le_refl _)).mono ?_
  rintro e w3 ⟨v3, ys2, rfl, q3⟩
  clear g2
  have HA3 : Hid (OA w w3 C ca cc ta tc tvf cs ts gc gcap (.slice ta0 pn tc0) ab acap ps v79 bx ∧ OuQ w2 w3 v3 ys2 Z) := ⟨HA2.out.1.still hC q3.k, q3⟩
  have hs3 := q3.k.size
  clear q3
  obtain ⟨x0, x1⟩ := HA3.out.1.lcells
  go_wp2_with fail
  clear x0 x1
  refine (HQ'.out w3 C ca cc ta tc tvf HA3.out.1.lit (HLG.out w3 HA3.out.1).2).mono ?_
  rintro e w4 ⟨v4, zs, rfl, q4⟩
  have HA4 : Hid (OA w w4 C ca cc ta tc tvf cs ts gc gcap (.slice ta0 pn tc0) ab acap ps v79 bx ∧ OuR w3 w4 v4 zs Z) := ⟨HA3.out.1.still hC q4.k, q4⟩
  clear q4
  obtain ⟨n, hn⟩ : ∃ n, Z.length = n := ⟨_, rfl⟩
  have ly : ys.length = n := by rw [← hn, ← HA2.out.2.z, List.length_map]
  have ly2 : ys2.length = n := by rw [← hn, ← HA3.out.2.z, List.length_map]
  have lz : zs.length = n := by rw [← hn, ← HA4.out.2.z, List.length_map]
  have hn5 : n ≤ 6103515625 := by rw [← ly]; exact HA2.out.2.l
  obtain ⟨ya, yc, hv2⟩ := HA2.out.2.r.form
  obtain ⟨ua, uc, hv3⟩ := HA3.out.2.r.form
  obtain ⟨za, zc, hv4⟩ := HA4.out.2.r.form
  rw [ly] at hv2
  rw [ly2] at hv3
  rw [lz] at hv4
  subst hv2 hv3 hv4
  have HL : Hid (ys.length = n ∧ ys2.length = n ∧ zs.length = n ∧ W1.heap.size ≤ w2.heap.size ∧ w2.heap.size ≤ w3.heap.size) := ⟨ly, ly2, lz, hs2, hs3⟩
  clear hn ly ly2 lz hs2 hs3
  have HW : Hid (∀ W, Keeps (fun _ => False) w4 W → OA w W C ca cc ta tc tvf cs ts gc gcap (.slice ta0 pn tc0) ab acap ps v79 bx ∧ OwG ouC 51 2 W W1.heap.size (.slice ya n yc) ys ∧ (∀ y ∈ ys, OuW W W1.heap.size y) ∧ OwG ouC 51 2 W w2.heap.size (.slice ua n uc) ys2 ∧ (∀ y ∈ ys2, OuW W w2.heap.size y) ∧ OwG ouC 51 2 W w3.heap.size (.slice za n zc) zs ∧ (∀ y ∈ zs, OuW W w3.heap.size y)) := fun W k => by
    have k4 := HA4.out.2.k.trans k
    have k3 := HA3.out.2.k.trans k4
    exact ⟨HA4.out.1.still hC k, owK HA2.out.2.r k3 (fun _ _ e => e), fun y hy => (HA2.out.2.o y hy).keeps k3 (fun _ _ _ _ e => e), owK HA3.out.2.r k4 (fun _ _ e => e), fun y hy => (HA3.out.2.o y hy).keeps k4 (fun _ _ _ _ e => e), owK HA4.out.2.r k (fun _ _ e => e), fun y hy => (HA4.out.2.o y hy).keeps k (fun _ _ _ _ e => e)⟩
  have h4 := (HW.out w4 (Keeps.refl _ _)).1
  obtain ⟨x0, x1, x2, x3, x4⟩ := h4.xcells
  obtain ⟨q0, q1⟩ := h4.lcells
  go_wp2_with fail
  clear x0 x1 x2 x3 x4 q0 q1
  refine (kept_any w4 C (HLG.out w4 h4).2 (w.heap.size + 4) ca cc ta tc tvf cs ts h4.lit _ _ gc gcap _ ab acap ps v79 h4.lt rfl rfl (by omega) (by omega) (fun i hi => by have := HCI.out i hi; omega)).mono ?_
  clear h4
  rintro e w5 ⟨rfl, k5⟩
  have H5 : Hid (Keeps (fun _ => False) w4 w5) := k5
  clear k5
  go_wp2_with fail
  go_loopw [10] (fun d wr => ∃ i : Nat, d = .int .i64 i ∧ i ≤ n ∧ Keeps (fun _ => False) w4 wr) (fun d _ => n - (intOf d).toNat)
  case atStart => exact ⟨0, rfl, Nat.zero_le _, H5.out⟩
  case round =>
    clear H5
    obtain ⟨i, rfl, hi, hk⟩ := hrel
    have HK : Hid (Keeps (fun _ => False) w4 wr) := hk
    clear hk
    have i0 : (0 : Int) ≤ (i : Int) := Int.natCast_nonneg _
    by_cases h5 : i < n
    · have i1 : (i : Int) < (n : Int) := by omega
      obtain ⟨y, hy⟩ : ∃ y, ys[i]? = some y := ⟨_, List.getElem?_eq_getElem (by rw [HL.out.1]; exact h5)⟩
      obtain ⟨u, hu⟩ : ∃ u, ys2[i]? = some u := ⟨_, List.getElem?_eq_getElem (by rw [HL.out.2.1]; exact h5)⟩
      obtain ⟨z, hz⟩ : ∃ z, zs[i]? = some z := ⟨_, List.getElem?_eq_getElem (by rw [HL.out.2.2.1]; exact h5)⟩
      obtain ⟨ex, ey⟩ := map_at HA2.out.2.z HA4.out.2.z hy hz
      obtain ⟨ux, uy⟩ := map_at HA3.out.2.z HA4.out.2.z hu hz
      obtain ⟨X, hX⟩ : ∃ X, z.X = X := ⟨_, rfl⟩
      obtain ⟨Y, hY⟩ : ∃ Y, z.Y = Y := ⟨_, rfl⟩
      rw [hX] at ex ux
      rw [hY] at ey uy
      obtain ⟨yb, yk, e1, -, -⟩ := owG_some (HW.out w4 (Keeps.refl _ _)).2.1 (by intro e; rw [e] at hy; cases hy)
      obtain ⟨ub, uk, e2, -, -⟩ := owG_some (HW.out w4 (Keeps.refl _ _)).2.2.2.1 (by intro e; rw [e] at hu; cases hu)
      obtain ⟨zb, zk, e3, -, -⟩ := owG_some (HW.out w4 (Keeps.refl _ _)).2.2.2.2.2.1 (by intro e; rw [e] at hz; cases hz)
      injection e1 with e1 e1b e1c
      injection e2 with e2 e2b e2c
      injection e3 with e3 e3b e3c
      clear e1b e1c e2b e2c e3b e3c
      subst e1 e2 e3
      obtain ⟨s1, hs1⟩ : ∃ s1, X.length = s1 := ⟨_, rfl⟩
      obtain ⟨s2, hs2⟩ : ∃ s2, Y.length = s2 := ⟨_, rfl⟩
      have HV : Hid (∀ W, Keeps (fun _ => False) w4 W → (W.cell? ⟨yb, i * 2, none⟩ = some (.slice y.a1 s1 y.c1) ∧ W.cell? ⟨yb, i * 2 + 1, none⟩ = some (.slice y.a2 s2 y.c2) ∧ W.cell? ⟨ub, i * 2, none⟩ = some (.slice u.a1 s1 u.c1) ∧ W.cell? ⟨ub, i * 2 + 1, none⟩ = some (.slice u.a2 s2 u.c2) ∧ W.cell? ⟨zb, i * 2, none⟩ = some (.slice z.a1 s1 z.c1) ∧ W.cell? ⟨zb, i * 2 + 1, none⟩ = some (.slice z.a2 s2 z.c2)) ∧ Calls Tryz.prog 23 #[.agg #[.slice y.a1 s1 y.c1, .slice y.a2 s2 y.c2], .agg #[.slice z.a1 s1 z.c1, .slice z.a2 s2 z.c2]] W (fun e w' => e = .returned (.bool true) ∧ Keeps (fun _ => False) W w') ∧ Calls Tryz.prog 23 #[.agg #[.slice u.a1 s1 u.c1, .slice u.a2 s2 u.c2], .agg #[.slice z.a1 s1 z.c1, .slice z.a2 s2 z.c2]] W (fun e w' => e = .returned (.bool true) ∧ Keeps (fun _ => False) W w')) := fun W k => by
        obtain ⟨_, o1, p1, o2, p2, o3, p3⟩ := HW.out W k
        obtain ⟨c1, c2, _⟩ := ou_at o1 hy
        obtain ⟨c3, c4, _⟩ := ou_at o2 hu
        obtain ⟨c5, c6, _⟩ := ou_at o3 hz
        have P1 := p1 y (List.mem_of_getElem? hy)
        have P2 := p2 u (List.mem_of_getElem? hu)
        have P3 := p3 z (List.mem_of_getElem? hz)
        obtain ⟨f1, f2, f3, f4⟩ := P1
        obtain ⟨j1, j2, _, _⟩ := P2
        obtain ⟨m1, m2, _, _⟩ := P3
        rw [ex, hs1] at c1 f3
        rw [ey, hs2] at c2 f4
        rw [ux, hs1] at c3
        rw [uy, hs2] at c4
        rw [hX, hs1] at c5
        rw [hY, hs2] at c6
        rw [ex] at f1
        rw [ey] at f2
        rw [ux] at j1
        rw [uy] at j2
        rw [hX] at m1
        rw [hY] at m2
        have r1 := sameO W W.heap.size (Nat.le_refl _) y.a1 y.c1 z.a1 z.c1 X y.a2 y.c2 z.a2 z.c2 Y f1.in m1.in (by rw [hs1]; omega) f2.in m2.in (by rw [hs2]; omega)
        have r2 := sameO W W.heap.size (Nat.le_refl _) u.a1 u.c1 z.a1 z.c1 X u.a2 u.c2 z.a2 z.c2 Y j1.in m1.in (by rw [hs1]; omega) j2.in m2.in (by rw [hs2]; omega)
        rw [hs1, hs2] at r1 r2
        exact ⟨⟨c1, c2, c3, c4, c5, c6⟩, r1, r2⟩
      clear hy hu hz ex ey ux uy hX hY hs1 hs2
      have sx := (HV.out wr.drew HK.out.drew).1
      go_wp2_with fail
      (refine wp_region_held_drew (S := (fun Z' => Z'.cell? ⟨yb, i * 2, none⟩ = some (.slice y.a1 s1 y.c1) ∧ Z'.cell? ⟨yb, i * 2 + 1, none⟩ = some (.slice y.a2 s2 y.c2) ∧ Z'.cell? ⟨ub, i * 2, none⟩ = some (.slice u.a1 s1 u.c1) ∧ Z'.cell? ⟨ub, i * 2 + 1, none⟩ = some (.slice u.a2 s2 u.c2) ∧ Z'.cell? ⟨zb, i * 2, none⟩ = some (.slice z.a1 s1 z.c1) ∧ Z'.cell? ⟨zb, i * 2 + 1, none⟩ = some (.slice z.a2 s2 z.c2))) (by kernel_rfl) sx (fun hHeld => ?_); simp only [List.size_toArray, List.length_cons, List.length_nil, Nat.reduceAdd, Array.replicate_succ, Array.replicate_zero, List.push_toArray, List.append_toArray, List.nil_append, List.cons_append])
      clear sx
      refine rgT 0 (h := ?_)
      refine rgT 1 (h := ?_)
      refine rgT 2 (h := ?_)
      refine rgT 3 (h := ?_)
      refine rgT 4 (h := ?_)
      refine rgT 5 (h := ?_)
      refine rgT 6 (h := ?_)
      refine rgT 7 (h := ?_)
      (refine rgS 8 (h := fun K hK => ?_); go_simp)
      refine (HV.out wr.drew HK.out.drew).2.1.mono ?_
      rintro e w6 ⟨rfl, k6⟩
      have HK6 : Hid (Keeps (fun _ => False) w4 w6) := HK.out.drew.trans k6
      clear k6
      (refine hK.out _ _ (HV.out w6 HK6.out).1 (fun hHeld => ?_); clear hK K; try simp only [Act.put, List.setIfInBounds_toArray, List.set_cons_zero, List.set_cons_succ])
      refine rgT 9 (h := ?_)
      refine rgT 10 (h := ?_)
      refine rgT 11 (h := ?_)
      refine rgT 12 (h := ?_)
      refine rgT 13 (h := ?_)
      refine rgT 14 (h := ?_)
      refine rgT 15 (h := ?_)
      refine rgT 16 (h := ?_)
      refine rgT 17 (h := ?_)
      refine rgT 18 (h := ?_)
      (refine rgS 19 (h := fun K hK => ?_); go_simp)
      refine (HV.out w6 HK6.out).2.2.mono ?_
      rintro e w7 ⟨rfl, k7⟩
      have HK7 : Hid (Keeps (fun _ => False) w4 w7) := HK6.out.trans k7
      clear k7
      (refine hK.out _ _ (HV.out w7 HK7.out).1 (fun hHeld => ?_); clear hK K; try simp only [Act.put, List.setIfInBounds_toArray, List.set_cons_zero, List.set_cons_succ])
      refine rgT 20 (h := ?_)
      refine rgT 21 (h := ?_)
      refine wpAnyH_done (by kernel_rfl) ?_ _
      clear hHeld
      clear hHeld
      clear hHeld
      go_wp2
      go_roundw
      case rel => exact ⟨i + 1, by go_num, by omega, HK7.out⟩
      case measure => simp [intOf]; omega
    · have hin : n = i := by omega
      subst hin
      have hF := HW.out wr HK.out
      have hz1 : W1.heap.size ≤ wr.heap.size := by have := HL.out.2.2.2; have := HK.out.size; have := HA4.out.2.k.size; omega
      have HF : Hid (OwG ouC 51 2 wr W1.heap.size (.slice ya n yc) ys ∧ InG ouC wr wr.heap.size (.slice ua n uc) ys2) := ⟨hF.2.1, hF.2.2.2.1.in⟩
      have HB : Hid (Below w.heap.size w wr ∧ w.heap.size ≤ W1.heap.size) := ⟨hF.1.be, HA.out.be.size⟩
      clear hF
      go_wp2_with (at_builtin; refine hideG ?_)
      change wpList _ _ _ _ _ _
      refine app_more (cs := ouC) (by rfl) _ _ 63 51 (by rfl) Tryz.underlying63 infoOu rfl (by decide) (fun _ => rfl) W1.heap.size _ ys HF.out.1 (by rfl) wr.heap.size _ ys2 (by rfl) HF.out.2 (fun y _ => ouC_one y) (by rw [HL.out.1, HL.out.2.1]; unfold maxLen; omega) (by rw [HL.out.1, HL.out.2.1]; omega) hz1 ?_
      intro v8 w8 ho8 hb8 hk8
      obtain ⟨va, vc, hv8⟩ := ho8.form
      have hl8 : (ys ++ ys2).length = 2 * n := by rw [List.length_append, HL.out.1, HL.out.2.1]; omega
      rw [hl8] at hv8
      subst hv8
      have hap := apart_many w8 va vc (2 * n) (ys ++ ys2) hl8 (ho8.down (Nat.zero_le _)) (fun y hy => by
        have hW := HW.out wr HK.out
        have old : OuW wr 0 y → OuW w8 0 y := fun h => ⟨h.o1.kept hk8 (by decide), h.o2.kept hk8 (by decide), h.l1, h.l2⟩
        rcases List.mem_append.1 hy with e | e
        · exact old ((hW.2.2.1 y e).down (Nat.zero_le _))
        · exact old ((hW.2.2.2.2.1 y e).down (Nat.zero_le _))) (by
        rw [List.pairwise_append]
        refine ⟨HA2.out.2.q, HA3.out.2.q, fun a ha b hb x hx hx' => ?_⟩
        have e1 := ((HA2.out.2.o a ha).ob hx).2
        have e2 := ((HA3.out.2.o b hb).ob hx').1
        omega) (fun y hy => by
        rcases List.mem_append.1 hy with e | e
        · exact HA2.out.2.n y e
        · exact HA3.out.2.n y e) (by omega)
      have HAP : Hid (∀ _ : Unit, _) := fun _ => hap
      have HB8 : Hid (Below W1.heap.size wr w8) := hb8
      have HD8 : Hid (∀ x, (∃ y ∈ ys ++ ys2, obO y x) → W1.heap.size ≤ x) := fun x ⟨y, hy, hx⟩ => by
        rcases List.mem_append.1 hy with e | e
        · exact ((HA2.out.2.o y e).ob hx).1
        · have := ((HA3.out.2.o y e).ob hx).1
          have := HL.out.2.2.2.1
          omega
      clear hap ho8 hb8 hk8 hz1 hl8
      go_wp2_with fail
      refine (HAP.out ()).mono ?_
      rintro e w9 ⟨rfl, k9⟩
      have HF9 : Hid (Below w.heap.size w w9) := by
        have h8 : Below w.heap.size w w8 := HB.out.1.trans (HB8.out.mono HB.out.2)
        exact h8.trans (k9.below h8.size (fun x hx e => by have := HD8.out x e; have := HB.out.2; omega))
      clear k9 HAP
      go_wp2
      go_ret
      exact ⟨rfl, HF9.out⟩
end Go.Proofs.YtdpebhdjcgiboaaGreat
