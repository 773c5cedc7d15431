import Derived.Test.YtdpebhdjcgiboaaGreatKSqF
namespace Go.Proofs.YtdpebhdjcgiboaaGreat
open Go.ChangeShapes Go.WideShapes Go.ChangeAt Go.RowKit Go.MuLone Go.RwLone
set_option linter.unusedVariables false
set_option maxRecDepth 100000
set_option maxHeartbeats 6400000
theorem mkR2 {w1 w4 : World} {B : Nat} {cv tvv : Value} {cs : List Int} {ts : List (List I8)} {qs : List Tn} (p : Pn w1 B cv tvv cs qs) (hB : B ≤ w1.heap.size) (k : Below w1.heap.size w1 w4) (hbk : w4.heap[w1.heap.size]? = some (.cells #[cv, tvv] 85)) (hts : qs.map (fun q => q.2.2) = ts) (hsd : soundP cs ts = true) :
    ∃ R : Rd, R.bk = w1.heap.size ∧ R.n = ts.length ∧ R.wd = cs.length ∧ R.ins = insL ts ∧ RdOk R ∧ RP R w4 (begA cs ts).2 ∧ R.wd ≤ R.cc ∧ ∀ y, fR R y → B ≤ y ∧ y ≤ w1.heap.size := by
  obtain ⟨hc4, hn4, hall⟩ := sound_facts hsd
  have hql : qs.length = ts.length := by rw [← hts]; simp
  have p4 := p.later k
  obtain ⟨cb, cc, hcv, hcb1, hcb2⟩ := owG_some p.oc (by intro e; rw [e] at hc4; simp at hc4)
  obtain ⟨tb, tc, htv, htb1, htb2⟩ := owG_some p.ot (by intro e; rw [e] at hql; simp at hql; omega)
  subst hcv htv
  have hq : ∀ i (hi : i < ts.length), ∃ a c, qs[i].1 = .slice a (insL ts i).length c ∧ (qs[i]'(by omega)).2.2 = insL ts i := fun i hi => by
    have e : (qs[i]'(by omega)).2.2 = insL ts i := by
      have h1 : (qs.map (fun q => q.2.2))[i]? = some (qs[i]'(by omega)).2.2 := by
        rw [List.getElem?_map, List.getElem?_eq_getElem (show i < qs.length from by omega)]
        rfl
      rw [hts] at h1
      unfold insL
      rw [h1]
      rfl
    obtain ⟨a, c, e2⟩ := (p.oi qs[i] (List.getElem_mem (by omega))).form
    rw [e] at e2
    exact ⟨a, c, e2, e⟩
  obtain ⟨ccur, hct⟩ := blk p4.oc rfl
  obtain ⟨tcur, htt⟩ := blk p4.ot rfl
  let R : Rd := { bk := w1.heap.size, tb := tb, cb := cb, rb := fun i => ((qs[i]?).map (fun q => q.2.1)).getD 0, rk := fun _ => 0, ia := fun i => ((qs[i]?).map (fun q => iaV q.1)).getD none, icap := fun i => ((qs[i]?).map (fun q => icV q.1)).getD 0, wd := cs.length, n := ts.length, cc := cc, tc := tc, ins := insL ts }
  have rbE : ∀ i (hi : i < ts.length), R.rb i = (qs[i]'(by omega)).2.1 := fun i hi => by simp [R, show i < qs.length from by omega]
  have rbP : ∀ i (hi : i < ts.length), w1.heap[R.rb i]? = some (.cells zr4 55) ∧ w4.heap[R.rb i]? = some (.cells zr4 55) ∧ B ≤ R.rb i ∧ cb < R.rb i := fun i hi => by
    rw [rbE i hi]
    have h1 := p.rr qs[i] (List.getElem_mem (by omega))
    exact ⟨h1.1, (p4.rr qs[i] (List.getElem_mem (by omega))).1, h1.2.1, h1.2.2 cb rfl⟩
  have iaP : ∀ i (hi : i < ts.length), OwG iC 106 8 w4 B (.slice (R.ia i) (insL ts i).length (R.icap i)) (insL ts i) ∧ OwG iC 106 8 w1 B (.slice (R.ia i) (insL ts i).length (R.icap i)) (insL ts i) ∧ (qs[i]'(by omega)).1 = .slice (R.ia i) (insL ts i).length (R.icap i) := fun i hi => by
    obtain ⟨a, c, e1, e2⟩ := hq i hi
    have ea : R.ia i = a := by simp [R, show i < qs.length from by omega, e1, iaV]
    have ec : R.icap i = c := by simp [R, show i < qs.length from by omega, e1, icV]
    have h1 := p4.oi qs[i] (List.getElem_mem (by omega))
    have h2 := p.oi qs[i] (List.getElem_mem (by omega))
    rw [e1, e2] at h1 h2
    rw [ea, ec]
    exact ⟨h1, h2, e1⟩
  have fw : ∀ y, fRw R y → (∃ c t, w4.heap[y]? = some (.cells c t) ∧ (t = 169 ∨ t = 55)) ∧ B ≤ y ∧ y < w1.heap.size := fun y hy => by
    rcases hy with rfl | rfl | ⟨j, hj, rfl⟩
    · exact ⟨⟨_, _, htt, .inl rfl⟩, htb1, htb2⟩
    · exact ⟨⟨_, _, hct, .inr rfl⟩, hcb1, hcb2⟩
    · have := rbP j hj
      exact ⟨⟨_, _, this.2.1, .inr rfl⟩, this.2.2.1, (Array.getElem?_eq_some_iff.1 this.1).1⟩
  have ibP : ∀ j ib, j < ts.length → R.ia j = some ⟨ib, 0, none⟩ → (∃ c, w4.heap[ib]? = some (.cells c 106)) ∧ B ≤ ib ∧ ib < w1.heap.size := fun j ib hj e => by
    have h1 := iaP j hj
    rw [e] at h1
    obtain ⟨cur, hcur⟩ := blk h1.1 rfl
    have := World.ownsRow.lt h1.2.1 ib rfl
    exact ⟨⟨cur, hcur⟩, this⟩
  have fA : ∀ y, fR R y → B ≤ y ∧ y ≤ w1.heap.size := fun y hy => by
    rcases hy with hy | rfl | ⟨j, hj, e⟩
    · have := fw y hy; omega
    · exact ⟨hB, Nat.le_refl _⟩
    · have := ibP j y hj e; omega
  refine ⟨R, rfl, rfl, rfl, rfl, ⟨?_, ?_, fun j hj => ⟨?_, ?_⟩, fun i j hi hj hne => ?_, fun j ib hj e hf => ?_, fun i hi x hx => ?_, fun i hi => ?_, by show ts.length ≤ 4; omega⟩, ⟨?_, ?_, fun i hi => ?_, fun i hi => ?_, fun i hi => ?_, fun i j hi hj => ?_, fun c hc => ?_, fun i hi => ?_, fun g j hg => ?_, fun y hy => ?_⟩, (owG_cap p.oc).2.1, fA⟩
  · intro hf
    have := (fw _ hf).2.2
    exact Nat.lt_irrefl _ this
  · exact neT htt hct (by decide)
  · exact neT (rbP j hj).2.1 htt (by decide)
  · have := (rbP j hj).2.2.2
    intro e
    have e' : R.rb j = cb := e
    omega
  · rw [rbE i hi, rbE j hj]
    have hp := List.pairwise_iff_getElem.1 p.inc
    rcases Nat.lt_or_gt_of_ne hne with h | h
    · have := hp i j (by rw [hql]; exact hi) (by rw [hql]; exact hj) h
      omega
    · have := hp j i (by rw [hql]; exact hj) (by rw [hql]; exact hi) h
      omega
  · obtain ⟨⟨c, hc⟩, _⟩ := ibP j ib hj e
    obtain ⟨⟨c', t, hc', ht⟩, _⟩ := fw ib hf
    rw [hc] at hc'
    injection hc' with hc'
    injection hc' with _ e2 _
    rcases ht with e3 | e3
    · exact absurd (e2.trans e3) (by decide)
    · exact absurd (e2.trans e3) (by decide)
  · have hi' : i < ts.length := hi
    have : insL ts i = ts[i] := by simp [insL, hi']
    have hx' : x ∈ insL ts i := hx
    rw [this] at hx'
    exact (hall i hi').2 x hx'
  · have hi' : i < ts.length := hi
    have : insL ts i = ts[i] := by simp [insL, hi']
    show (insL ts i).length ≤ 1000
    rw [this]
    have := (hall i hi').1
    omega
  · exact (cell?_heap hbk 0).trans rfl
  · show w4.cell? ⟨w1.heap.size, 1, none⟩ = some (.slice (some ⟨tb, 0, none⟩) ts.length tc)
    rw [← hql]
    exact (cell?_heap hbk 1).trans rfl
  · have hi' : i < qs.length := by rw [hql]; exact hi
    have := World.ownsRow.cellAt p4.ot (i * 3 + 0) (by omega)
    rw [flat_get tdC 3 (fun _ => rfl) qs i hi' 0 (by decide)] at this
    rw [Nat.add_zero] at this
    show w4.cell? ⟨tb, i * 3, none⟩ = _
    rw [this]
    show some qs[i].1 = _
    rw [(iaP i hi).2.2]
  · have hi' : i < qs.length := by rw [hql]; exact hi
    have := World.ownsRow.cellAt p4.ot (i * 3 + 1) (by omega)
    rw [flat_get tdC 3 (fun _ => rfl) qs i hi' 1 (by decide)] at this
    show w4.cell? ⟨tb, i * 3 + 1, none⟩ = _
    rw [this, rbE i hi]
    rfl
  · have hi' : i < qs.length := by rw [hql]; exact hi
    have := World.ownsRow.cellAt p4.ot (i * 3 + 2) (by omega)
    rw [flat_get tdC 3 (fun _ => rfl) qs i hi' 2 (by decide)] at this
    show w4.cell? ⟨tb, i * 3 + 2, none⟩ = _
    rw [this]
    rfl
  · show _ = some (Value.int .u64 0)
    rw [cell?_heap (rbP i hi).2.1 j, ← Array.getElem?_toList, toList_madeCells_one]
    have : j = 0 ∨ j = 1 ∨ j = 2 ∨ j = 3 := by omega
    rcases this with rfl | rfl | rfl | rfl <;> rfl
  · have := World.ownsRow.cellAt p4.oc c (by have : c < cs.length := hc; omega)
    show w4.cell? ⟨cb, c, none⟩ = _
    rw [this, flat_wd, List.getElem?_map, List.getElem?_eq_getElem hc]
    show some (Value.int .u64 cs[c]) = some (Value.int .u64 (wds cs c))
    unfold wds
    rw [List.getElem?_eq_getElem hc]
    rfl
  · intro m hm
    have h1 := (iaP i hi).1
    have hne : insL ts i ≠ [] := by
      intro e
      have hm' : m < (insL ts i).length := hm
      rw [e] at hm'
      simp at hm'
    obtain ⟨ib, cp, e, _, hl⟩ := owG_some h1 hne
    injection e with e _ _
    rw [e] at h1
    refine ⟨ib, e, In8.of (x := (insL ts i)[m]) (k := m) (fun j hj => ?_) hl⟩
    rw [World.ownsRow.cellAt h1 (m * 8 + j) (by have : m < (insL ts i).length := hm; omega), flat_get iC 8 (fun _ => rfl) (insL ts i) m hm j hj]
  · obtain ⟨⟨c, t, hc, _⟩, _⟩ := fw g hg
    exact frozen?_heap hc j
  · have := fA y hy
    have := (Array.getElem?_eq_some_iff.1 hbk).1
    omega
/-- What the document's Outcomes answers. -/
structure ROuts (cs : List Int) (tl : List (List I8)) (w w' : World) (v : Value) (ys : List OuD) : Prop where
  r : OwG ouC 51 2 w' w.heap.size v ys
  o : ∀ y ∈ ys, OuW w' w.heap.size y
  s : ys.Pairwise ltU
  g : ∀ y ∈ ys, Good cs tl y
  b : ∀ u, EndS cs tl u → ∃ y ∈ ys, OutOf cs tl u y.X y.Y
  k : Below w.heap.size w w'
theorem routs_any (w : World) (C : Nat) (ca : Option Addr) (cc : Nat) (ta : Option Addr) (tc : Nat) (tvf : Nat → Value) (cs : List Int) (tl : List (List I8)) (h : LitG w C ca cc ta tc tvf cs tl) (hC : C ≤ w.heap.size) (hsd : soundP cs tl = true) :
    Calls Tryz.prog 28 #[.agg (litC ca cs.length cc ta tl.length tc)] w fun e w' => ∃ v ys, e = .returned (.tuple #[v, .int .i64 0]) ∧ ROuts cs tl w w' v ys := by
  obtain ⟨hc4, hn4, hall⟩ := sound_facts hsd
  have k0 : Keeps (fun _ => False) w (lgW w (litC ca cs.length cc ta tl.length tc)) := (Keeps.refl _ _).alloc _
  have e0 : (lgW w (litC ca cs.length cc ta tl.length tc)).heap[w.heap.size]? = some (.cells (litC ca cs.length cc ta tl.length tc) 49) := heap_alloc_last _ _ _ rfl
  have HL : Hid (∀ W, Keeps (fun _ => False) (lgW w (litC ca cs.length cc ta tl.length tc)) W → LitG W C ca cc ta tc tvf cs tl ∧ W.cell? ⟨w.heap.size, 0, none⟩ = some (.slice ca cs.length cc) ∧ W.cell? ⟨w.heap.size, 1, none⟩ = some (.slice ta tl.length tc) ∧ Keeps (fun _ => False) w W) := fun W k => by
    have e1 := (k.block _ (Array.getElem?_eq_some_iff.1 e0).1 (fun e => e)).trans e0
    exact ⟨h.later ((k0.trans k).below hC (fun _ _ e => e)), (cell?_heap e1 0).trans rfl, (cell?_heap e1 1).trans rfl, k0.trans k⟩
  have HSO := rSound_any (lgW w (litC ca cs.length cc ta tl.length tc)) C ca cc ta tc tvf cs tl (HL.out _ (Keeps.refl _ _)).1 (Nat.le_trans hC k0.size)
  rw [hsd] at HSO
  have HSS : Hid (∀ _ : Unit, _) := fun _ => HSO
  have HSD : Hid (soundP cs tl = true ∧ ∀ i (hi : i < tl.length), tl[i].length ≤ 10) := ⟨hsd, fun i hi => (hall i hi).1⟩
  clear h HSO hall e0 k0
  go_enter Tryz.func28, Tryz.ntmps28
  go_wp2_with fail
  refine (HSS.out ()).mono ?_
  rintro e w1 ⟨rfl, k1⟩
  generalize lgW w (litC ca cs.length cc ta tl.length tc) = w0 at *
  obtain ⟨g1, q0, q1, kw1⟩ := HL.out w1 k1
  have hnp := rnewp_any w1 C ca cc ta tc tvf cs tl g1 (Nat.le_trans hC kw1.size) (by omega) (by omega) (fun i hi => by have := HSD.out.2 i hi; omega)
  have HNP : Hid (∀ _ : Unit, _) := fun _ => hnp
  have HK1 : Hid (Keeps (fun _ => False) w w1) := kw1
  clear HSS k1 g1 kw1 hnp
  go_wp2_with fail
  refine (HNP.out ()).mono ?_
  rintro e w2 ⟨cv, tvv, qs, rfl, pn, hqs, b2⟩
  obtain ⟨pa, pc, hcv⟩ := pn.oc.form
  obtain ⟨xa, xc, htv⟩ := pn.ot.form
  have hql : qs.length = tl.length := by rw [← hqs, List.length_map]
  rw [hql] at htv
  subst hcv htv
  obtain ⟨pg, hpg⟩ : ∃ g, (Value.slice pa cs.length pc).ownBlock = some g := by
    obtain ⟨g, cap, e, _, _⟩ := owG_some pn.oc (by intro e; rw [e] at hc4; simp at hc4)
    injection e with e
    exact ⟨g, by rw [e]; rfl⟩
  have hp3 : (w2.alloc (.cells #[.slice pa cs.length pc, .slice xa tl.length xc] 85)).heap[w2.heap.size]? = some (.cells #[.slice pa cs.length pc, .slice xa tl.length xc] 85) := heap_alloc_last _ _ _ rfl
  obtain ⟨R, e1, e2, e3, e4, ok, rp, ecc, hfr⟩ := mkR2 pn (by have := (World.ownsRow.lt pn.oc pg hpg); omega) ((Below.refl _ _).alloc (Nat.le_refl _) _) hp3 hqs HSD.out.1
  have bw3 : Below w.heap.size w (w2.alloc (.cells #[.slice pa cs.length pc, .slice xa tl.length xc] 85)) := ((HK1.out.below (Nat.le_refl _) (fun _ _ e => e)).trans (b2.mono HK1.out.size)).alloc (by have := HK1.out.size; have := b2.size; omega) _
  have hal := all_any hsd 14 (w2.alloc (.cells #[.slice pa cs.length pc, .slice xa tl.length xc] 85)) R (begA cs tl).2 (.slice none 0 0) [] w.heap.size ⟨ok, rp, e2, e3, e4, ecc, beg_can cs tl, ⟨[], rfl⟩, fun ws u hw => word_ten hsd hw, bw3.size, OwG.nil _ _ _ _ _, (fun x hx => by cases hx), List.Pairwise.nil, (fun x hx => by cases hx), fun y _ e => by cases e⟩
  have c0 := rp.p0
  have c1 := rp.p1
  rw [e1, cell?_heap hp3 0] at c0
  rw [e1, cell?_heap hp3 1] at c1
  have c0 : Value.slice pa cs.length pc = .slice (some ⟨R.cb, 0, none⟩) R.wd R.cc := by injection c0
  have c1 : Value.slice xa tl.length xc = .slice (some ⟨R.tb, 0, none⟩) R.n R.tc := by injection c1
  rw [← c0, ← c1] at hal
  have HAL : Hid (∀ _ : Unit, _) := fun _ => hal
  have HB3 : Hid (Below w.heap.size w (w2.alloc (.cells #[.slice pa cs.length pc, .slice xa tl.length xc] 85))) := bw3
  clear pn hqs b2 hql hpg hp3 ok rp ecc hfr hal c0 c1 bw3 e1 e2 e3 e4 HNP
  go_wp2_with fail
  refine (HAL.out ()).mono ?_
  rintro e w5 ⟨v, ys, rfl, a5⟩
  have HF : Hid (ROuts cs tl w w5 v ys) := ⟨a5.r, a5.o, a5.s, a5.g, fun u hu => by
    obtain ⟨⟨ws, hw⟩, hd⟩ := hu
    exact a5.b ws u hw hd, HB3.out.trans (a5.k.below HB3.out.size (fun y hy e => by cases e))⟩
  clear a5 HAL
  go_wp2
  go_ret2
  exact ⟨_, ys, rfl, HF.out⟩
end Go.Proofs.YtdpebhdjcgiboaaGreat

namespace Go.Proofs.YtdpebhdjcgiboaaGreat
set_option linter.unusedSimpArgs false
open Go.ChangeShapes Go.WideShapes Go.ChangeAt Go.RowKit Go.MuLone Go.RwLone
set_option linter.unusedVariables false
set_option maxRecDepth 100000
set_option maxHeartbeats 6400000
/-- The document's Has. -/
def HasP (cs : List Int) (tl : List (List I8)) (X Y : List Int) : Prop := ∃ u, EndS cs tl u ∧ OutOf cs tl u X Y
theorem rHas_any (w : World) (C : Nat) (ca : Option Addr) (cc : Nat) (ta : Option Addr) (tc : Nat) (tvf : Nat → Value) (cs : List Int) (tl : List (List I8)) (h : LitG w C ca cc ta tc tvf cs tl) (hC : C ≤ w.heap.size) (hsd : soundP cs tl = true) (a1 : Option Addr) (d1 : Nat) (a2 : Option Addr) (d2 : Nat) (X Y : List Int) (h1 : InG wdC w C (.slice a1 X.length d1) X) (h2 : InG wdC w C (.slice a2 Y.length d2) Y) (l1 : X.length ≤ 140737488355328) (l2 : Y.length ≤ 140737488355328) :
    Calls Tryz.prog 25 #[.agg (litC ca cs.length cc ta tl.length tc), .agg #[.slice a1 X.length d1, .slice a2 Y.length d2]] w fun e w' => ∃ b, e = .returned (.bool b) ∧ (b = true ↔ HasP cs tl X Y) ∧ Below w.heap.size w w' := by
  obtain ⟨hc4, hn4, -⟩ := sound_facts hsd
  obtain ⟨xn, hxn⟩ : ∃ xn, X.length = xn := ⟨_, rfl⟩
  obtain ⟨yn, hyn⟩ : ∃ yn, Y.length = yn := ⟨_, rfl⟩
  have HXY : Hid (X.length = xn ∧ Y.length = yn ∧ X.length ≤ 140737488355328 ∧ Y.length ≤ 140737488355328) := ⟨hxn, hyn, l1, l2⟩
  rw [hxn, hyn]
  have k0 : Keeps (fun _ => False) w ((w.alloc (.cells (litC ca cs.length cc ta tl.length tc) 49)).alloc (.cells #[.slice a1 xn d1, .slice a2 yn d2] 51)) := ((Keeps.refl _ _).alloc _).alloc _
  have hz0 : ((w.alloc (.cells (litC ca cs.length cc ta tl.length tc) 49)).alloc (.cells #[.slice a1 xn d1, .slice a2 yn d2] 51)).heap.size = w.heap.size + 2 := by rw [szAl, szAl]
  have e0 : ((w.alloc (.cells (litC ca cs.length cc ta tl.length tc) 49)).alloc (.cells #[.slice a1 xn d1, .slice a2 yn d2] 51)).heap[w.heap.size + 1]? = some (.cells #[.slice a1 xn d1, .slice a2 yn d2] 51) := heap_alloc_last _ _ _ (szAl _ _).symm
  have HL := routs_any ((w.alloc (.cells (litC ca cs.length cc ta tl.length tc) 49)).alloc (.cells #[.slice a1 xn d1, .slice a2 yn d2] 51)) C ca cc ta tc tvf cs tl (h.later (k0.below hC (fun _ _ e => e))) (by omega) hsd
  have HLL : Hid (∀ _ : Unit, _) := fun _ => HL
  have HK0 : Hid (Below w.heap.size w ((w.alloc (.cells (litC ca cs.length cc ta tl.length tc) 49)).alloc (.cells #[.slice a1 xn d1, .slice a2 yn d2] 51)) ∧ ((w.alloc (.cells (litC ca cs.length cc ta tl.length tc) 49)).alloc (.cells #[.slice a1 xn d1, .slice a2 yn d2] 51)).heap.size = w.heap.size + 2 ∧ ((w.alloc (.cells (litC ca cs.length cc ta tl.length tc) 49)).alloc (.cells #[.slice a1 xn d1, .slice a2 yn d2] 51)).heap[w.heap.size + 1]? = some (.cells #[.slice a1 xn d1, .slice a2 yn d2] 51)) := ⟨k0.below (Nat.le_refl _) (fun _ _ e => e), hz0, e0⟩
  have HIN : Hid (InG wdC w C (.slice a1 X.length d1) X ∧ InG wdC w C (.slice a2 Y.length d2) Y) := ⟨h1, h2⟩
  have HSD : Hid (soundP cs tl = true) := hsd
  clear h HL k0 hsd hz0 e0 h1 h2 hxn hyn l1 l2
  go_enter Tryz.func25, Tryz.ntmps25
  go_wp2_with fail
  refine (HLL.out ()).mono ?_
  rintro e w1 ⟨v, ys, rfl, hro⟩
  clear HLL
  generalize (w.alloc (.cells (litC ca cs.length cc ta tl.length tc) 49)).alloc (.cells #[.slice a1 xn d1, .slice a2 yn d2] 51) = w0 at *
  have hyne : ys ≠ [] := by
    obtain ⟨y, hy, _⟩ := hro.b _ (end_some HSD.out [])
    exact List.ne_nil_of_mem hy
  obtain ⟨g, cap, hvv, -, -⟩ := owG_some hro.r hyne
  obtain ⟨n, hn⟩ : ∃ n, ys.length = n := ⟨_, rfl⟩
  rw [hn] at hvv
  subst hvv
  have hnl : n ≤ 6103515625 := by rw [← hn]; exact good_len HSD.out hro.s hro.g
  have HR : Hid (ROuts cs tl w0 w1 (.slice (some ⟨g, 0, none⟩) n cap) ys ∧ ys.length = n) := ⟨hro, hn⟩
  have HC : Hid (∀ W, Keeps (fun _ => False) w1 W → (W.cell? ⟨w.heap.size + 1, 0, none⟩ = some (.slice a1 xn d1) ∧ W.cell? ⟨w.heap.size + 1, 1, none⟩ = some (.slice a2 yn d2)) ∧ Below w.heap.size w W ∧ InG wdC W W.heap.size (.slice a1 X.length d1) X ∧ InG wdC W W.heap.size (.slice a2 Y.length d2) Y) := fun W k => by
    have b1 : Below w0.heap.size w0 W := hro.k.trans (k.below hro.k.size (fun _ _ e => e))
    have e1 := (b1.block (w.heap.size + 1) (by have := HK0.out.2.1; omega)).trans HK0.out.2.2
    have b2 : Below w.heap.size w W := HK0.out.1.trans (b1.mono (by have := HK0.out.2.1; omega))
    exact ⟨⟨(cell?_heap e1 0).trans rfl, (cell?_heap e1 1).trans rfl⟩, b2, inG_up (HIN.out.1.later (b2.mono hC)) (by have := b2.size; omega), inG_up (HIN.out.2.later (b2.mono hC)) (by have := b2.size; omega)⟩
  clear hro hyne hn
  go_wp2_with fail
  go_loopw [7] (fun c wr => ∃ t : Nat, c = .int .i64 (t : Int) ∧ t ≤ n ∧ Keeps (fun _ => False) w1 wr ∧ ∀ (j : Nat) (y : OuD), j < t → ys[j]? = some y → ¬ (y.X = X ∧ y.Y = Y)) (fun c _ => n - (intOf c).toNat)
  case atStart => exact ⟨0, rfl, Nat.zero_le _, Keeps.refl _ _, fun j y hj => by omega⟩
  case round =>
    rename World => wr
    obtain ⟨t, rfl, ht, hk, hno⟩ := hrel
    have HK : Hid (Keeps (fun _ => False) w1 wr ∧ ∀ (j : Nat) (y : OuD), j < t → ys[j]? = some y → ¬ (y.X = X ∧ y.Y = Y)) := ⟨hk, hno⟩
    have t0 : (0 : Int) ≤ (t : Int) := Int.natCast_nonneg _
    by_cases h5 : t < n
    · have t1 : (t : Int) < (n : Int) := by omega
      obtain ⟨y, hy⟩ : ∃ y, ys[t]? = some y := ⟨_, List.getElem?_eq_getElem (by rw [HR.out.2]; exact h5)⟩
      obtain ⟨s1, hs1⟩ : ∃ s1, y.X.length = s1 := ⟨_, rfl⟩
      obtain ⟨s2, hs2⟩ : ∃ s2, y.Y.length = s2 := ⟨_, rfl⟩
      have HY : Hid (ys[t]? = some y ∧ y.X.length = s1 ∧ y.Y.length = s2) := ⟨hy, hs1, hs2⟩
      have HS : Hid (∀ W, Keeps (fun _ => False) w1 W → W.cell? ⟨g, t * 2, none⟩ = some (.slice y.a1 s1 y.c1) ∧ W.cell? ⟨g, t * 2 + 1, none⟩ = some (.slice y.a2 s2 y.c2) ∧ W.cell? ⟨w.heap.size + 1, 0, none⟩ = some (.slice a1 xn d1) ∧ W.cell? ⟨w.heap.size + 1, 1, none⟩ = some (.slice a2 yn d2)) := fun W k => by
        obtain ⟨c0, c1, -⟩ := ou_at (owK HR.out.1.r k (fun _ _ e => e)) HY.out.1
        rw [HY.out.2.1] at c0
        rw [HY.out.2.2] at c1
        exact ⟨c0, c1, (HC.out W k).1⟩
      have hyo := (HR.out.1.o y (List.mem_of_getElem? hy)).keeps hk.drew (fun _ _ _ _ e => e)
      obtain ⟨_, _, i1, i2⟩ := HC.out wr.drew hk.drew
      have hcp := rCompare_any wr.drew wr.drew.heap.size (Nat.le_refl _) y.a1 y.a2 a1 a2 y.c1 y.c2 d1 d2 y.X y.Y X Y hyo.o1.in hyo.o2.in i1 i2 (by have := hyo.l1; omega) (by have := hyo.l2; omega) HXY.out.2.2.1 HXY.out.2.2.2
      obtain ⟨z, hz⟩ : ∃ z, rcO y.X y.Y X Y = z := ⟨_, rfl⟩
      rw [hs1, hs2, HXY.out.1, HXY.out.2.1, hz] at hcp
      have HCP : Hid (∀ _ : Unit, _) := fun _ => hcp
      have HZ : Hid (z = 0 ↔ (y.X = X ∧ y.Y = Y)) := by
        show _ ↔ _
        rw [← hz, (rcO_sign y.X y.Y X Y).2]
        constructor
        · intro e
          have := cmO_ord.e (y.X, y.Y) (X, Y) e
          injection this with e1 e2
          exact ⟨e1, e2⟩
        · rintro ⟨e1, e2⟩
          rw [e1, e2]
          exact cmO_ord.r (X, Y)
      have sx := HS.out wr.drew hk.drew
      clear hk hno hy hs1 hs2 hyo i1 i2 hcp hz
      go_wp2_with fail
      (refine wp_region_held_drew (S := (fun X' => X'.cell? ⟨g, t * 2, none⟩ = some (.slice y.a1 s1 y.c1) ∧ X'.cell? ⟨g, t * 2 + 1, none⟩ = some (.slice y.a2 s2 y.c2) ∧ X'.cell? ⟨w.heap.size + 1, 0, none⟩ = some (.slice a1 xn d1) ∧ X'.cell? ⟨w.heap.size + 1, 1, none⟩ = some (.slice a2 yn d2))) (by kernel_rfl) sx (fun hHeld => ?_); simp only [List.size_toArray, List.length_cons, List.length_nil, Nat.reduceAdd, Array.replicate_succ, Array.replicate_zero, List.push_toArray, List.append_toArray, List.nil_append, List.cons_append])
      refine rgT 0 (h := ?_)
      refine rgT 1 (h := ?_)
      refine rgT 2 (h := ?_)
      refine rgT 3 (h := ?_)
      refine rgT 4 (h := ?_)
      (refine rgS 5 (h := fun K hK => ?_); go_simp)
      refine (HCP.out ()).mono ?_
      rintro e w2 ⟨rfl, k2⟩
      have HK2 : Hid (Keeps (fun _ => False) w1 w2) := HK.out.1.drew.trans k2
      (refine hK.out _ _ (HS.out w2 HK2.out) (fun hHeld => ?_); clear hK K; try simp only [Act.put, List.setIfInBounds_toArray, List.set_cons_zero, List.set_cons_succ])
      clear sx k2 HCP
      by_cases hz0 : z = 0
      · have heq := HZ.out.1 hz0
        have g1 : s1 = xn := by rw [← HY.out.2.1, ← HXY.out.1, heq.1]
        have g2 : s2 = yn := by rw [← HY.out.2.2, ← HXY.out.2.1, heq.2]
        have HE : Hid (HasP cs tl X Y) := by
          obtain ⟨u, hu, ho⟩ := HR.out.1.g y (List.mem_of_getElem? HY.out.1)
          rw [heq.1, heq.2] at ho
          exact ⟨u, hu, ho⟩
        subst hz0 g1 g2
        clear HZ heq
        refine rgT 6 (h := ?_)
        refine rgT 7 (h := ?_)
        refine rgT 8 (h := ?_)
        refine rgT 9 (h := ?_)
        refine rgT 10 (h := ?_)
        refine rgT 11 (h := ?_)
        refine rgT 12 (h := ?_)
        refine rgT 13 (h := ?_)
        refine rgT 14 (h := ?_)
        refine rgT 15 (h := ?_)
        refine rgT 16 (h := ?_)
        refine rgT 17 (h := ?_)
        refine rgT 18 (h := ?_)
        refine rgT 19 (h := ?_)
        refine rgT 20 (h := ?_)
        refine rgT 21 (h := ?_)
        refine rgT 22 (h := ?_)
        refine rgT 23 (h := ?_)
        refine rgT 24 (h := ?_)
        refine rgT 25 (h := ?_)
        refine rgT 26 (h := ?_)
        refine rgT 27 (h := ?_)
        refine rgT 28 (h := ?_)
        refine rgT 29 (h := ?_)
        refine rgT 30 (h := ?_)
        refine wpAnyH_done (by kernel_rfl) ?_ _
        clear hHeld
        have HB : Hid (Below w.heap.size w w2) := (HC.out w2 HK2.out).2.1
        go_wp2
        go_ret
        exact ⟨_, rfl, ⟨fun _ => HE.out, fun _ => rfl⟩, HB.out⟩
      · have HNO : Hid (¬ (y.X = X ∧ y.Y = Y)) := fun e => hz0 (HZ.out.2 e)
        clear HZ
        have hzb : (z == 0) = false := by simp [hz0]
        refine rgT 6 (h := ?_)
        refine rgT 7 (h := ?_)
        refine rgK 8 (h := ?_)
        refine rgK 9 (h := ?_)
        refine rgK 10 (h := ?_)
        refine rgK 11 (h := ?_)
        refine rgK 12 (h := ?_)
        refine rgK 13 (h := ?_)
        refine rgK 14 (h := ?_)
        refine rgK 15 (h := ?_)
        refine rgK 16 (h := ?_)
        refine rgK 17 (h := ?_)
        refine rgT 18 (h := ?_)
        refine rgT 19 (h := ?_)
        refine rgK 20 (h := ?_)
        refine rgK 21 (h := ?_)
        refine rgK 22 (h := ?_)
        refine rgK 23 (h := ?_)
        refine rgK 24 (h := ?_)
        refine rgK 25 (h := ?_)
        refine rgK 26 (h := ?_)
        refine rgK 27 (h := ?_)
        refine rgK 28 (h := ?_)
        refine rgK 29 (h := ?_)
        refine rgT 30 (h := ?_)
        refine wpAnyH_done (by kernel_rfl) ?_ _
        clear hHeld
        have HN : Hid (∀ (j : Nat) (y' : OuD), j < t + 1 → ys[j]? = some y' → ¬ (y'.X = X ∧ y'.Y = Y)) := fun j y' hj hy' => by
          by_cases e : j < t
          · exact HK.out.2 j y' e hy'
          · obtain rfl : j = t := by omega
            rw [HY.out.1] at hy'
            injection hy' with hy'
            subst hy'
            exact HNO.out
        go_wp2
        go_roundw
        case rel => exact ⟨t + 1, by go_num, by omega, HK2.out, HN.out⟩
        case measure => simp [intOf]; omega
    · obtain rfl : t = n := by omega
      have HF : Hid (¬ HasP cs tl X Y) := fun ⟨u, hu, ho⟩ => by
        obtain ⟨y, hy, ho2⟩ := HR.out.1.b u hu
        obtain ⟨j, hj⟩ := List.getElem?_of_mem hy
        exact hno j y (by rw [← HR.out.2]; exact (List.getElem?_eq_some_iff.1 hj).1) hj ⟨by rw [ho2.1, ho.1], by rw [ho2.2, ho.2]⟩
      have HB : Hid (Below w.heap.size w wr) := (HC.out wr hk).2.1
      clear hk hno
      go_wp2
      go_ret
      exact ⟨_, rfl, ⟨(fun e => by cases e), fun e => absurd e HF.out⟩, HB.out⟩
end Go.Proofs.YtdpebhdjcgiboaaGreat

namespace Go.Proofs.YtdpebhdjcgiboaaGreat
open Go.ChangeShapes Go.WideShapes Go.ChangeAt Go.RowKit Go.MuLone Go.RwLone
set_option linter.unusedVariables false
set_option maxRecDepth 100000
set_option maxHeartbeats 6400000
/-- A program that is none: nothing is explored. -/
theorem explore_no (w : World) (C : Nat) (ca : Option Addr) (cc : Nat) (ta : Option Addr) (tc : Nat) (tvf : Nat → Value) (cs : List Int) (tl : List (List I8)) (h : LitG w C ca cc ta tc tvf cs tl) (hC : C ≤ w.heap.size) (hsd : soundP cs tl = false) :
    Calls Tryz.prog 44 #[.agg (litC ca cs.length cc ta tl.length tc)] w fun e w' => e = .returned (.tuple #[.pointer none, .int .i64 35]) ∧ Keeps (fun _ => False) w w' := by
  have k0 : Keeps (fun _ => False) w (w.alloc (.cells (litC ca cs.length cc ta tl.length tc) 49)) := (Keeps.refl _ _).alloc _
  have HL := lay_no (w.alloc (.cells (litC ca cs.length cc ta tl.length tc) 49)) C ca cc ta tc tvf cs tl (h.later (k0.below hC (fun _ _ e => e))) (by rw [szAl]; omega) hsd
  have HLL : Hid (∀ _ : Unit, _) := fun _ => HL
  have HK0 : Hid (Keeps (fun _ => False) w (w.alloc (.cells (litC ca cs.length cc ta tl.length tc) 49))) := k0
  clear h HL k0 hsd
  go_enter Tryz.func44, Tryz.ntmps44
  go_wp2_with fail
  refine (HLL.out ()).mono ?_
  rintro e w2 ⟨rfl, k2⟩
  have HK2 : Hid (Keeps (fun _ => False) w w2) := HK0.out.trans k2
  clear k2 HLL
  go_wp2
  go_ret2
  exact ⟨rfl, HK2.out⟩
theorem witness_no (w : World) (C : Nat) (ca : Option Addr) (cc : Nat) (ta : Option Addr) (tc : Nat) (tvf : Nat → Value) (cs : List Int) (tl : List (List I8)) (h : LitG w C ca cc ta tc tvf cs tl) (hC : C ≤ w.heap.size) (hsd : soundP cs tl = false) (a1 : Option Addr) (n1 d1 : Nat) (a2 : Option Addr) (n2 d2 : Nat) :
    Calls Tryz.prog 21 #[.agg (litC ca cs.length cc ta tl.length tc), .agg #[.slice a1 n1 d1, .slice a2 n2 d2]] w fun e w' => e = .returned (.tuple #[.string ⟨#[]⟩, .int .i64 35]) ∧ Keeps (fun _ => False) w w' := by
  have k0 : Keeps (fun _ => False) w ((w.alloc (.cells (litC ca cs.length cc ta tl.length tc) 49)).alloc (.cells #[.slice a1 n1 d1, .slice a2 n2 d2] 51)) := ((Keeps.refl _ _).alloc _).alloc _
  have HL := explore_no ((w.alloc (.cells (litC ca cs.length cc ta tl.length tc) 49)).alloc (.cells #[.slice a1 n1 d1, .slice a2 n2 d2] 51)) C ca cc ta tc tvf cs tl (h.later (k0.below hC (fun _ _ e => e))) (by rw [szAl, szAl]; omega) hsd
  have HLL : Hid (∀ _ : Unit, _) := fun _ => HL
  have HK0 : Hid (Keeps (fun _ => False) w ((w.alloc (.cells (litC ca cs.length cc ta tl.length tc) 49)).alloc (.cells #[.slice a1 n1 d1, .slice a2 n2 d2] 51))) := k0
  clear h HL k0 hsd
  go_enter Tryz.func21, Tryz.ntmps21
  go_wp2_with fail
  refine (HLL.out ()).mono ?_
  rintro e w2 ⟨rfl, k2⟩
  have HK2 : Hid (Keeps (fun _ => False) w w2) := HK0.out.trans k2
  clear k2 HLL
  go_wp2
  go_ret2
  exact ⟨rfl, HK2.out⟩
end Go.Proofs.YtdpebhdjcgiboaaGreat

namespace Go.Proofs.YtdpebhdjcgiboaaGreat
open Go.ChangeShapes Go.WideShapes Go.ChangeAt Go.RowKit Go.MuLone Go.RwLone
set_option linter.unusedVariables false
set_option maxRecDepth 100000
set_option maxHeartbeats 6400000
abbrev outP (x : OuD) : List Int × List Int := (x.X, x.Y)
def ltO (p q : List Int × List Int) : Prop := cmO p.1 p.2 q.1 q.2 < 0
end Go.Proofs.YtdpebhdjcgiboaaGreat
