import Derived.Test.YtdpebhdjcgiboaaGreatJSqF
namespace Go.Proofs.YtdpebhdjcgiboaaGreat
open Go.ChangeShapes Go.WideShapes Go.ChangeAt Go.RowKit Go.MuLone Go.RwLone
set_option linter.unusedVariables false
set_option maxRecDepth 100000
set_option maxHeartbeats 6400000
theorem mkR2 {w1 w4 : World} {B : Nat} {cv tvv : Value} {cs : List Int} {ts : List (List I8)} {qs : List Tn} (p : Pn w1 B cv tvv cs qs) (hB : B ≤ w1.heap.size) (k : Below w1.heap.size w1 w4) (hbk : w4.heap[w1.heap.size]? = some (.cells #[cv, tvv] 85)) (hts : qs.map (fun q => q.2.2) = ts) (hsd : soundP cs ts = true) :
    ∃ R : Rd, R.bk = w1.heap.size ∧ R.n = ts.length ∧ R.wd = cs.length ∧ R.ins = insL ts ∧ RdOk R ∧ RP R w4 (begA cs ts).2 ∧ R.wd ≤ R.cc ∧ ∀ y, fR R y → B ≤ y ∧ y ≤ w1.heap.size := by
  obtain ⟨hc4, hn4, hall⟩ := sound_facts hsd
  have hql : qs.length = ts.length := by rw [← hts]; simp
  have p4 := p.later k
  obtain ⟨cb, cc, hcv, hcb1, hcb2⟩ := owG_some p.oc (by intro e; rw [e] at hc4; simp at hc4)
  obtain ⟨tb, tc, htv, htb1, htb2⟩ := owG_some p.ot (by intro e; rw [e] at hql; simp at hql; omega)
  subst hcv htv
  have hq : ∀ i (hi : i < ts.length), ∃ a c, qs[i].1 = .slice a (insL ts i).length c ∧ (qs[i]'(by omega)).2.2 = insL ts i := fun i hi => by
    have e : (qs[i]'(by omega)).2.2 = insL ts i := by
      have h1 : (qs.map (fun q => q.2.2))[i]? = some (qs[i]'(by omega)).2.2 := by
        rw [List.getElem?_map, List.getElem?_eq_getElem (show i < qs.length from by omega)]
        rfl
      rw [hts] at h1
      unfold insL
      rw [h1]
      rfl
    obtain ⟨a, c, e2⟩ := (p.oi qs[i] (List.getElem_mem (by omega))).form
    rw [e] at e2
    exact ⟨a, c, e2, e⟩
  obtain ⟨ccur, hct⟩ := blk p4.oc rfl
  obtain ⟨tcur, htt⟩ := blk p4.ot rfl
  let R : Rd := { bk := w1.heap.size, tb := tb, cb := cb, rb := fun i => ((qs[i]?).map (fun q => q.2.1)).getD 0, rk := fun _ => 0, ia := fun i => ((qs[i]?).map (fun q => iaV q.1)).getD none, icap := fun i => ((qs[i]?).map (fun q => icV q.1)).getD 0, wd := cs.length, n := ts.length, cc := cc, tc := tc, ins := insL ts }
  have rbE : ∀ i (hi : i < ts.length), R.rb i = (qs[i]'(by omega)).2.1 := fun i hi => by simp [R, show i < qs.length from by omega]
  have rbP : ∀ i (hi : i < ts.length), w1.heap[R.rb i]? = some (.cells zr4 55) ∧ w4.heap[R.rb i]? = some (.cells zr4 55) ∧ B ≤ R.rb i ∧ cb < R.rb i := fun i hi => by
    rw [rbE i hi]
    have h1 := p.rr qs[i] (List.getElem_mem (by omega))
    exact ⟨h1.1, (p4.rr qs[i] (List.getElem_mem (by omega))).1, h1.2.1, h1.2.2 cb rfl⟩
  have iaP : ∀ i (hi : i < ts.length), OwG iC 106 8 w4 B (.slice (R.ia i) (insL ts i).length (R.icap i)) (insL ts i) ∧ OwG iC 106 8 w1 B (.slice (R.ia i) (insL ts i).length (R.icap i)) (insL ts i) ∧ (qs[i]'(by omega)).1 = .slice (R.ia i) (insL ts i).length (R.icap i) := fun i hi => by
    obtain ⟨a, c, e1, e2⟩ := hq i hi
    have ea : R.ia i = a := by simp [R, show i < qs.length from by omega, e1, iaV]
    have ec : R.icap i = c := by simp [R, show i < qs.length from by omega, e1, icV]
    have h1 := p4.oi qs[i] (List.getElem_mem (by omega))
    have h2 := p.oi qs[i] (List.getElem_mem (by omega))
    rw [e1, e2] at h1 h2
    rw [ea, ec]
    exact ⟨h1, h2, e1⟩
  have fw : ∀ y, fRw R y → (∃ c t, w4.heap[y]? = some (.cells c t) ∧ (t = 169 ∨ t = 55)) ∧ B ≤ y ∧ y < w1.heap.size := fun y hy => by
    rcases hy with rfl | rfl | ⟨j, hj, rfl⟩
    · exact ⟨⟨_, _, htt, .inl rfl⟩, htb1, htb2⟩
    · exact ⟨⟨_, _, hct, .inr rfl⟩, hcb1, hcb2⟩
    · have := rbP j hj
      exact ⟨⟨_, _, this.2.1, .inr rfl⟩, this.2.2.1, (Array.getElem?_eq_some_iff.1 this.1).1⟩
  have ibP : ∀ j ib, j < ts.length → R.ia j = some ⟨ib, 0, none⟩ → (∃ c, w4.heap[ib]? = some (.cells c 106)) ∧ B ≤ ib ∧ ib < w1.heap.size := fun j ib hj e => by
    have h1 := iaP j hj
    rw [e] at h1
    obtain ⟨cur, hcur⟩ := blk h1.1 rfl
    have := World.ownsRow.lt h1.2.1 ib rfl
    exact ⟨⟨cur, hcur⟩, this⟩
  have fA : ∀ y, fR R y → B ≤ y ∧ y ≤ w1.heap.size := fun y hy => by
    rcases hy with hy | rfl | ⟨j, hj, e⟩
    · have := fw y hy; omega
    · exact ⟨hB, Nat.le_refl _⟩
    · have := ibP j y hj e; omega
  refine ⟨R, rfl, rfl, rfl, rfl, ⟨?_, ?_, fun j hj => ⟨?_, ?_⟩, fun i j hi hj hne => ?_, fun j ib hj e hf => ?_, fun i hi x hx => ?_, fun i hi => ?_, by show ts.length ≤ 4; omega⟩, ⟨?_, ?_, fun i hi => ?_, fun i hi => ?_, fun i hi => ?_, fun i j hi hj => ?_, fun c hc => ?_, fun i hi => ?_, fun g j hg => ?_, fun y hy => ?_⟩, (owG_cap p.oc).2.1, fA⟩
  · intro hf
    have := (fw _ hf).2.2
    exact Nat.lt_irrefl _ this
  · exact neT htt hct (by decide)
  · exact neT (rbP j hj).2.1 htt (by decide)
  · have := (rbP j hj).2.2.2
    intro e
    have e' : R.rb j = cb := e
    omega
  · rw [rbE i hi, rbE j hj]
    have hp := List.pairwise_iff_getElem.1 p.inc
    rcases Nat.lt_or_gt_of_ne hne with h | h
    · have := hp i j (by rw [hql]; exact hi) (by rw [hql]; exact hj) h
      omega
    · have := hp j i (by rw [hql]; exact hj) (by rw [hql]; exact hi) h
      omega
  · obtain ⟨⟨c, hc⟩, _⟩ := ibP j ib hj e
    obtain ⟨⟨c', t, hc', ht⟩, _⟩ := fw ib hf
    rw [hc] at hc'
    injection hc' with hc'
    injection hc' with _ e2 _
    rcases ht with e3 | e3
    · exact absurd (e2.trans e3) (by decide)
    · exact absurd (e2.trans e3) (by decide)
  · have hi' : i < ts.length := hi
    have : insL ts i = ts[i] := by simp [insL, hi']
    have hx' : x ∈ insL ts i := hx
    rw [this] at hx'
    exact (hall i hi').2 x hx'
  · have hi' : i < ts.length := hi
    have : insL ts i = ts[i] := by simp [insL, hi']
    show (insL ts i).length ≤ 1000
    rw [this]
    have := (hall i hi').1
    omega
  · exact (cell?_heap hbk 0).trans rfl
  · show w4.cell? ⟨w1.heap.size, 1, none⟩ = some (.slice (some ⟨tb, 0, none⟩) ts.length tc)
    rw [← hql]
    exact (cell?_heap hbk 1).trans rfl
  · have hi' : i < qs.length := by rw [hql]; exact hi
    have := World.ownsRow.cellAt p4.ot (i * 3 + 0) (by omega)
    rw [flat_get tdC 3 (fun _ => rfl) qs i hi' 0 (by decide)] at this
    rw [Nat.add_zero] at this
    show w4.cell? ⟨tb, i * 3, none⟩ = _
    rw [this]
    show some qs[i].1 = _
    rw [(iaP i hi).2.2]
  · have hi' : i < qs.length := by rw [hql]; exact hi
    have := World.ownsRow.cellAt p4.ot (i * 3 + 1) (by omega)
    rw [flat_get tdC 3 (fun _ => rfl) qs i hi' 1 (by decide)] at this
    show w4.cell? ⟨tb, i * 3 + 1, none⟩ = _
    rw [this, rbE i hi]
    rfl
  · have hi' : i < qs.length := by rw [hql]; exact hi
    have := World.ownsRow.cellAt p4.ot (i * 3 + 2) (by omega)
    rw [flat_get tdC 3 (fun _ => rfl) qs i hi' 2 (by decide)] at this
    show w4.cell? ⟨tb, i * 3 + 2, none⟩ = _
    rw [this]
    rfl
  · show _ = some (Value.int .u64 0)
    rw [cell?_heap (rbP i hi).2.1 j, ← Array.getElem?_toList, toList_madeCells_one]
    have : j = 0 ∨ j = 1 ∨ j = 2 ∨ j = 3 := by omega
    rcases this with rfl | rfl | rfl | rfl <;> rfl
  · have := World.ownsRow.cellAt p4.oc c (by have : c < cs.length := hc; omega)
    show w4.cell? ⟨cb, c, none⟩ = _
    rw [this, flat_wd, List.getElem?_map, List.getElem?_eq_getElem hc]
    show some (Value.int .u64 cs[c]) = some (Value.int .u64 (wds cs c))
    unfold wds
    rw [List.getElem?_eq_getElem hc]
    rfl
  · intro m hm
    have h1 := (iaP i hi).1
    have hne : insL ts i ≠ [] := by
      intro e
      have hm' : m < (insL ts i).length := hm
      rw [e] at hm'
      simp at hm'
    obtain ⟨ib, cp, e, _, hl⟩ := owG_some h1 hne
    injection e with e _ _
    rw [e] at h1
    refine ⟨ib, e, In8.of (x := (insL ts i)[m]) (k := m) (fun j hj => ?_) hl⟩
    rw [World.ownsRow.cellAt h1 (m * 8 + j) (by have : m < (insL ts i).length := hm; omega), flat_get iC 8 (fun _ => rfl) (insL ts i) m hm j hj]
  · obtain ⟨⟨c, t, hc, _⟩, _⟩ := fw g hg
    exact frozen?_heap hc j
  · have := fA y hy
    have := (Array.getElem?_eq_some_iff.1 hbk).1
    omega
/-- What the document's Outcomes answers. -/
structure ROuts (cs : List Int) (tl : List (List I8)) (w w' : World) (v : Value) (ys : List OuD) : Prop where
  r : OwG ouC 51 2 w' w.heap.size v ys
  o : ∀ y ∈ ys, OuW w' w.heap.size y
  s : ys.Pairwise ltU
  g : ∀ y ∈ ys, Good cs tl y
  b : ∀ u, EndS cs tl u → ∃ y ∈ ys, OutOf cs tl u y.X y.Y
  k : Below w.heap.size w w'
theorem routs_any (w : World) (C : Nat) (ca : Option Addr) (cc : Nat) (ta : Option Addr) (tc : Nat) (tvf : Nat → Value) (cs : List Int) (tl : List (List I8)) (h : LitG w C ca cc ta tc tvf cs tl) (hC : C ≤ w.heap.size) (hsd : soundP cs tl = true) :
    Calls Tryz.prog 28 #[.agg (litC ca cs.length cc ta tl.length tc)] w fun e w' => ∃ v ys, e = .returned (.tuple #[v, .int .i64 0]) ∧ ROuts cs tl w w' v ys := by
  obtain ⟨hc4, hn4, hall⟩ := sound_facts hsd
  have k0 : Keeps (fun _ => False) w (lgW w (litC ca cs.length cc ta tl.length tc)) := (Keeps.refl _ _).alloc _
  have e0 : (lgW w (litC ca cs.length cc ta tl.length tc)).heap[w.heap.size]? = some (.cells (litC ca cs.length cc ta tl.length tc) 49) := heap_alloc_last _ _ _ rfl
  have HL : Hid (∀ W, Keeps (fun _ => False) (lgW w (litC ca cs.length cc ta tl.length tc)) W → LitG W C ca cc ta tc tvf cs tl ∧ W.cell? ⟨w.heap.size, 0, none⟩ = some (.slice ca cs.length cc) ∧ W.cell? ⟨w.heap.size, 1, none⟩ = some (.slice ta tl.length tc) ∧ Keeps (fun _ => False) w W) := fun W k => by
    have e1 := (k.block _ (Array.getElem?_eq_some_iff.1 e0).1 (fun e => e)).trans e0
    exact ⟨h.later ((k0.trans k).below hC (fun _ _ e => e)), (cell?_heap e1 0).trans rfl, (cell?_heap e1 1).trans rfl, k0.trans k⟩
  have HSO := rSound_any (lgW w (litC ca cs.length cc ta tl.length tc)) C ca cc ta tc tvf cs tl (HL.out _ (Keeps.refl _ _)).1 (Nat.le_trans hC k0.size)
  rw [hsd] at HSO
  have HSS : Hid (∀ _ : Unit, _) := fun _ => HSO
  have HSD : Hid (soundP cs tl = true ∧ ∀ i (hi : i < tl.length), tl[i].length ≤ 10) := ⟨hsd, fun i hi => (hall i hi).1⟩
  clear h HSO hall e0 k0
  go_enter Tryz.func28, Tryz.ntmps28
  go_wp2_with fail
  refine (HSS.out ()).mono ?_
  rintro e w1 ⟨rfl, k1⟩
  generalize lgW w (litC ca cs.length cc ta tl.length tc) = w0 at *
  obtain ⟨g1, q0, q1, kw1⟩ := HL.out w1 k1
  have hnp := rnewp_any w1 C ca cc ta tc tvf cs tl g1 (Nat.le_trans hC kw1.size) (by omega) (by omega) (fun i hi => by have := HSD.out.2 i hi; omega)
  have HNP : Hid (∀ _ : Unit, _) := fun _ => hnp
  have HK1 : Hid (Keeps (fun _ => False) w w1) := kw1
  clear HSS k1 g1 kw1 hnp
  go_wp2_with fail
  refine (HNP.out ()).mono ?_
  rintro e w2 ⟨cv, tvv, qs, rfl, pn, hqs, b2⟩
  obtain ⟨pa, pc, hcv⟩ := pn.oc.form
  obtain ⟨xa, xc, htv⟩ := pn.ot.form
  have hql : qs.length = tl.length := by rw [← hqs, List.length_map]
  rw [hql] at htv
  subst hcv htv
  obtain ⟨pg, hpg⟩ : ∃ g, (Value.slice pa cs.length pc).ownBlock = some g := by
    obtain ⟨g, cap, e, _, _⟩ := owG_some pn.oc (by intro e; rw [e] at hc4; simp at hc4)
    injection e with e
    exact ⟨g, by rw [e]; rfl⟩
  have hp3 : (w2.alloc (.cells #[.slice pa cs.length pc, .slice xa tl.length xc] 85)).heap[w2.heap.size]? = some (.cells #[.slice pa cs.length pc, .slice xa tl.length xc] 85) := heap_alloc_last _ _ _ rfl
  obtain ⟨R, e1, e2, e3, e4, ok, rp, ecc, hfr⟩ := mkR2 pn (by have := (World.ownsRow.lt pn.oc pg hpg); omega) ((Below.refl _ _).alloc (Nat.le_refl _) _) hp3 hqs HSD.out.1
  have bw3 : Below w.heap.size w (w2.alloc (.cells #[.slice pa cs.length pc, .slice xa tl.length xc] 85)) := ((HK1.out.below (Nat.le_refl _) (fun _ _ e => e)).trans (b2.mono HK1.out.size)).alloc (by have := HK1.out.size; have := b2.size; omega) _
  have hal := all_any hsd 14 (w2.alloc (.cells #[.slice pa cs.length pc, .slice xa tl.length xc] 85)) R (begA cs tl).2 (.slice none 0 0) [] w.heap.size ⟨ok, rp, e2, e3, e4, ecc, beg_can cs tl, ⟨[], rfl⟩, fun ws u hw => word_ten hsd hw, bw3.size, OwG.nil _ _ _ _ _, (fun x hx => by cases hx), List.Pairwise.nil, (fun x hx => by cases hx), fun y _ e => by cases e⟩
  have c0 := rp.p0
  have c1 := rp.p1
  rw [e1, cell?_heap hp3 0] at c0
  rw [e1, cell?_heap hp3 1] at c1
  have c0 : Value.slice pa cs.length pc = .slice (some ⟨R.cb, 0, none⟩) R.wd R.cc := by injection c0
  have c1 : Value.slice xa tl.length xc = .slice (some ⟨R.tb, 0, none⟩) R.n R.tc := by injection c1
  rw [← c0, ← c1] at hal
  have HAL : Hid (∀ _ : Unit, _) := fun _ => hal
  have HB3 : Hid (Below w.heap.size w (w2.alloc (.cells #[.slice pa cs.length pc, .slice xa tl.length xc] 85))) := bw3
  clear pn hqs b2 hql hpg hp3 ok rp ecc hfr hal c0 c1 bw3 e1 e2 e3 e4 HNP
  go_wp2_with fail
  refine (HAL.out ()).mono ?_
  rintro e w5 ⟨v, ys, rfl, a5⟩
  have HF : Hid (ROuts cs tl w w5 v ys) := ⟨a5.r, a5.o, a5.s, a5.g, fun u hu => by
    obtain ⟨⟨ws, hw⟩, hd⟩ := hu
    exact a5.b ws u hw hd, HB3.out.trans (a5.k.below HB3.out.size (fun y hy e => by cases e))⟩
  clear a5 HAL
  go_wp2
  go_ret2
  exact ⟨_, ys, rfl, HF.out⟩
end Go.Proofs.YtdpebhdjcgiboaaGreat

namespace Go.Proofs.YtdpebhdjcgiboaaGreat
set_option linter.unusedSimpArgs false
open Go.ChangeShapes Go.WideShapes Go.ChangeAt Go.RowKit Go.MuLone Go.RwLone
set_option linter.unusedVariables false
set_option maxRecDepth 100000
set_option maxHeartbeats 6400000
/-- The document's Has. -/
def HasP (cs : List Int) (tl : List (List I8)) (X Y : List Int) : Prop := ∃ u, EndS cs tl u ∧ OutOf cs tl u X Y
end Go.Proofs.YtdpebhdjcgiboaaGreat

namespace Go.Proofs.YtdpebhdjcgiboaaGreat
open Go.ChangeShapes Go.WideShapes Go.ChangeAt Go.RowKit Go.MuLone Go.RwLone
set_option linter.unusedVariables false
set_option maxRecDepth 100000
set_option maxHeartbeats 6400000
/-- A program that is none: nothing is explored. -/
theorem explore_no (w : World) (C : Nat) (ca : Option Addr) (cc : Nat) (ta : Option Addr) (tc : Nat) (tvf : Nat → Value) (cs : List Int) (tl : List (List I8)) (h : LitG w C ca cc ta tc tvf cs tl) (hC : C ≤ w.heap.size) (hsd : soundP cs tl = false) :
    Calls Tryz.prog 44 #[.agg (litC ca cs.length cc ta tl.length tc)] w fun e w' => e = .returned (.tuple #[.pointer none, .int .i64 35]) ∧ Keeps (fun _ => False) w w' := by
  have k0 : Keeps (fun _ => False) w (w.alloc (.cells (litC ca cs.length cc ta tl.length tc) 49)) := (Keeps.refl _ _).alloc _
  have HL := lay_no (w.alloc (.cells (litC ca cs.length cc ta tl.length tc) 49)) C ca cc ta tc tvf cs tl (h.later (k0.below hC (fun _ _ e => e))) (by rw [szAl]; omega) hsd
  have HLL : Hid (∀ _ : Unit, _) := fun _ => HL
  have HK0 : Hid (Keeps (fun _ => False) w (w.alloc (.cells (litC ca cs.length cc ta tl.length tc) 49))) := k0
  clear h HL k0 hsd
  go_enter Tryz.func44, Tryz.ntmps44
  go_wp2_with fail
  refine (HLL.out ()).mono ?_
  rintro e w2 ⟨rfl, k2⟩
  have HK2 : Hid (Keeps (fun _ => False) w w2) := HK0.out.trans k2
  clear k2 HLL
  go_wp2
  go_ret2
  exact ⟨rfl, HK2.out⟩
theorem outcomes_no (w : World) (C : Nat) (ca : Option Addr) (cc : Nat) (ta : Option Addr) (tc : Nat) (tvf : Nat → Value) (cs : List Int) (tl : List (List I8)) (h : LitG w C ca cc ta tc tvf cs tl) (hC : C ≤ w.heap.size) (hsd : soundP cs tl = false) :
    Calls Tryz.prog 27 #[.agg (litC ca cs.length cc ta tl.length tc)] w fun e w' => e = .returned (.tuple #[.slice none 0 0, .int .i64 35]) ∧ Keeps (fun _ => False) w w' := by
  have k0 : Keeps (fun _ => False) w (w.alloc (.cells (litC ca cs.length cc ta tl.length tc) 49)) := (Keeps.refl _ _).alloc _
  have HL := explore_no (w.alloc (.cells (litC ca cs.length cc ta tl.length tc) 49)) C ca cc ta tc tvf cs tl (h.later (k0.below hC (fun _ _ e => e))) (by rw [szAl]; omega) hsd
  have HLL : Hid (∀ _ : Unit, _) := fun _ => HL
  have HK0 : Hid (Keeps (fun _ => False) w (w.alloc (.cells (litC ca cs.length cc ta tl.length tc) 49))) := k0
  clear h HL k0 hsd
  go_enter Tryz.func27, Tryz.ntmps27
  go_wp2_with fail
  refine (HLL.out ()).mono ?_
  rintro e w2 ⟨rfl, k2⟩
  have HK2 : Hid (Keeps (fun _ => False) w w2) := HK0.out.trans k2
  clear k2 HLL
  go_wp2
  go_ret2
  exact ⟨rfl, HK2.out⟩
end Go.Proofs.YtdpebhdjcgiboaaGreat

namespace Go.Proofs.YtdpebhdjcgiboaaGreat
open Go.ChangeShapes Go.WideShapes Go.ChangeAt Go.RowKit Go.MuLone Go.RwLone
set_option linter.unusedVariables false
set_option maxRecDepth 100000
set_option maxHeartbeats 6400000
/-- Two rising lists of the same things are the same. -/
theorem rising_same {α : Type} {lt : α → α → Prop} (ir : ∀ x, ¬ lt x x) (tr : ∀ x y z, lt x y → lt y z → lt x z) : ∀ (xs ys : List α), xs.Pairwise lt → ys.Pairwise lt → (∀ p, p ∈ xs ↔ p ∈ ys) → xs = ys
  | [], [], _, _, _ => rfl
  | [], y :: ys, _, _, h => by have := (h y).2 (List.mem_cons_self ..); cases this
  | x :: xs, [], _, _, h => by have := (h x).1 (List.mem_cons_self ..); cases this
  | x :: xs, y :: ys, hx, hy, h => by
    rw [List.pairwise_cons] at hx hy
    have e : x = y := by
      rcases List.mem_cons.1 ((h x).1 (List.mem_cons_self ..)) with e | e
      · exact e
      · rcases List.mem_cons.1 ((h y).2 (List.mem_cons_self ..)) with e2 | e2
        · exact e2.symm
        · exact absurd (tr _ _ _ (hy.1 x e) (hx.1 y e2)) (ir y)
    subst e
    congr 1
    refine rising_same ir tr xs ys hx.2 hy.2 (fun p => ⟨fun hp => ?_, fun hp => ?_⟩)
    · rcases List.mem_cons.1 ((h p).1 (List.mem_cons_of_mem _ hp)) with e | e
      · exact absurd (e ▸ hx.1 p hp) (ir x)
      · exact e
    · rcases List.mem_cons.1 ((h p).2 (List.mem_cons_of_mem _ hp)) with e | e
      · exact absurd (e ▸ hy.1 p hp) (ir x)
      · exact e
abbrev outP (x : OuD) : List Int × List Int := (x.X, x.Y)
def ltO (p q : List Int × List Int) : Prop := cmO p.1 p.2 q.1 q.2 < 0
theorem ltO_ir (p : List Int × List Int) : ¬ ltO p p := by
  unfold ltO
  have : cmO p.1 p.2 p.1 p.2 = 0 := cmO_ord.r p
  omega
theorem ltO_tr (p q r : List Int × List Int) (h : ltO p q) (k : ltO q r) : ltO p r := ltU_trans (a := ⟨none, 0, none, 0, p.1, p.2⟩) (b := ⟨none, 0, none, 0, q.1, q.2⟩) (c := ⟨none, 0, none, 0, r.1, r.2⟩) h k
theorem routs_no (w : World) (C : Nat) (ca : Option Addr) (cc : Nat) (ta : Option Addr) (tc : Nat) (tvf : Nat → Value) (cs : List Int) (tl : List (List I8)) (h : LitG w C ca cc ta tc tvf cs tl) (hC : C ≤ w.heap.size) (hsd : soundP cs tl = false) :
    Calls Tryz.prog 28 #[.agg (litC ca cs.length cc ta tl.length tc)] w fun e w' => e = .returned (.tuple #[.slice none 0 0, .int .i64 35]) ∧ Keeps (fun _ => False) w w' := by
  have k0 : Keeps (fun _ => False) w (lgW w (litC ca cs.length cc ta tl.length tc)) := (Keeps.refl _ _).alloc _
  have HSO := rSound_any (lgW w (litC ca cs.length cc ta tl.length tc)) C ca cc ta tc tvf cs tl (h.later (k0.below hC (fun _ _ e => e))) (Nat.le_trans hC k0.size)
  rw [hsd] at HSO
  have HSS : Hid (∀ _ : Unit, _) := fun _ => HSO
  have HK0 : Hid (Keeps (fun _ => False) w (lgW w (litC ca cs.length cc ta tl.length tc))) := k0
  clear h HSO k0 hsd
  go_enter Tryz.func28, Tryz.ntmps28
  go_wp2_with fail
  refine (HSS.out ()).mono ?_
  rintro e w1 ⟨rfl, k1⟩
  have HK1 : Hid (Keeps (fun _ => False) w w1) := HK0.out.trans k1
  clear k1 HSS
  go_wp2
  go_ret2
  exact ⟨rfl, HK1.out⟩
end Go.Proofs.YtdpebhdjcgiboaaGreat
