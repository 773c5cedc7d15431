import Derived.Test.YtjceellpmopnkaaDoorMg3
namespace Go.Proofs.YtjceellpmopnkaaDoor
set_option linter.unusedSimpArgs false
open Go.ChangeShapes Go.WideShapes Go.ChangeAt Go.RowKit Go.Maps
set_option linter.unusedVariables false
set_option maxRecDepth 100000
/-- What stands in the law: the manifest that came in, and the given one in the block G, with a list of its own. -/
structure GvS (w : World) (G : Nat) (gen next upto : Int) (mv : Value) (W : World) (v : Value) (qs : List PN) : Prop where
  bel : Below w.heap.size w W
  m : Mn4 W w.heap.size (.int .i64 gen) (.int .i64 next) (.int .u64 upto) mv
  g : Mn4 W G (.int .i64 gen) (.int .i64 next) (.int .u64 upto) v
  own : ownP W (w.heap.size + 1) v qs
  r1 : w.heap.size < G
  ne : ∀ k, v.ownBlock = some k → k ≠ G
theorem GvS.g3 {w : World} {G : Nat} {gen next upto : Int} {mv : Value} {W : World} {v : Value} {qs : List PN} (h : GvS w G gen next upto mv W v qs) : W.cell? ⟨G, 3, none⟩ = some v := h.g.cell 3
theorem GvS.later {w : World} {G : Nat} {gen next upto : Int} {mv : Value} {W W' : World} {v : Value} {qs : List PN} (h : GvS w G gen next upto mv W v qs) (hb : Below W.heap.size W W') : GvS w G gen next upto mv W' v qs :=
  ⟨h.bel.trans (hb.mono h.bel.size), h.m.later hb h.m.lt, h.g.later hb h.g.lt, h.own.later hb, h.r1, h.ne⟩
theorem GvS.drew {w : World} {G : Nat} {gen next upto : Int} {mv : Value} {W : World} {v : Value} {qs : List PN} (h : GvS w G gen next upto mv W v qs) : GvS w G gen next upto mv W.drew v qs := h.later (Below.refl _ _).drew
theorem GvS.put {w : World} {G : Nat} {gen next upto : Int} {mv : Value} {W : World} {gr n cap : Nat} {qs : List PN} (h : GvS w G gen next upto mv W (.slice (some ⟨gr, 0, none⟩) n cap) qs) (hn : qs.length = n) (k : Nat) (hk : k < n) (x : PN) : GvS w G gen next upto mv (putP W gr k x) (.slice (some ⟨gr, 0, none⟩) n cap) (qs.set k x) := by
  have h1 := h.ne gr rfl
  have h2 := (h.own.own gr rfl).1
  refine ⟨?_, (putP_heap W gr k x _ (by omega)).trans h.m, (putP_heap W gr k x _ (by omega)).trans h.g, h.own.put hn k hk x, h.r1, h.ne⟩
  unfold putP
  exact (((((((h.bel.setCell (p := ⟨gr, k * 8, none⟩) (by simp only; omega) _).setCell (p := ⟨gr, k * 8 + 1, none⟩) (by simp only; omega) _).setCell (p := ⟨gr, k * 8 + 2, none⟩) (by simp only; omega) _).setCell (p := ⟨gr, k * 8 + 3, none⟩) (by simp only; omega) _).setCell (p := ⟨gr, k * 8 + 4, none⟩) (by simp only; omega) _).setCell (p := ⟨gr, k * 8 + 5, none⟩) (by simp only; omega) _).setCell (p := ⟨gr, k * 8 + 6, none⟩) (by simp only; omega) _).setCell (p := ⟨gr, k * 8 + 7, none⟩) (by simp only; omega) _
/-- The first pair's sum is another. -/
def bump : List PN → Int → List PN
  | [], _ => []
  | p :: ps, d => { p with ds := d } :: ps
theorem bump_len : ∀ (qs : List PN) (d : Int), (bump qs d).length = qs.length
  | [], _ => rfl
  | _ :: _, _ => rfl
theorem bump_wf {qs : List PN} {d : Int} (h : ∀ p ∈ qs, p.wf) (h0 : 0 ≤ d) (h1 : d ≤ 4294967295) : ∀ p ∈ bump qs d, p.wf := by
  cases qs with
  | nil => intro p hp; cases hp
  | cons q qs =>
    intro p hp
    rcases List.mem_cons.1 hp with e | hp
    · have hq := h q (by simp)
      rw [e]
      exact ⟨hq.id0, hq.id1, hq.lo0, hq.lo1, hq.hi0, hq.hi1, hq.rows0, hq.rows1, hq.gen0, hq.gen1, hq.gone0, hq.gone1, h0, h1, hq.es0, hq.es1⟩
    · exact h p (List.mem_cons_of_mem _ hp)
theorem GvS.bump {w : World} {G : Nat} {gen next upto : Int} {mv : Value} {W : World} {gr n cap : Nat} {qs : List PN} (h : GvS w G gen next upto mv W (.slice (some ⟨gr, 0, none⟩) n cap) qs) (hn : qs.length = n) (hk : 0 < n) (d : Int) : GvS w G gen next upto mv (W.setCell ⟨gr, 6, none⟩ (.int .u32 d)) (.slice (some ⟨gr, 0, none⟩) n cap) (bump qs d) := by
  have h1 := h.ne gr rfl
  have h2 := (h.own.own gr rfl).1
  refine ⟨h.bel.setCell (p := ⟨gr, 6, none⟩) (by simp only; omega) _, h.m.other (p := ⟨gr, 6, none⟩) _ (by simp only; omega), h.g.other (p := ⟨gr, 6, none⟩) _ (by simp only; omega), ?_, h.r1, h.ne⟩
  have ho := h.own
  unfold ownP at ho ⊢
  rw [bump_len]
  subst hn
  have := ownsRow_setP ho 6 (.int .u32 d)
  cases qs with
  | nil => simp at hk
  | cons q qs =>
    have e : (cellsP (q :: qs)).set 6 (.int .u32 d) = cellsP (Go.Proofs.YtjceellpmopnkaaDoor.bump (q :: qs) d) := by simp [Go.Proofs.YtjceellpmopnkaaDoor.bump, cellsP_cons]
    rw [e] at this
    exact this
/-- Three manifests that were read, the first of them in blocks below lim. -/
structure DsS (w W : World) (Q1 Q2 R1 lim : Nat) (dg dn du : Int) (va vb vc : Value) (ds : List PN) : Prop where
  q : Mn4 W Q1 (.int .i64 dg) (.int .i64 dn) (.int .u64 du) va
  q2 : Mn4 W Q2 (.int .i64 dg) (.int .i64 dn) (.int .u64 du) vb
  r : Mn4 W R1 (.int .i64 dg) (.int .i64 dn) (.int .u64 du) vc
  oa : ownP W w.heap.size va ds
  bel : Below w.heap.size w W
  ob : ownP W lim vb ds
  oc : ownP W lim vc ds
  la : ∀ k, va.ownBlock = some k → k < lim
  l2 : lim ≤ Q2
  l3 : lim ≤ R1
theorem DsS.later {w W W' : World} {Q1 Q2 R1 lim : Nat} {dg dn du : Int} {va vb vc : Value} {ds : List PN} (h : DsS w W Q1 Q2 R1 lim dg dn du va vb vc ds) (hb : Below W.heap.size W W') : DsS w W' Q1 Q2 R1 lim dg dn du va vb vc ds :=
  ⟨h.q.later hb h.q.lt, h.q2.later hb h.q2.lt, h.r.later hb h.r.lt, h.oa.later hb, h.bel.trans (hb.mono h.bel.size), h.ob.later hb, h.oc.later hb, h.la, h.l2, h.l3⟩
theorem DsS.named {w W W' : World} {Q1 Q2 R1 lim : Nat} {dg dn du : Int} {va vb vc : Value} {ds : List PN} (h : DsS w W Q1 Q2 R1 lim dg dn du va vb vc ds) (hk : ∀ k, k < W.heap.size → va.ownBlock ≠ some k → W'.heap[k]? = W.heap[k]?) : Mn4 W' Q2 (.int .i64 dg) (.int .i64 dn) (.int .u64 du) vb ∧ Mn4 W' R1 (.int .i64 dg) (.int .i64 dn) (.int .u64 du) vc ∧ ownP W' lim vb ds ∧ ownP W' lim vc ds := by
  have hne : ∀ k, lim ≤ k → va.ownBlock ≠ some k := fun k hl e => by have := h.la k e; omega
  exact ⟨(hk _ h.q2.lt (hne _ h.l2)).trans h.q2, (hk _ h.r.lt (hne _ h.l3)).trans h.r, h.ob.keep (fun k e => hk k (h.ob.own k e).2 (hne k (h.ob.own k e).1)), h.oc.keep (fun k e => hk k (h.oc.own k e).2 (hne k (h.oc.own k e).1))⟩
set_option maxHeartbeats 25600000 in
theorem manifest_walk (w : World) (gen next upto : Int) (ao : Option Addr) (cap : Nat) (ps : List PN) (b : ByteArray) (ha : SeesP w w.heap.size ao ps) (hcap : ao = none → ps = [] ∧ cap = 0) (hao : ∀ ad, ao = some ad → ps ≠ [] → ∃ b off, ad = ⟨b, off, none⟩) (hw : ∀ p ∈ ps, p.wf) (hu : 0 ≤ upto) (hl : ps.length * 56 ≤ 140737488355328) (hs : b.size ≤ 1125899906842624) (hT : HalfAt w) :
    Calls Tryd.prog 3 #[.agg #[.int .i64 gen, .int .i64 next, .int .u64 upto, .slice ao ps.length cap], .string b] w fun e w' => e = .returned (.bool true) ∧ Below w.heap.size w w' := by
  obtain ⟨st1, cd1, c10, c11, HE1, HR1⟩ := enc_both gen next upto ps hw hu
  have HE : Hid _ := HE1
  have HR : Hid _ := HR1
  have HA : Hid (SeesP w w.heap.size ao ps) := ha
  have HT : Hid (HalfAt w) := hT
  have HW : Hid (∀ p ∈ ps, p.wf) := hw
  have hb0 : Below w.heap.size w (w.alloc (.cells #[.int .i64 gen, .int .i64 next, .int .u64 upto, .slice ao ps.length cap] 25)) := (Below.refl _ _).alloc (Nat.le_refl _) _
  have HM0 : Hid (Mn4 (w.alloc (.cells #[.int .i64 gen, .int .i64 next, .int .u64 upto, .slice ao ps.length cap] 25)) w.heap.size (.int .i64 gen) (.int .i64 next) (.int .u64 upto) (.slice ao ps.length cap)) := heap_alloc_new w _
  have HTw : Hid (∀ _ : Unit, _) := fun _ => twin_any (w.alloc (.cells #[.int .i64 gen, .int .i64 next, .int .u64 upto, .slice ao ps.length cap] 25)) gen next upto ao cap ps (fun i hi => by obtain ⟨b', o', e, hlt, hp⟩ := (ha.later hb0) i hi; exact ⟨b', o', e, Nat.lt_of_lt_of_le hlt hb0.size, hp⟩) hcap hao hl
  have HB0 : Hid _ := hb0
  clear HE1 HR1 ha hcap hao hT hw hb0
  go_enter Tryd.func3, Tryd.ntmps3
  go_wp2_with fail
  generalize hy0 : w.alloc (.cells #[.int .i64 gen, .int .i64 next, .int .u64 upto, .slice ao ps.length cap] 25) = y0 at *
  clear hy0
  refine (HTw.out ()).mono ?_
  rintro e w1 ⟨hb1, v, rfl, ho1⟩
  have hy := HM0.out.lt
  have hG := ho1.own
  have HS1 : Hid (GvS w w1.heap.size gen next upto (.slice ao ps.length cap) (w1.alloc (.cells #[.int .i64 gen, .int .i64 next, .int .u64 upto, v] 25)) v ps) := by
    have hal : Below w1.heap.size w1 (w1.alloc (.cells #[.int .i64 gen, .int .i64 next, .int .u64 upto, v] 25)) := (Below.refl _ _).alloc (Nat.le_refl _) _
    have hsz := hb1.size
    exact ⟨(HB0.out.trans (hb1.mono HB0.out.size)).trans (hal.mono (by omega)), (HM0.out.later hb1 hy).later hal (by omega), heap_alloc_new w1 _, (ho1.later hal).mono (by omega), by omega, fun k hk => by have := (hG k hk).2; omega⟩
  obtain ⟨av, cv, rfl, -, -⟩ := ho1.slice
  clear hb1 ho1 hy hG HTw HM0 HB0
  have HE1 : Hid (∀ W, GvS w w1.heap.size gen next upto (.slice ao ps.length cap) W (.slice av ps.length cv) ps → Calls Tryd.prog 5 #[.agg #[.int .i64 gen, .int .i64 next, .int .u64 upto, .slice av ps.length cv]] W fun e w' => e = .returned (.tuple #[.string st1, .int .i64 cd1]) ∧ Below W.heap.size W w') := fun W h => HE.out W av cv h.own.sees (HT.out.later h.bel)
  have HR1 : Hid (∀ W, GvS w w1.heap.size gen next upto (.slice ao ps.length cap) W (.slice av ps.length cv) ps → Calls Tryd.prog 6 #[.agg #[.int .i64 gen, .int .i64 next, .int .u64 upto, .slice ao ps.length cap]] W fun e w' => e = .returned (.tuple #[.string st1, .int .i64 cd1]) ∧ Below W.heap.size W w') := fun W h => HR.out W ao cap (fun i hi => by obtain ⟨b', o', e, hlt, hp⟩ := (HA.out.later h.bel) i hi; exact ⟨b', o', e, Nat.lt_of_lt_of_le hlt h.bel.size, hp⟩)
  have HQ1 : Hid (∀ W, GvS w w1.heap.size gen next upto (.slice ao ps.length cap) W (.slice av ps.length cv) ps → Calls Tryd.prog 8 #[.agg #[.int .i64 gen, .int .i64 next, .int .u64 upto, .slice av ps.length cv], .agg #[.int .i64 gen, .int .i64 next, .int .u64 upto, .slice ao ps.length cap]] W fun e w' => e = .returned (.bool true) ∧ Below W.heap.size W w') := fun W h => same_eq W gen next upto av ao cv cap ps h.own.sees (fun i hi => by obtain ⟨b', o', e, hlt, hp⟩ := (HA.out.later h.bel) i hi; exact ⟨b', o', e, Nat.lt_of_lt_of_le hlt h.bel.size, hp⟩) (by omega)
  clear HE HR
  have g0 : (w1.alloc (.cells #[.int .i64 gen, .int .i64 next, .int .u64 upto, .slice av ps.length cv] 25)).cell? ⟨w1.heap.size, 3, none⟩ = some (.slice av ps.length cv) := HS1.out.g.cell 3
  go_wp2_with fail
  generalize hy1 : w1.alloc (.cells #[.int .i64 gen, .int .i64 next, .int .u64 upto, .slice av ps.length cv] 25) = y1 at *
  generalize hGG : w1.heap.size = G at *
  clear hy1 hGG g0
  refine (HE1.out y1 HS1.out).mono ?_
  rintro e w2 ⟨rfl, hb2⟩
  have HS2 : Hid (GvS w G gen next upto (.slice ao ps.length cap) w2 (.slice av ps.length cv) ps) := HS1.out.later hb2
  clear hb2 HS1
  have g0 : w2.cell? ⟨G, 0, none⟩ = some (.int .i64 gen) := HS2.out.g.cell 0
  have g1 : w2.cell? ⟨G, 1, none⟩ = some (.int .i64 next) := HS2.out.g.cell 1
  have g2 : w2.cell? ⟨G, 2, none⟩ = some (.int .u64 upto) := HS2.out.g.cell 2
  have m0 : w2.cell? ⟨w.heap.size, 0, none⟩ = some (.int .i64 gen) := HS2.out.m.cell 0
  have m1 : w2.cell? ⟨w.heap.size, 1, none⟩ = some (.int .i64 next) := HS2.out.m.cell 1
  have m2 : w2.cell? ⟨w.heap.size, 2, none⟩ = some (.int .u64 upto) := HS2.out.m.cell 2
  have g3 : w2.cell? ⟨G, 3, none⟩ = some (.slice av ps.length cv) := HS2.out.g.cell 3
  have m3 : w2.cell? ⟨w.heap.size, 3, none⟩ = some (.slice ao ps.length cap) := HS2.out.m.cell 3
  go_wp2_with fail
  refine (HR1.out w2 HS2.out).mono ?_
  rintro e w3 ⟨rfl, hb3⟩
  have HS3 : Hid (GvS w G gen next upto (.slice ao ps.length cap) w3 (.slice av ps.length cv) ps) := HS2.out.later hb3
  clear hb3 HS2 HR1 HE1 g0 g1 g2 g3 m0 m1 m2 m3
  have g0 : w3.cell? ⟨G, 0, none⟩ = some (.int .i64 gen) := HS3.out.g.cell 0
  have g1 : w3.cell? ⟨G, 1, none⟩ = some (.int .i64 next) := HS3.out.g.cell 1
  have g2 : w3.cell? ⟨G, 2, none⟩ = some (.int .u64 upto) := HS3.out.g.cell 2
  have m0 : w3.cell? ⟨w.heap.size, 0, none⟩ = some (.int .i64 gen) := HS3.out.m.cell 0
  have m1 : w3.cell? ⟨w.heap.size, 1, none⟩ = some (.int .i64 next) := HS3.out.m.cell 1
  have m2 : w3.cell? ⟨w.heap.size, 2, none⟩ = some (.int .u64 upto) := HS3.out.m.cell 2
  have g3 : w3.cell? ⟨G, 3, none⟩ = some (.slice av ps.length cv) := HS3.out.g.cell 3
  have m3 : w3.cell? ⟨w.heap.size, 3, none⟩ = some (.slice ao ps.length cap) := HS3.out.m.cell 3
  go_wp2_with fail
  refine (num_any cd1 w3 c10 c11).mono ?_
  rintro e w4 ⟨rfl, rfl⟩
  go_wp2_with fail
  refine (HQ1.out w4 HS3.out).mono ?_
  rintro e w5 ⟨rfl, hb5⟩
  have HS5 : Hid (GvS w G gen next upto (.slice ao ps.length cap) w5 (.slice av ps.length cv) ps) := HS3.out.later hb5
  clear hb5 HS3 HQ1 g0 g1 g2 g3 m0 m1 m2 m3
  have g3 : w5.cell? ⟨G, 3, none⟩ = some (.slice av ps.length cv) := HS5.out.g.cell 3
  go_wp2_with fail
  go_loopw [11] (fun i wr => ∃ (k : Nat) (qs : List PN), k ≤ ps.length / 2 ∧ i = .int .i64 k ∧ qs.length = ps.length ∧ (∀ p ∈ qs, p.wf) ∧ GvS w G gen next upto (.slice ao ps.length cap) wr (.slice av ps.length cv) qs) (fun i _ => ps.length - (intOf i).toNat)
  case atStart => exact ⟨0, ps, by omega, rfl, rfl, HW.out, HS5.out⟩
  case round =>
    obtain ⟨k, qs, hk, rfl, hq, hqw, hS⟩ := hrel
    have HSk : Hid (GvS w G gen next upto (.slice ao ps.length cap) wr (.slice av ps.length cv) qs) := hS
    have HQ : Hid (qs.length = ps.length) := hq
    have HQW : Hid (∀ p ∈ qs, p.wf) := hqw
    clear hS hq hqw HS5 g3
    have g3 : wr.cell? ⟨G, 3, none⟩ = some (.slice av ps.length cv) := HSk.out.g.cell 3
    have hdv : (ps.length : Int).tdiv 2 = ((ps.length / 2 : Nat) : Int) := by rw [Int.tdiv_eq_ediv_of_nonneg (by omega)]; omega
    by_cases h1 : k < ps.length / 2
    · obtain ⟨j, hj⟩ : ∃ j : Nat, j + 1 + k = ps.length := ⟨ps.length - 1 - k, by omega⟩
      have hjl : j < ps.length := by omega
      have hkl : k < ps.length := by omega
      have hkj : k < j := by omega
      have hw1 : IntKind.i64.wrap ((ps.length : Int) - 1) = (ps.length : Int) - 1 := by rw [IntKind.wrap_i64]; omega
      have hw2 : IntKind.i64.wrap ((ps.length : Int) - 1 - (k : Int)) = (j : Int) := by rw [IntKind.wrap_i64]; omega
      obtain ⟨gr, e, hge, hgr, hat, hfz⟩ := HSk.out.own.at k (by rw [HQ.out]; exact hkl)
      obtain ⟨p0, p1, p2, p3, p4, p5, p6, p7⟩ := hat
      subst e
      obtain ⟨gr', e', _, _, hat2, _⟩ := HSk.out.own.at j (by rw [HQ.out]; exact hjl)
      obtain rfl : gr = gr' := by injection e' with e'; injection e'
      obtain ⟨q0, q1, q2, q3, q4, q5, q6, q7⟩ := hat2
      have HX : Hid (qs[k]'(by rw [HQ.out]; exact hkl)).wf := HQW.out _ (List.getElem_mem _)
      have HYy : Hid (qs[j]'(by rw [HQ.out]; exact hjl)).wf := HQW.out _ (List.getElem_mem _)
      generalize qs[k]'(by rw [HQ.out]; exact hkl) = x at *
      generalize qs[j]'(by rw [HQ.out]; exact hjl) = y at *
      have hfk := fun i => hfz (k * 8 + i)
      clear e'
      have hjj : (j : Int) < (ps.length : Int) := by omega
      have hkk : (k : Int) < (ps.length : Int) := by omega
      have z0 := hfz (k * 8)
      have z1 := hfz (k * 8 + 1)
      have z2 := hfz (k * 8 + 2)
      have z3 := hfz (k * 8 + 3)
      have z4 := hfz (k * 8 + 4)
      have z5 := hfz (k * 8 + 5)
      have z6 := hfz (k * 8 + 6)
      have z7 := hfz (k * 8 + 7)
      have HS1 : Hid _ := (HSk.out.put HQ.out k hkl y).drew
      unfold putP at HS1
      have HWs : Hid (∀ p ∈ (qs.set k y).set j x, p.wf) := fun p hp => by
        rcases List.mem_or_eq_of_mem_set hp with h | h
        · rcases List.mem_or_eq_of_mem_set h with h | h
          · exact HQW.out p h
          · rw [h]; exact HYy.out
        · rw [h]; exact HX.out
      clear hfz hfk HX HYy
      go_wp2_with fail
      (refine wp_region_held_drew (S := (fun W => W.cell? ⟨G, 3, none⟩ = some (.slice (some ⟨gr, 0, none⟩) ps.length cv))) (by kernel_rfl) g3 (fun hHeld => ?_); simp only [List.size_toArray, List.length_cons, List.length_nil, Nat.reduceAdd, Array.replicate_succ, Array.replicate_zero, List.push_toArray, List.append_toArray, List.nil_append, List.cons_append])
      (refine tk0 (v := ?_) (by kernel_rfl) (by kernel_rfl) (by kernel_rfl) (fun _ _ _ h => h) (Or.inl ⟨by rfl, ?_⟩) (by assumption) ?_; rotate_left; (focus (intro w hSw; (try dsimp only at hSw); go_simp; (try first | (rw [dif_pos (by omega)]; simp only [Result.andThen_ok]) | rw [if_pos (by omega)]); (try with_reducible rfl); done)); try simp only [Act.put, List.setIfInBounds_toArray, List.set_cons_zero, List.set_cons_succ])
      (refine tk1 (v := ?_) (by kernel_rfl) (by kernel_rfl) (by kernel_rfl) (fun _ _ _ h => h) (Or.inl ⟨by rfl, ?_⟩) (by assumption) ?_; rotate_left; (focus (intro w hSw; (try dsimp only at hSw); go_simp; (try first | (rw [dif_pos (by omega)]; simp only [Result.andThen_ok]) | rw [if_pos (by omega)]); (try with_reducible rfl); done)); try simp only [Act.put, List.setIfInBounds_toArray, List.set_cons_zero, List.set_cons_succ])
      (refine tk2 (v := ?_) (by kernel_rfl) (by kernel_rfl) (by kernel_rfl) (fun _ _ _ h => h) (Or.inl ⟨by rfl, ?_⟩) (by assumption) ?_; rotate_left; (focus (intro w hSw; (try dsimp only at hSw); go_simp; (try first | (rw [dif_pos (by omega)]; simp only [Result.andThen_ok]) | rw [if_pos (by omega)]); (try with_reducible rfl); done)); try simp only [Act.put, List.setIfInBounds_toArray, List.set_cons_zero, List.set_cons_succ])
      (refine tk3 (v := ?_) (by kernel_rfl) (by kernel_rfl) (by kernel_rfl) (fun _ _ _ h => h) (Or.inl ⟨by rfl, ?_⟩) (by assumption) ?_; rotate_left; (focus (intro w hSw; (try dsimp only at hSw); go_simp; (try first | (rw [dif_pos (by omega)]; simp only [Result.andThen_ok]) | rw [if_pos (by omega)]); (try with_reducible rfl); done)); try simp only [Act.put, List.setIfInBounds_toArray, List.set_cons_zero, List.set_cons_succ])
      (refine tk4 (v := ?_) (by kernel_rfl) (by kernel_rfl) (by kernel_rfl) (fun _ _ _ h => h) (Or.inl ⟨by rfl, ?_⟩) (by assumption) ?_; rotate_left; (focus (intro w hSw; (try dsimp only at hSw); go_simp; (try first | (rw [dif_pos (by omega)]; simp only [Result.andThen_ok]) | rw [if_pos (by omega)]); (try with_reducible rfl); done)); try simp only [Act.put, List.setIfInBounds_toArray, List.set_cons_zero, List.set_cons_succ])
      (refine tk5 (v := ?_) (by kernel_rfl) (by kernel_rfl) (by kernel_rfl) (fun _ _ _ h => h) (Or.inl ⟨by rfl, ?_⟩) (by assumption) ?_; rotate_left; (focus (intro w hSw; (try dsimp only at hSw); go_simp; (try first | (rw [dif_pos (by omega)]; simp only [Result.andThen_ok]) | rw [if_pos (by omega)]); (try with_reducible rfl); done)); try simp only [Act.put, List.setIfInBounds_toArray, List.set_cons_zero, List.set_cons_succ])
      (refine tk6 (v := ?_) (by kernel_rfl) (by kernel_rfl) (by kernel_rfl) (fun _ _ _ h => h) (Or.inl ⟨by rfl, ?_⟩) (by assumption) ?_; rotate_left; (focus (intro w hSw; (try dsimp only at hSw); go_simp; (try first | (rw [dif_pos (by omega)]; simp only [Result.andThen_ok]) | rw [if_pos (by omega)]); (try with_reducible rfl); done)); try simp only [Act.put, List.setIfInBounds_toArray, List.set_cons_zero, List.set_cons_succ])
      (refine tk7 (v := ?_) (by kernel_rfl) (by kernel_rfl) (by kernel_rfl) (fun _ _ _ h => h) (Or.inl ⟨by rfl, ?_⟩) (by assumption) ?_; rotate_left; (focus (intro w hSw; (try dsimp only at hSw); go_simp; (try first | (rw [dif_pos (by omega)]; simp only [Result.andThen_ok]) | rw [if_pos (by omega)]); (try with_reducible rfl); done)); try simp only [Act.put, List.setIfInBounds_toArray, List.set_cons_zero, List.set_cons_succ])
      (refine tk8 (v := ?_) (by kernel_rfl) (by kernel_rfl) (by kernel_rfl) (fun _ _ _ h => h) (Or.inl ⟨by rfl, ?_⟩) (by assumption) ?_; rotate_left; (focus (intro w hSw; (try dsimp only at hSw); go_simp; (try first | (rw [dif_pos (by omega)]; simp only [Result.andThen_ok]) | rw [if_pos (by omega)]); (try with_reducible rfl); done)); try simp only [Act.put, List.setIfInBounds_toArray, List.set_cons_zero, List.set_cons_succ])
      (refine tk9 (v := ?_) (by kernel_rfl) (by kernel_rfl) (by kernel_rfl) (fun _ _ _ h => h) (Or.inl ⟨by rfl, ?_⟩) (by assumption) ?_; rotate_left; (focus (intro w hSw; (try dsimp only at hSw); go_simp; (try first | (rw [dif_pos (by omega)]; simp only [Result.andThen_ok]) | rw [if_pos (by omega)]); (try with_reducible rfl); done)); try simp only [Act.put, List.setIfInBounds_toArray, List.set_cons_zero, List.set_cons_succ])
      (refine tk10 (v := ?_) (by kernel_rfl) (by kernel_rfl) (by kernel_rfl) (fun _ _ _ h => h) (Or.inl ⟨by rfl, ?_⟩) (by assumption) ?_; rotate_left; (focus (intro w hSw; (try dsimp only at hSw); go_simp; (try first | (rw [dif_pos (by omega)]; simp only [Result.andThen_ok]) | rw [if_pos (by omega)]); (try with_reducible rfl); done)); try simp only [Act.put, List.setIfInBounds_toArray, List.set_cons_zero, List.set_cons_succ])
      (refine tk11 (v := ?_) (by kernel_rfl) (by kernel_rfl) (by kernel_rfl) (fun _ _ _ h => h) (Or.inl ⟨by rfl, ?_⟩) (by assumption) ?_; rotate_left; (focus (intro w hSw; (try dsimp only at hSw); go_simp; (try first | (rw [dif_pos (by omega)]; simp only [Result.andThen_ok]) | rw [if_pos (by omega)]); (try with_reducible rfl); done)); try simp only [Act.put, List.setIfInBounds_toArray, List.set_cons_zero, List.set_cons_succ])
      (refine tk12 (v := ?_) (by kernel_rfl) (by kernel_rfl) (by kernel_rfl) (fun _ _ _ h => h) (Or.inl ⟨by rfl, ?_⟩) (by assumption) ?_; rotate_left; (focus (intro w hSw; (try dsimp only at hSw); go_simp; (try first | (rw [dif_pos (by omega)]; simp only [Result.andThen_ok]) | rw [if_pos (by omega)]); (try with_reducible rfl); done)); try simp only [Act.put, List.setIfInBounds_toArray, List.set_cons_zero, List.set_cons_succ])
      (refine tk13 (v := ?_) (by kernel_rfl) (by kernel_rfl) (by kernel_rfl) (fun _ _ _ h => h) (Or.inl ⟨by rfl, ?_⟩) (by assumption) ?_; rotate_left; (focus (intro w hSw; (try dsimp only at hSw); go_simp; (try first | (rw [dif_pos (by omega)]; simp only [Result.andThen_ok]) | rw [if_pos (by omega)]); (try with_reducible rfl); done)); try simp only [Act.put, List.setIfInBounds_toArray, List.set_cons_zero, List.set_cons_succ])
      (refine tk14 (v := ?_) (by kernel_rfl) (by kernel_rfl) (by kernel_rfl) (fun _ _ _ h => h) (Or.inl ⟨by rfl, ?_⟩) (by assumption) ?_; rotate_left; (focus (intro w hSw; (try dsimp only at hSw); go_simp; (try first | (rw [dif_pos (by omega)]; simp only [Result.andThen_ok]) | rw [if_pos (by omega)]); (try with_reducible rfl); done)); try simp only [Act.put, List.setIfInBounds_toArray, List.set_cons_zero, List.set_cons_succ])
      (refine tk15 (v := ?_) (by kernel_rfl) (by kernel_rfl) (by kernel_rfl) (fun _ _ _ h => h) (Or.inl ⟨by rfl, ?_⟩) (by assumption) ?_; rotate_left; (focus (intro w hSw; (try dsimp only at hSw); go_simp; (try first | (rw [dif_pos (by omega)]; simp only [Result.andThen_ok]) | rw [if_pos (by omega)]); (try with_reducible rfl); done)); try simp only [Act.put, List.setIfInBounds_toArray, List.set_cons_zero, List.set_cons_succ])
      (refine tk17 (v := ?_) (by kernel_rfl) (by kernel_rfl) (by kernel_rfl) (fun _ _ _ h => h) (Or.inl ⟨by rfl, ?_⟩) (by assumption) ?_; rotate_left; (focus (intro w hSw; (try dsimp only at hSw); go_simp; (try first | (rw [dif_pos (by omega)]; simp only [Result.andThen_ok]) | rw [if_pos (by omega)]); (try with_reducible rfl); done)); try simp only [Act.put, List.setIfInBounds_toArray, List.set_cons_zero, List.set_cons_succ])
      (refine tk18 (v := ?_) (by kernel_rfl) (by kernel_rfl) (by kernel_rfl) (fun _ _ _ h => h) (Or.inl ⟨by rfl, ?_⟩) (by assumption) ?_; rotate_left; (focus (intro w hSw; (try dsimp only at hSw); go_simp; (try first | (rw [dif_pos (by omega)]; simp only [Result.andThen_ok]) | rw [if_pos (by omega)]); (try with_reducible rfl); done)); try simp only [Act.put, List.setIfInBounds_toArray, List.set_cons_zero, List.set_cons_succ])
      (refine tk19 (v := ?_) (by kernel_rfl) (by kernel_rfl) (by kernel_rfl) (fun _ _ _ h => h) (Or.inl ⟨by rfl, ?_⟩) (by assumption) ?_; rotate_left; (focus (intro w hSw; (try dsimp only at hSw); go_simp; (try first | (rw [dif_pos (by omega)]; simp only [Result.andThen_ok]) | rw [if_pos (by omega)]); (try with_reducible rfl); done)); try simp only [Act.put, List.setIfInBounds_toArray, List.set_cons_zero, List.set_cons_succ])
      (refine tk20 (v := ?_) (by kernel_rfl) (by kernel_rfl) (by kernel_rfl) (fun _ _ _ h => h) (Or.inl ⟨by rfl, ?_⟩) (by assumption) ?_; rotate_left; (focus (intro w hSw; (try dsimp only at hSw); go_simp; (try first | (rw [dif_pos (by omega)]; simp only [Result.andThen_ok]) | rw [if_pos (by omega)]); (try with_reducible rfl); done)); try simp only [Act.put, List.setIfInBounds_toArray, List.set_cons_zero, List.set_cons_succ])
      (refine wpAnyH_ready (rs := [16, 21]) (by kernel_rfl) (by simp) ?_; refine ar16 (fun K hK => ?_) (ar21 (fun K hK => ?_) AllReadyH.nil) <;> go_simp)
      · (refine hK.out _ _ g3 (fun hHeld => ?_); clear hK K; try simp only [Act.put, List.setIfInBounds_toArray, List.set_cons_zero, List.set_cons_succ])
        (refine wpAnyH_ready (rs := [21]) (by kernel_rfl) (by simp) ?_; refine ar21 (fun K hK => ?_) AllReadyH.nil; go_simp)
        (refine hK.out _ _ g3 (fun hHeld => ?_); clear hK K; try simp only [Act.put, List.setIfInBounds_toArray, List.set_cons_zero, List.set_cons_succ])
        (refine tk22 (v := ?_) (by kernel_rfl) (by kernel_rfl) (by kernel_rfl) (fun _ _ _ h => h) (Or.inl ⟨by rfl, ?_⟩) (by assumption) ?_; rotate_left; (focus (intro w hSw; (try dsimp only at hSw); go_simp; (try first | (rw [dif_pos (by omega)]; simp only [Result.andThen_ok]) | rw [if_pos (by omega)]); (try with_reducible rfl); done)); try simp only [Act.put, List.setIfInBounds_toArray, List.set_cons_zero, List.set_cons_succ])
        (refine wpAnyH_ready (rs := [23]) (by kernel_rfl) (by simp) ?_; refine ar23 (fun K hK => ?_) AllReadyH.nil; go_simp)
        generalize ((((((((wr.setCell ⟨gr, k * 8, none⟩ (.int .i64 y.id)).setCell ⟨gr, k * 8 + 1, none⟩ (.int .u64 y.lo)).setCell ⟨gr, k * 8 + 2, none⟩ (.int .u64 y.hi)).setCell ⟨gr, k * 8 + 3, none⟩ (.int .i64 y.rows)).setCell ⟨gr, k * 8 + 4, none⟩ (.int .i64 y.gen)).setCell ⟨gr, k * 8 + 5, none⟩ (.int .i64 y.gone)).setCell ⟨gr, k * 8 + 6, none⟩ (.int .u32 y.ds)).setCell ⟨gr, k * 8 + 7, none⟩ (.int .u32 y.es)).drew = W1 at *
        have hS1 := HS1.out
        have r3 := hS1.g3
        obtain ⟨gr3, ea, _, _, hat3, hfz3⟩ := hS1.own.at j (by rw [List.length_set, HQ.out]; exact hjl)
        obtain rfl : gr = gr3 := by injection ea with ea; injection ea
        obtain ⟨s0, s1, s2, s3, s4, s5, s6, s7⟩ := hat3
        have t0 := hfz3 (j * 8)
        have t1 := hfz3 (j * 8 + 1)
        have t2 := hfz3 (j * 8 + 2)
        have t3 := hfz3 (j * 8 + 3)
        have t4 := hfz3 (j * 8 + 4)
        have t5 := hfz3 (j * 8 + 5)
        have t6 := hfz3 (j * 8 + 6)
        have t7 := hfz3 (j * 8 + 7)
        generalize (qs.set k y)[j]'(by rw [List.length_set, HQ.out]; exact hjl) = yy at *
        have HS2 : Hid _ := hS1.put (by rw [List.length_set]; exact HQ.out) j hjl x
        unfold putP at HS2
        clear hS1 hfz3 ea
        (refine hK.out _ _ r3 (fun hHeld => ?_); clear hK K; try simp only [Act.put, List.setIfInBounds_toArray, List.set_cons_zero, List.set_cons_succ])
        (refine tk24 (v := ?_) (by kernel_rfl) (by kernel_rfl) (by kernel_rfl) (fun _ _ _ h => h) (Or.inl ⟨by rfl, ?_⟩) (by assumption) ?_; rotate_left; (focus (intro w hSw; (try dsimp only at hSw); go_simp; (try first | (rw [dif_pos (by omega)]; simp only [Result.andThen_ok]) | rw [if_pos (by omega)]); (try with_reducible rfl); done)); try simp only [Act.put, List.setIfInBounds_toArray, List.set_cons_zero, List.set_cons_succ])
        clear p0 p1 p2 p3 p4 p5 p6 p7 q0 q1 q2 q3 q4 q5 q6 q7 z0 z1 z2 z3 z4 z5 z6 z7 hHeld
        (refine wpAnyH_ready (rs := [25]) (by kernel_rfl) (by simp) ?_; refine ar25 (fun K hK => ?_) AllReadyH.nil; go_simp)
        generalize ((((((((W1.setCell ⟨gr, j * 8, none⟩ (.int .i64 x.id)).setCell ⟨gr, j * 8 + 1, none⟩ (.int .u64 x.lo)).setCell ⟨gr, j * 8 + 2, none⟩ (.int .u64 x.hi)).setCell ⟨gr, j * 8 + 3, none⟩ (.int .i64 x.rows)).setCell ⟨gr, j * 8 + 4, none⟩ (.int .i64 x.gen)).setCell ⟨gr, j * 8 + 5, none⟩ (.int .i64 x.gone)).setCell ⟨gr, j * 8 + 6, none⟩ (.int .u32 x.ds)).setCell ⟨gr, j * 8 + 7, none⟩ (.int .u32 x.es)) = W2 at *
        (refine hK.out _ _ HS2.out.g3 (fun hHeld => ?_); clear hK K; try simp only [Act.put, List.setIfInBounds_toArray, List.set_cons_zero, List.set_cons_succ])
        refine wpAnyH_done (by kernel_rfl) ?_ _
        go_wp2
        go_roundw
        case rel => exact ⟨k + 1, (qs.set k y).set j x, by omega, by go_num, by rw [List.length_set, List.length_set]; exact HQ.out, HWs.out, HS2.out⟩
        case measure => simp [intOf]; omega
      · (refine hK.out _ _ g3 (fun hHeld => ?_); clear hK K; try simp only [Act.put, List.setIfInBounds_toArray, List.set_cons_zero, List.set_cons_succ])
        (refine wpAnyH_ready (rs := [16]) (by kernel_rfl) (by simp) ?_; refine ar16 (fun K hK => ?_) AllReadyH.nil; go_simp)
        (refine hK.out _ _ g3 (fun hHeld => ?_); clear hK K; try simp only [Act.put, List.setIfInBounds_toArray, List.set_cons_zero, List.set_cons_succ])
        (refine tk22 (v := ?_) (by kernel_rfl) (by kernel_rfl) (by kernel_rfl) (fun _ _ _ h => h) (Or.inl ⟨by rfl, ?_⟩) (by assumption) ?_; rotate_left; (focus (intro w hSw; (try dsimp only at hSw); go_simp; (try first | (rw [dif_pos (by omega)]; simp only [Result.andThen_ok]) | rw [if_pos (by omega)]); (try with_reducible rfl); done)); try simp only [Act.put, List.setIfInBounds_toArray, List.set_cons_zero, List.set_cons_succ])
        (refine wpAnyH_ready (rs := [23]) (by kernel_rfl) (by simp) ?_; refine ar23 (fun K hK => ?_) AllReadyH.nil; go_simp)
        generalize ((((((((wr.setCell ⟨gr, k * 8, none⟩ (.int .i64 y.id)).setCell ⟨gr, k * 8 + 1, none⟩ (.int .u64 y.lo)).setCell ⟨gr, k * 8 + 2, none⟩ (.int .u64 y.hi)).setCell ⟨gr, k * 8 + 3, none⟩ (.int .i64 y.rows)).setCell ⟨gr, k * 8 + 4, none⟩ (.int .i64 y.gen)).setCell ⟨gr, k * 8 + 5, none⟩ (.int .i64 y.gone)).setCell ⟨gr, k * 8 + 6, none⟩ (.int .u32 y.ds)).setCell ⟨gr, k * 8 + 7, none⟩ (.int .u32 y.es)).drew = W1 at *
        have hS1 := HS1.out
        have r3 := hS1.g3
        obtain ⟨gr3, ea, _, _, hat3, hfz3⟩ := hS1.own.at j (by rw [List.length_set, HQ.out]; exact hjl)
        obtain rfl : gr = gr3 := by injection ea with ea; injection ea
        obtain ⟨s0, s1, s2, s3, s4, s5, s6, s7⟩ := hat3
        have t0 := hfz3 (j * 8)
        have t1 := hfz3 (j * 8 + 1)
        have t2 := hfz3 (j * 8 + 2)
        have t3 := hfz3 (j * 8 + 3)
        have t4 := hfz3 (j * 8 + 4)
        have t5 := hfz3 (j * 8 + 5)
        have t6 := hfz3 (j * 8 + 6)
        have t7 := hfz3 (j * 8 + 7)
        generalize (qs.set k y)[j]'(by rw [List.length_set, HQ.out]; exact hjl) = yy at *
        have HS2 : Hid _ := hS1.put (by rw [List.length_set]; exact HQ.out) j hjl x
        unfold putP at HS2
        clear hS1 hfz3 ea
        (refine hK.out _ _ r3 (fun hHeld => ?_); clear hK K; try simp only [Act.put, List.setIfInBounds_toArray, List.set_cons_zero, List.set_cons_succ])
        (refine tk24 (v := ?_) (by kernel_rfl) (by kernel_rfl) (by kernel_rfl) (fun _ _ _ h => h) (Or.inl ⟨by rfl, ?_⟩) (by assumption) ?_; rotate_left; (focus (intro w hSw; (try dsimp only at hSw); go_simp; (try first | (rw [dif_pos (by omega)]; simp only [Result.andThen_ok]) | rw [if_pos (by omega)]); (try with_reducible rfl); done)); try simp only [Act.put, List.setIfInBounds_toArray, List.set_cons_zero, List.set_cons_succ])
        clear p0 p1 p2 p3 p4 p5 p6 p7 q0 q1 q2 q3 q4 q5 q6 q7 z0 z1 z2 z3 z4 z5 z6 z7 hHeld
        (refine wpAnyH_ready (rs := [25]) (by kernel_rfl) (by simp) ?_; refine ar25 (fun K hK => ?_) AllReadyH.nil; go_simp)
        generalize ((((((((W1.setCell ⟨gr, j * 8, none⟩ (.int .i64 x.id)).setCell ⟨gr, j * 8 + 1, none⟩ (.int .u64 x.lo)).setCell ⟨gr, j * 8 + 2, none⟩ (.int .u64 x.hi)).setCell ⟨gr, j * 8 + 3, none⟩ (.int .i64 x.rows)).setCell ⟨gr, j * 8 + 4, none⟩ (.int .i64 x.gen)).setCell ⟨gr, j * 8 + 5, none⟩ (.int .i64 x.gone)).setCell ⟨gr, j * 8 + 6, none⟩ (.int .u32 x.ds)).setCell ⟨gr, j * 8 + 7, none⟩ (.int .u32 x.es)) = W2 at *
        (refine hK.out _ _ HS2.out.g3 (fun hHeld => ?_); clear hK K; try simp only [Act.put, List.setIfInBounds_toArray, List.set_cons_zero, List.set_cons_succ])
        refine wpAnyH_done (by kernel_rfl) ?_ _
        go_wp2
        go_roundw
        case rel => exact ⟨k + 1, (qs.set k y).set j x, by omega, by go_num, by rw [List.length_set, List.length_set]; exact HQ.out, HWs.out, HS2.out⟩
        case measure => simp [intOf]; omega
    · by_cases h0 : ps.length = 0
      · have hn0 : decide ((0 : Int) < (ps.length : Int)) = false := decide_eq_false (by omega)
        have hn1 : ¬ (0 : Int) < (ps.length : Int) := by omega
        have HSt : Hid (GvS w G gen next upto (.slice ao ps.length cap) wr (.slice av ps.length cv) qs) := HSk.out
        have HQt : Hid (qs.length = ps.length) := HQ.out
        have HWt : Hid (∀ p ∈ qs, p.wf) := HQW.out
        clear h0 HSk HQ HQW
        have HDB : Hid _ := dec_both b hs
        obtain ⟨st2, cd2, c20, c21, hE2, hR2⟩ := enc_both gen next upto qs HWt.out hu
        have HE2 : Hid (∀ W, GvS w G gen next upto (.slice ao ps.length cap) W (.slice av ps.length cv) qs → Calls Tryd.prog 5 #[.agg #[.int .i64 gen, .int .i64 next, .int .u64 upto, .slice av ps.length cv]] W fun e w' => e = .returned (.tuple #[.string st2, .int .i64 cd2]) ∧ Below W.heap.size W w') := fun W h => by
          have := hE2 W av cv h.own.sees (HT.out.later h.bel)
          rwa [HQt.out] at this
        have HR2 : Hid (∀ W a c, SeesP W W.heap.size a qs → Calls Tryd.prog 6 #[.agg #[.int .i64 gen, .int .i64 next, .int .u64 upto, .slice a ps.length c]] W fun e w' => e = .returned (.tuple #[.string st2, .int .i64 cd2]) ∧ Below W.heap.size W w') := fun W a c h => by
          have := hR2 W a c h
          rwa [HQt.out] at this
        have HTw2 : Hid (∀ W, GvS w G gen next upto (.slice ao ps.length cap) W (.slice av ps.length cv) qs → Calls Tryd.prog 4 #[.agg #[.int .i64 gen, .int .i64 next, .int .u64 upto, .slice av ps.length cv]] W fun e w' => Below W.heap.size W w' ∧ ∃ a c, e = .returned (.agg #[.int .i64 gen, .int .i64 next, .int .u64 upto, .slice a ps.length c]) ∧ SeesP w' w'.heap.size a qs) := fun W h => by
          obtain ⟨a1, c1, e1, hn1, hs1⟩ := h.own.slice
          have h1 := twin_any W gen next upto av cv qs h.own.sees (fun e => by
            injection e1 with e2 e3 e4
            rw [e4]
            exact hn1 (e2 ▸ e)) (fun ad e => by
            injection e1 with e2 e3 e4
            obtain ⟨b', e5, _⟩ := hs1 ad (e2 ▸ e)
            exact fun _ => ⟨b', 0, e5⟩) (by rw [HQt.out]; exact hl)
          rw [HQt.out] at h1
          refine h1.mono ?_
          rintro e w' ⟨hb, v, he, ho⟩
          obtain ⟨a2, c2, e2, -, -⟩ := ho.slice
          rw [HQt.out] at e2
          subst e2
          exact ⟨hb, a2, c2, he, ho.sees⟩
        clear hE2 hR2
        have g0 : wr.cell? ⟨G, 0, none⟩ = some (.int .i64 gen) := HSt.out.g.cell 0
        have g1 : wr.cell? ⟨G, 1, none⟩ = some (.int .i64 next) := HSt.out.g.cell 1
        have g2 : wr.cell? ⟨G, 2, none⟩ = some (.int .u64 upto) := HSt.out.g.cell 2
        go_wp2_with fail
        refine (HE2.out wr HSt.out).mono ?_
        rintro e w6 ⟨rfl, hb6⟩
        have HS6 : Hid (GvS w G gen next upto (.slice ao ps.length cap) w6 (.slice av ps.length cv) qs) := HSt.out.later hb6
        clear hb6 HE2 HSt g0 g1 g2 g3
        have g0 : w6.cell? ⟨G, 0, none⟩ = some (.int .i64 gen) := HS6.out.g.cell 0
        have g1 : w6.cell? ⟨G, 1, none⟩ = some (.int .i64 next) := HS6.out.g.cell 1
        have g2 : w6.cell? ⟨G, 2, none⟩ = some (.int .u64 upto) := HS6.out.g.cell 2
        have g3 : w6.cell? ⟨G, 3, none⟩ = some (.slice av ps.length cv) := HS6.out.g3
        go_wp2_with fail
        refine (HTw2.out w6 HS6.out).mono ?_
        rintro e w7 ⟨hb7, a7, c7, rfl, hs7⟩
        have HR7 : Hid (∀ _ : Unit, _) := fun _ => HR2.out w7 a7 c7 hs7
        have HB7 : Hid (Below w.heap.size w w7) := HS6.out.bel.trans (hb7.mono HS6.out.bel.size)
        clear hb7 hs7 HTw2 HR2 HS6 g0 g1 g2 g3
        go_wp2_with fail
        refine (HR7.out ()).mono ?_
        rintro e w8 ⟨rfl, hb8⟩
        have HB8 : Hid (Below w.heap.size w w8) := HB7.out.trans (hb8.mono HB7.out.size)
        clear hb8 HR7 HB7
        go_wp2_with fail
        refine (num_any cd2 w8 c20 c21).mono ?_
        rintro e w9 ⟨rfl, rfl⟩
        go_wp2_with fail
        obtain ⟨dg, dn, du, ds, dc, d0, d1, dl, hD, hR⟩ := HDB.out
        have HD : Hid _ := hD
        have HRr : Hid _ := hR
        clear hD hR HDB
        refine (HD.out w9 (HT.out.later HB8.out)).mono ?_
        rintro e wa ⟨hba, va, rfl, hoa⟩
        obtain ⟨aa, ca, rfl, -, -⟩ := hoa.slice
        have HOa : Hid (ownP wa w9.heap.size (.slice aa ds.length ca) ds) := hoa
        have HBa : Hid (Below w.heap.size w wa) := HB8.out.trans (hba.mono HB8.out.size)
        have hl9 := hba.size
        have h9w := HB8.out.size
        have hla : ∀ k, (Value.slice aa ds.length ca).ownBlock = some k → k < wa.heap.size := fun k e => (hoa.own k e).2
        have HLA : Hid _ := hla
        clear hba hoa HB8 hla
        have hya : Below wa.heap.size wa (wa.alloc (.cells #[.int .i64 dg, .int .i64 dn, .int .u64 du, .slice aa ds.length ca] 25)) := (Below.refl _ _).alloc (Nat.le_refl _) _
        have HQa : Hid (Mn4 (wa.alloc (.cells #[.int .i64 dg, .int .i64 dn, .int .u64 du, .slice aa ds.length ca] 25)) wa.heap.size (.int .i64 dg) (.int .i64 dn) (.int .u64 du) (.slice aa ds.length ca)) := heap_alloc_new wa _
        have HOa2 : Hid (ownP (wa.alloc (.cells #[.int .i64 dg, .int .i64 dn, .int .u64 du, .slice aa ds.length ca] 25)) w9.heap.size (.slice aa ds.length ca) ds) := HOa.out.later hya
        have HBa2 : Hid (Below w.heap.size w (wa.alloc (.cells #[.int .i64 dg, .int .i64 dn, .int .u64 du, .slice aa ds.length ca] 25))) := HBa.out.trans (hya.mono HBa.out.size)
        clear hya HOa HBa
        go_wp2_with fail
        generalize hy : (wa.alloc (.cells #[.int .i64 dg, .int .i64 dn, .int .u64 du, .slice aa ds.length ca] 25)) = ya at *
        generalize hQ1 : wa.heap.size = Q1 at *
        clear hy hQ1
        refine (HD.out ya (HT.out.later HBa2.out)).mono ?_
        rintro e wb ⟨hbb, vb, rfl, hob⟩
        obtain ⟨ab, cb, rfl, -, -⟩ := hob.slice
        have hqy := HQa.out.lt
        have HQb : Hid (Mn4 wb Q1 (.int .i64 dg) (.int .i64 dn) (.int .u64 du) (.slice aa ds.length ca)) := HQa.out.later hbb hqy
        have HOa3 : Hid (ownP wb w9.heap.size (.slice aa ds.length ca) ds) := HOa2.out.later hbb
        have HOb : Hid (ownP wb ya.heap.size (.slice ab ds.length cb) ds) := hob
        have HBb : Hid (Below w.heap.size w wb) := HBa2.out.trans (hbb.mono HBa2.out.size)
        have hyb := hbb.size
        have hal : Below wb.heap.size wb (wb.alloc (.cells #[.int .i64 dg, .int .i64 dn, .int .u64 du, .slice ab ds.length cb] 25)) := (Below.refl _ _).alloc (Nat.le_refl _) _
        have HQb2 : Hid (Mn4 (wb.alloc (.cells #[.int .i64 dg, .int .i64 dn, .int .u64 du, .slice ab ds.length cb] 25)) Q1 (.int .i64 dg) (.int .i64 dn) (.int .u64 du) (.slice aa ds.length ca)) := HQb.out.later hal HQb.out.lt
        have HQ2b : Hid (Mn4 (wb.alloc (.cells #[.int .i64 dg, .int .i64 dn, .int .u64 du, .slice ab ds.length cb] 25)) wb.heap.size (.int .i64 dg) (.int .i64 dn) (.int .u64 du) (.slice ab ds.length cb)) := heap_alloc_new wb _
        have HOa4 : Hid (ownP (wb.alloc (.cells #[.int .i64 dg, .int .i64 dn, .int .u64 du, .slice ab ds.length cb] 25)) w9.heap.size (.slice aa ds.length ca) ds) := HOa3.out.later hal
        have HOb2 : Hid (ownP (wb.alloc (.cells #[.int .i64 dg, .int .i64 dn, .int .u64 du, .slice ab ds.length cb] 25)) ya.heap.size (.slice ab ds.length cb) ds) := HOb.out.later hal
        have HBb2 : Hid (Below w.heap.size w (wb.alloc (.cells #[.int .i64 dg, .int .i64 dn, .int .u64 du, .slice ab ds.length cb] 25))) := HBb.out.trans (hal.mono HBb.out.size)
        clear hbb hob HQa HOa2 HBa2 HQb HOa3 HOb HBb hal
        go_wp2_with fail
        generalize hy : (wb.alloc (.cells #[.int .i64 dg, .int .i64 dn, .int .u64 du, .slice ab ds.length cb] 25)) = yb at *
        generalize hQ2 : wb.heap.size = Q2 at *
        clear hy hQ2
        refine (HRr.out yb).mono ?_
        rintro e wc ⟨hbc, vc, rfl, hoc⟩
        obtain ⟨ac, cc, rfl, -, -⟩ := hoc.slice
        have hq2y := HQ2b.out.lt
        have hwc := hbc.size
        have HDS : Hid (DsS w (wc.alloc (.cells #[.int .i64 dg, .int .i64 dn, .int .u64 du, .slice ac ds.length cc] 25)) Q1 Q2 wc.heap.size (Q1 + 1) dg dn du (.slice aa ds.length ca) (.slice ab ds.length cb) (.slice ac ds.length cc) ds) := by
          have hal : Below wc.heap.size wc (wc.alloc (.cells #[.int .i64 dg, .int .i64 dn, .int .u64 du, .slice ac ds.length cc] 25)) := (Below.refl _ _).alloc (Nat.le_refl _) _
          exact ⟨(HQb2.out.later hbc HQb2.out.lt).later hal (by omega), (HQ2b.out.later hbc hq2y).later hal (by omega), heap_alloc_new wc _, ((HOa4.out.later hbc).later hal).mono h9w, (HBb2.out.trans (hbc.mono HBb2.out.size)).trans (hal.mono (Nat.le_trans HBb2.out.size hbc.size)), ((HOb2.out.later hbc).later hal).mono (by omega), (hoc.later hal).mono (by omega), fun k e => by have := HLA.out k e; omega, by omega, by omega⟩
        clear hbc hoc HQb2 HQ2b HOa4 HOb2 HBb2 HLA HD HRr
        go_wp2_with fail
        generalize hy : (wc.alloc (.cells #[.int .i64 dg, .int .i64 dn, .int .u64 du, .slice ac ds.length cc] 25)) = yc at *
        generalize hR1 : wc.heap.size = R1 at *
        clear hy hR1
        refine (num_any dc yc d0 d1).mono ?_
        rintro e yd ⟨rfl, rfl⟩
        have HSm : Hid (∀ W a c a' c', SeesP W W.heap.size a ds → SeesP W W.heap.size a' ds → Calls Tryd.prog 8 #[.agg #[.int .i64 dg, .int .i64 dn, .int .u64 du, .slice a ds.length c], .agg #[.int .i64 dg, .int .i64 dn, .int .u64 du, .slice a' ds.length c']] W fun e w' => e = .returned (.bool true) ∧ Below W.heap.size W w') := fun W a c a' c' h1 h2 => same_eq W dg dn du a a' c c' ds h1 h2 (by omega)
        have j0 : yd.cell? ⟨Q1, 0, none⟩ = some (.int .i64 dg) := HDS.out.q.cell 0
        have j1 : yd.cell? ⟨Q1, 1, none⟩ = some (.int .i64 dn) := HDS.out.q.cell 1
        have j2 : yd.cell? ⟨Q1, 2, none⟩ = some (.int .u64 du) := HDS.out.q.cell 2
        have j3 : yd.cell? ⟨Q1, 3, none⟩ = some (.slice aa ds.length ca) := HDS.out.q.cell 3
        have k0 : yd.cell? ⟨Q2, 0, none⟩ = some (.int .i64 dg) := HDS.out.q2.cell 0
        have k1 : yd.cell? ⟨Q2, 1, none⟩ = some (.int .i64 dn) := HDS.out.q2.cell 1
        have k2 : yd.cell? ⟨Q2, 2, none⟩ = some (.int .u64 du) := HDS.out.q2.cell 2
        have k3 : yd.cell? ⟨Q2, 3, none⟩ = some (.slice ab ds.length cb) := HDS.out.q2.cell 3
        have m0 : yd.cell? ⟨R1, 0, none⟩ = some (.int .i64 dg) := HDS.out.r.cell 0
        have m1 : yd.cell? ⟨R1, 1, none⟩ = some (.int .i64 dn) := HDS.out.r.cell 1
        have m2 : yd.cell? ⟨R1, 2, none⟩ = some (.int .u64 du) := HDS.out.r.cell 2
        have m3 : yd.cell? ⟨R1, 3, none⟩ = some (.slice ac ds.length cc) := HDS.out.r.cell 3
        go_wp2_with fail
        refine (HSm.out yd _ _ _ _ HDS.out.oa.sees HDS.out.oc.sees).mono ?_
        rintro e we ⟨rfl, hbe⟩
        have HDS2 : Hid _ := HDS.out.later hbe
        clear hbe HDS j0 j1 j2 j3 k0 k1 k2 k3 m0 m1 m2 m3
        have j0 : we.cell? ⟨Q1, 0, none⟩ = some (.int .i64 dg) := HDS2.out.q.cell 0
        have j1 : we.cell? ⟨Q1, 1, none⟩ = some (.int .i64 dn) := HDS2.out.q.cell 1
        have j2 : we.cell? ⟨Q1, 2, none⟩ = some (.int .u64 du) := HDS2.out.q.cell 2
        have j3 : we.cell? ⟨Q1, 3, none⟩ = some (.slice aa ds.length ca) := HDS2.out.q.cell 3
        have k0 : we.cell? ⟨Q2, 0, none⟩ = some (.int .i64 dg) := HDS2.out.q2.cell 0
        have k1 : we.cell? ⟨Q2, 1, none⟩ = some (.int .i64 dn) := HDS2.out.q2.cell 1
        have k2 : we.cell? ⟨Q2, 2, none⟩ = some (.int .u64 du) := HDS2.out.q2.cell 2
        have k3 : we.cell? ⟨Q2, 3, none⟩ = some (.slice ab ds.length cb) := HDS2.out.q2.cell 3
        have m0 : we.cell? ⟨R1, 0, none⟩ = some (.int .i64 dg) := HDS2.out.r.cell 0
        have m1 : we.cell? ⟨R1, 1, none⟩ = some (.int .i64 dn) := HDS2.out.r.cell 1
        have m2 : we.cell? ⟨R1, 2, none⟩ = some (.int .u64 du) := HDS2.out.r.cell 2
        have m3 : we.cell? ⟨R1, 3, none⟩ = some (.slice ac ds.length cc) := HDS2.out.r.cell 3
        go_wp2_with fail
        refine (HSm.out we _ _ _ _ HDS2.out.ob.sees HDS2.out.oc.sees).mono ?_
        rintro e wf ⟨rfl, hbf⟩
        have HDS3 : Hid _ := HDS2.out.later hbf
        clear hbf HDS2 j0 j1 j2 j3 k0 k1 k2 k3 m0 m1 m2 m3
        have j0 : wf.cell? ⟨Q1, 0, none⟩ = some (.int .i64 dg) := HDS3.out.q.cell 0
        have j1 : wf.cell? ⟨Q1, 1, none⟩ = some (.int .i64 dn) := HDS3.out.q.cell 1
        have j2 : wf.cell? ⟨Q1, 2, none⟩ = some (.int .u64 du) := HDS3.out.q.cell 2
        have j3 : wf.cell? ⟨Q1, 3, none⟩ = some (.slice aa ds.length ca) := HDS3.out.q.cell 3
        have k0 : wf.cell? ⟨Q2, 0, none⟩ = some (.int .i64 dg) := HDS3.out.q2.cell 0
        have k1 : wf.cell? ⟨Q2, 1, none⟩ = some (.int .i64 dn) := HDS3.out.q2.cell 1
        have k2 : wf.cell? ⟨Q2, 2, none⟩ = some (.int .u64 du) := HDS3.out.q2.cell 2
        have k3 : wf.cell? ⟨Q2, 3, none⟩ = some (.slice ab ds.length cb) := HDS3.out.q2.cell 3
        have m0 : wf.cell? ⟨R1, 0, none⟩ = some (.int .i64 dg) := HDS3.out.r.cell 0
        have m1 : wf.cell? ⟨R1, 1, none⟩ = some (.int .i64 dn) := HDS3.out.r.cell 1
        have m2 : wf.cell? ⟨R1, 2, none⟩ = some (.int .u64 du) := HDS3.out.r.cell 2
        have m3 : wf.cell? ⟨R1, 3, none⟩ = some (.slice ac ds.length cc) := HDS3.out.r.cell 3
        go_wp2_with fail
        refine (named_any wf dg dn du (.slice aa ds.length ca) ds w.heap.size HDS3.out.oa HDS3.out.bel.size dl).mono ?_
        rintro e wg ⟨rfl, hsg, hkg⟩
        have HBG : Hid (Below w.heap.size w wg) := HDS3.out.bel.trans hsg
        have hng := HDS3.out.named hkg
        have HNG : Hid _ := hng
        clear hng hkg hsg j0 j1 j2 j3 k0 k1 k2 k3 m0 m1 m2 m3
        have k0 : wg.cell? ⟨Q2, 0, none⟩ = some (.int .i64 dg) := HNG.out.1.cell 0
        have k1 : wg.cell? ⟨Q2, 1, none⟩ = some (.int .i64 dn) := HNG.out.1.cell 1
        have k2 : wg.cell? ⟨Q2, 2, none⟩ = some (.int .u64 du) := HNG.out.1.cell 2
        have k3 : wg.cell? ⟨Q2, 3, none⟩ = some (.slice ab ds.length cb) := HNG.out.1.cell 3
        have m0 : wg.cell? ⟨R1, 0, none⟩ = some (.int .i64 dg) := HNG.out.2.1.cell 0
        have m1 : wg.cell? ⟨R1, 1, none⟩ = some (.int .i64 dn) := HNG.out.2.1.cell 1
        have m2 : wg.cell? ⟨R1, 2, none⟩ = some (.int .u64 du) := HNG.out.2.1.cell 2
        have m3 : wg.cell? ⟨R1, 3, none⟩ = some (.slice ac ds.length cc) := HNG.out.2.1.cell 3
        go_wp2_with fail
        refine (HSm.out wg _ _ _ _ HNG.out.2.2.1.sees HNG.out.2.2.2.sees).mono ?_
        rintro e wh ⟨rfl, hbh⟩
        have HBH : Hid (Below w.heap.size w wh) := HBG.out.trans (hbh.mono HBG.out.size)
        clear hbh k0 k1 k2 k3 m0 m1 m2 m3
        go_wp2
        go_ret
        exact ⟨rfl, HBH.out⟩

      · have hn0 : decide ((0 : Int) < (ps.length : Int)) = true := decide_eq_true (by omega)
        have hkl : 0 < ps.length := by omega
        have hkk : (0 : Int) < (ps.length : Int) := by omega
        obtain ⟨gr, e, hge, hgr, hat, hfz⟩ := HSk.out.own.at 0 (by rw [HQ.out]; exact hkl)
        subst e
        have HX : Hid (qs[0]'(by rw [HQ.out]; exact hkl)).wf := HQW.out _ (List.getElem_mem _)
        obtain ⟨p0, p1, p2, p3, p4, p5, p6, p7⟩ := hat
        generalize qs[0]'(by rw [HQ.out]; exact hkl) = x at *
        have z6 := hfz 6
        have p6' : wr.cell? ⟨gr, 6, none⟩ = some (.int .u32 x.ds) := by simpa using p6
        have HSt : Hid (GvS w G gen next upto (.slice ao ps.length cap) (wr.setCell ⟨gr, 6, none⟩ (.int .u32 ((x.ds + 1) % 4294967296))) (.slice (some ⟨gr, 0, none⟩) ps.length cv) (bump qs ((x.ds + 1) % 4294967296))) := HSk.out.bump HQ.out hkl _
        have HQt : Hid ((bump qs ((x.ds + 1) % 4294967296)).length = ps.length) := (bump_len _ _).trans HQ.out
        have HWt : Hid (∀ p ∈ bump qs ((x.ds + 1) % 4294967296), p.wf) := bump_wf HQW.out (by omega) (by omega)
        have hgG : G ≠ gr := fun e => HSk.out.ne gr rfl e.symm
        have g0 : wr.cell? ⟨G, 0, none⟩ = some (.int .i64 gen) := HSk.out.g.cell 0
        have g1 : wr.cell? ⟨G, 1, none⟩ = some (.int .i64 next) := HSk.out.g.cell 1
        have g2 : wr.cell? ⟨G, 2, none⟩ = some (.int .u64 upto) := HSk.out.g.cell 2
        clear hfz p0 p1 p2 p3 p4 p5 p6 p7 HX HSk HQ HQW
        go_wp2_with fail
        generalize hWW : wr.setCell ⟨gr, 6, none⟩ (.int .u32 ((x.ds + 1) % 4294967296)) = WW at *
        generalize bump qs ((x.ds + 1) % 4294967296) = QS at *
        clear hWW p6' z6 hgG g0 g1 g2 g3
        have g3 := HSt.out.g3
        have HDB : Hid _ := dec_both b hs
        obtain ⟨st2, cd2, c20, c21, hE2, hR2⟩ := enc_both gen next upto QS HWt.out hu
        have HE2 : Hid (∀ W, GvS w G gen next upto (.slice ao ps.length cap) W (.slice (some ⟨gr, 0, none⟩) ps.length cv) QS → Calls Tryd.prog 5 #[.agg #[.int .i64 gen, .int .i64 next, .int .u64 upto, .slice (some ⟨gr, 0, none⟩) ps.length cv]] W fun e w' => e = .returned (.tuple #[.string st2, .int .i64 cd2]) ∧ Below W.heap.size W w') := fun W h => by
          have := hE2 W (some ⟨gr, 0, none⟩) cv h.own.sees (HT.out.later h.bel)
          rwa [HQt.out] at this
        have HR2 : Hid (∀ W a c, SeesP W W.heap.size a QS → Calls Tryd.prog 6 #[.agg #[.int .i64 gen, .int .i64 next, .int .u64 upto, .slice a ps.length c]] W fun e w' => e = .returned (.tuple #[.string st2, .int .i64 cd2]) ∧ Below W.heap.size W w') := fun W a c h => by
          have := hR2 W a c h
          rwa [HQt.out] at this
        have HTw2 : Hid (∀ W, GvS w G gen next upto (.slice ao ps.length cap) W (.slice (some ⟨gr, 0, none⟩) ps.length cv) QS → Calls Tryd.prog 4 #[.agg #[.int .i64 gen, .int .i64 next, .int .u64 upto, .slice (some ⟨gr, 0, none⟩) ps.length cv]] W fun e w' => Below W.heap.size W w' ∧ ∃ a c, e = .returned (.agg #[.int .i64 gen, .int .i64 next, .int .u64 upto, .slice a ps.length c]) ∧ SeesP w' w'.heap.size a QS) := fun W h => by
          obtain ⟨a1, c1, e1, hn1, hs1⟩ := h.own.slice
          have h1 := twin_any W gen next upto (some ⟨gr, 0, none⟩) cv QS h.own.sees (fun e => by
            injection e1 with e2 e3 e4
            rw [e4]
            exact hn1 (e2 ▸ e)) (fun ad e => by
            injection e1 with e2 e3 e4
            obtain ⟨b', e5, _⟩ := hs1 ad (e2 ▸ e)
            exact fun _ => ⟨b', 0, e5⟩) (by rw [HQt.out]; exact hl)
          rw [HQt.out] at h1
          refine h1.mono ?_
          rintro e w' ⟨hb, v, he, ho⟩
          obtain ⟨a2, c2, e2, -, -⟩ := ho.slice
          rw [HQt.out] at e2
          subst e2
          exact ⟨hb, a2, c2, he, ho.sees⟩
        clear hE2 hR2
        have g0 : WW.cell? ⟨G, 0, none⟩ = some (.int .i64 gen) := HSt.out.g.cell 0
        have g1 : WW.cell? ⟨G, 1, none⟩ = some (.int .i64 next) := HSt.out.g.cell 1
        have g2 : WW.cell? ⟨G, 2, none⟩ = some (.int .u64 upto) := HSt.out.g.cell 2
        go_wp2_with fail
        refine (HE2.out WW HSt.out).mono ?_
        rintro e w6 ⟨rfl, hb6⟩
        have HS6 : Hid (GvS w G gen next upto (.slice ao ps.length cap) w6 (.slice (some ⟨gr, 0, none⟩) ps.length cv) QS) := HSt.out.later hb6
        clear hb6 HE2 HSt g0 g1 g2 g3
        have g0 : w6.cell? ⟨G, 0, none⟩ = some (.int .i64 gen) := HS6.out.g.cell 0
        have g1 : w6.cell? ⟨G, 1, none⟩ = some (.int .i64 next) := HS6.out.g.cell 1
        have g2 : w6.cell? ⟨G, 2, none⟩ = some (.int .u64 upto) := HS6.out.g.cell 2
        have g3 : w6.cell? ⟨G, 3, none⟩ = some (.slice (some ⟨gr, 0, none⟩) ps.length cv) := HS6.out.g3
        go_wp2_with fail
        refine (HTw2.out w6 HS6.out).mono ?_
        rintro e w7 ⟨hb7, a7, c7, rfl, hs7⟩
        have HR7 : Hid (∀ _ : Unit, _) := fun _ => HR2.out w7 a7 c7 hs7
        have HB7 : Hid (Below w.heap.size w w7) := HS6.out.bel.trans (hb7.mono HS6.out.bel.size)
        clear hb7 hs7 HTw2 HR2 HS6 g0 g1 g2 g3
        go_wp2_with fail
        refine (HR7.out ()).mono ?_
        rintro e w8 ⟨rfl, hb8⟩
        have HB8 : Hid (Below w.heap.size w w8) := HB7.out.trans (hb8.mono HB7.out.size)
        clear hb8 HR7 HB7
        go_wp2_with fail
        refine (num_any cd2 w8 c20 c21).mono ?_
        rintro e w9 ⟨rfl, rfl⟩
        go_wp2_with fail
        obtain ⟨dg, dn, du, ds, dc, d0, d1, dl, hD, hR⟩ := HDB.out
        have HD : Hid _ := hD
        have HRr : Hid _ := hR
        clear hD hR HDB
        refine (HD.out w9 (HT.out.later HB8.out)).mono ?_
        rintro e wa ⟨hba, va, rfl, hoa⟩
        obtain ⟨aa, ca, rfl, -, -⟩ := hoa.slice
        have HOa : Hid (ownP wa w9.heap.size (.slice aa ds.length ca) ds) := hoa
        have HBa : Hid (Below w.heap.size w wa) := HB8.out.trans (hba.mono HB8.out.size)
        have hl9 := hba.size
        have h9w := HB8.out.size
        have hla : ∀ k, (Value.slice aa ds.length ca).ownBlock = some k → k < wa.heap.size := fun k e => (hoa.own k e).2
        have HLA : Hid _ := hla
        clear hba hoa HB8 hla
        have hya : Below wa.heap.size wa (wa.alloc (.cells #[.int .i64 dg, .int .i64 dn, .int .u64 du, .slice aa ds.length ca] 25)) := (Below.refl _ _).alloc (Nat.le_refl _) _
        have HQa : Hid (Mn4 (wa.alloc (.cells #[.int .i64 dg, .int .i64 dn, .int .u64 du, .slice aa ds.length ca] 25)) wa.heap.size (.int .i64 dg) (.int .i64 dn) (.int .u64 du) (.slice aa ds.length ca)) := heap_alloc_new wa _
        have HOa2 : Hid (ownP (wa.alloc (.cells #[.int .i64 dg, .int .i64 dn, .int .u64 du, .slice aa ds.length ca] 25)) w9.heap.size (.slice aa ds.length ca) ds) := HOa.out.later hya
        have HBa2 : Hid (Below w.heap.size w (wa.alloc (.cells #[.int .i64 dg, .int .i64 dn, .int .u64 du, .slice aa ds.length ca] 25))) := HBa.out.trans (hya.mono HBa.out.size)
        clear hya HOa HBa
        go_wp2_with fail
        generalize hy : (wa.alloc (.cells #[.int .i64 dg, .int .i64 dn, .int .u64 du, .slice aa ds.length ca] 25)) = ya at *
        generalize hQ1 : wa.heap.size = Q1 at *
        clear hy hQ1
        refine (HD.out ya (HT.out.later HBa2.out)).mono ?_
        rintro e wb ⟨hbb, vb, rfl, hob⟩
        obtain ⟨ab, cb, rfl, -, -⟩ := hob.slice
        have hqy := HQa.out.lt
        have HQb : Hid (Mn4 wb Q1 (.int .i64 dg) (.int .i64 dn) (.int .u64 du) (.slice aa ds.length ca)) := HQa.out.later hbb hqy
        have HOa3 : Hid (ownP wb w9.heap.size (.slice aa ds.length ca) ds) := HOa2.out.later hbb
        have HOb : Hid (ownP wb ya.heap.size (.slice ab ds.length cb) ds) := hob
        have HBb : Hid (Below w.heap.size w wb) := HBa2.out.trans (hbb.mono HBa2.out.size)
        have hyb := hbb.size
        have hal : Below wb.heap.size wb (wb.alloc (.cells #[.int .i64 dg, .int .i64 dn, .int .u64 du, .slice ab ds.length cb] 25)) := (Below.refl _ _).alloc (Nat.le_refl _) _
        have HQb2 : Hid (Mn4 (wb.alloc (.cells #[.int .i64 dg, .int .i64 dn, .int .u64 du, .slice ab ds.length cb] 25)) Q1 (.int .i64 dg) (.int .i64 dn) (.int .u64 du) (.slice aa ds.length ca)) := HQb.out.later hal HQb.out.lt
        have HQ2b : Hid (Mn4 (wb.alloc (.cells #[.int .i64 dg, .int .i64 dn, .int .u64 du, .slice ab ds.length cb] 25)) wb.heap.size (.int .i64 dg) (.int .i64 dn) (.int .u64 du) (.slice ab ds.length cb)) := heap_alloc_new wb _
        have HOa4 : Hid (ownP (wb.alloc (.cells #[.int .i64 dg, .int .i64 dn, .int .u64 du, .slice ab ds.length cb] 25)) w9.heap.size (.slice aa ds.length ca) ds) := HOa3.out.later hal
        have HOb2 : Hid (ownP (wb.alloc (.cells #[.int .i64 dg, .int .i64 dn, .int .u64 du, .slice ab ds.length cb] 25)) ya.heap.size (.slice ab ds.length cb) ds) := HOb.out.later hal
        have HBb2 : Hid (Below w.heap.size w (wb.alloc (.cells #[.int .i64 dg, .int .i64 dn, .int .u64 du, .slice ab ds.length cb] 25))) := HBb.out.trans (hal.mono HBb.out.size)
        clear hbb hob HQa HOa2 HBa2 HQb HOa3 HOb HBb hal
        go_wp2_with fail
        generalize hy : (wb.alloc (.cells #[.int .i64 dg, .int .i64 dn, .int .u64 du, .slice ab ds.length cb] 25)) = yb at *
        generalize hQ2 : wb.heap.size = Q2 at *
        clear hy hQ2
        refine (HRr.out yb).mono ?_
        rintro e wc ⟨hbc, vc, rfl, hoc⟩
        obtain ⟨ac, cc, rfl, -, -⟩ := hoc.slice
        have hq2y := HQ2b.out.lt
        have hwc := hbc.size
        have HDS : Hid (DsS w (wc.alloc (.cells #[.int .i64 dg, .int .i64 dn, .int .u64 du, .slice ac ds.length cc] 25)) Q1 Q2 wc.heap.size (Q1 + 1) dg dn du (.slice aa ds.length ca) (.slice ab ds.length cb) (.slice ac ds.length cc) ds) := by
          have hal : Below wc.heap.size wc (wc.alloc (.cells #[.int .i64 dg, .int .i64 dn, .int .u64 du, .slice ac ds.length cc] 25)) := (Below.refl _ _).alloc (Nat.le_refl _) _
          exact ⟨(HQb2.out.later hbc HQb2.out.lt).later hal (by omega), (HQ2b.out.later hbc hq2y).later hal (by omega), heap_alloc_new wc _, ((HOa4.out.later hbc).later hal).mono h9w, (HBb2.out.trans (hbc.mono HBb2.out.size)).trans (hal.mono (Nat.le_trans HBb2.out.size hbc.size)), ((HOb2.out.later hbc).later hal).mono (by omega), (hoc.later hal).mono (by omega), fun k e => by have := HLA.out k e; omega, by omega, by omega⟩
        clear hbc hoc HQb2 HQ2b HOa4 HOb2 HBb2 HLA HD HRr
        go_wp2_with fail
        generalize hy : (wc.alloc (.cells #[.int .i64 dg, .int .i64 dn, .int .u64 du, .slice ac ds.length cc] 25)) = yc at *
        generalize hR1 : wc.heap.size = R1 at *
        clear hy hR1
        refine (num_any dc yc d0 d1).mono ?_
        rintro e yd ⟨rfl, rfl⟩
        have HSm : Hid (∀ W a c a' c', SeesP W W.heap.size a ds → SeesP W W.heap.size a' ds → Calls Tryd.prog 8 #[.agg #[.int .i64 dg, .int .i64 dn, .int .u64 du, .slice a ds.length c], .agg #[.int .i64 dg, .int .i64 dn, .int .u64 du, .slice a' ds.length c']] W fun e w' => e = .returned (.bool true) ∧ Below W.heap.size W w') := fun W a c a' c' h1 h2 => same_eq W dg dn du a a' c c' ds h1 h2 (by omega)
        have j0 : yd.cell? ⟨Q1, 0, none⟩ = some (.int .i64 dg) := HDS.out.q.cell 0
        have j1 : yd.cell? ⟨Q1, 1, none⟩ = some (.int .i64 dn) := HDS.out.q.cell 1
        have j2 : yd.cell? ⟨Q1, 2, none⟩ = some (.int .u64 du) := HDS.out.q.cell 2
        have j3 : yd.cell? ⟨Q1, 3, none⟩ = some (.slice aa ds.length ca) := HDS.out.q.cell 3
        have k0 : yd.cell? ⟨Q2, 0, none⟩ = some (.int .i64 dg) := HDS.out.q2.cell 0
        have k1 : yd.cell? ⟨Q2, 1, none⟩ = some (.int .i64 dn) := HDS.out.q2.cell 1
        have k2 : yd.cell? ⟨Q2, 2, none⟩ = some (.int .u64 du) := HDS.out.q2.cell 2
        have k3 : yd.cell? ⟨Q2, 3, none⟩ = some (.slice ab ds.length cb) := HDS.out.q2.cell 3
        have m0 : yd.cell? ⟨R1, 0, none⟩ = some (.int .i64 dg) := HDS.out.r.cell 0
        have m1 : yd.cell? ⟨R1, 1, none⟩ = some (.int .i64 dn) := HDS.out.r.cell 1
        have m2 : yd.cell? ⟨R1, 2, none⟩ = some (.int .u64 du) := HDS.out.r.cell 2
        have m3 : yd.cell? ⟨R1, 3, none⟩ = some (.slice ac ds.length cc) := HDS.out.r.cell 3
        go_wp2_with fail
        refine (HSm.out yd _ _ _ _ HDS.out.oa.sees HDS.out.oc.sees).mono ?_
        rintro e we ⟨rfl, hbe⟩
        have HDS2 : Hid _ := HDS.out.later hbe
        clear hbe HDS j0 j1 j2 j3 k0 k1 k2 k3 m0 m1 m2 m3
        have j0 : we.cell? ⟨Q1, 0, none⟩ = some (.int .i64 dg) := HDS2.out.q.cell 0
        have j1 : we.cell? ⟨Q1, 1, none⟩ = some (.int .i64 dn) := HDS2.out.q.cell 1
        have j2 : we.cell? ⟨Q1, 2, none⟩ = some (.int .u64 du) := HDS2.out.q.cell 2
        have j3 : we.cell? ⟨Q1, 3, none⟩ = some (.slice aa ds.length ca) := HDS2.out.q.cell 3
        have k0 : we.cell? ⟨Q2, 0, none⟩ = some (.int .i64 dg) := HDS2.out.q2.cell 0
        have k1 : we.cell? ⟨Q2, 1, none⟩ = some (.int .i64 dn) := HDS2.out.q2.cell 1
        have k2 : we.cell? ⟨Q2, 2, none⟩ = some (.int .u64 du) := HDS2.out.q2.cell 2
        have k3 : we.cell? ⟨Q2, 3, none⟩ = some (.slice ab ds.length cb) := HDS2.out.q2.cell 3
        have m0 : we.cell? ⟨R1, 0, none⟩ = some (.int .i64 dg) := HDS2.out.r.cell 0
        have m1 : we.cell? ⟨R1, 1, none⟩ = some (.int .i64 dn) := HDS2.out.r.cell 1
        have m2 : we.cell? ⟨R1, 2, none⟩ = some (.int .u64 du) := HDS2.out.r.cell 2
        have m3 : we.cell? ⟨R1, 3, none⟩ = some (.slice ac ds.length cc) := HDS2.out.r.cell 3
        go_wp2_with fail
        refine (HSm.out we _ _ _ _ HDS2.out.ob.sees HDS2.out.oc.sees).mono ?_
        rintro e wf ⟨rfl, hbf⟩
        have HDS3 : Hid _ := HDS2.out.later hbf
        clear hbf HDS2 j0 j1 j2 j3 k0 k1 k2 k3 m0 m1 m2 m3
        have j0 : wf.cell? ⟨Q1, 0, none⟩ = some (.int .i64 dg) := HDS3.out.q.cell 0
        have j1 : wf.cell? ⟨Q1, 1, none⟩ = some (.int .i64 dn) := HDS3.out.q.cell 1
        have j2 : wf.cell? ⟨Q1, 2, none⟩ = some (.int .u64 du) := HDS3.out.q.cell 2
        have j3 : wf.cell? ⟨Q1, 3, none⟩ = some (.slice aa ds.length ca) := HDS3.out.q.cell 3
        have k0 : wf.cell? ⟨Q2, 0, none⟩ = some (.int .i64 dg) := HDS3.out.q2.cell 0
        have k1 : wf.cell? ⟨Q2, 1, none⟩ = some (.int .i64 dn) := HDS3.out.q2.cell 1
        have k2 : wf.cell? ⟨Q2, 2, none⟩ = some (.int .u64 du) := HDS3.out.q2.cell 2
        have k3 : wf.cell? ⟨Q2, 3, none⟩ = some (.slice ab ds.length cb) := HDS3.out.q2.cell 3
        have m0 : wf.cell? ⟨R1, 0, none⟩ = some (.int .i64 dg) := HDS3.out.r.cell 0
        have m1 : wf.cell? ⟨R1, 1, none⟩ = some (.int .i64 dn) := HDS3.out.r.cell 1
        have m2 : wf.cell? ⟨R1, 2, none⟩ = some (.int .u64 du) := HDS3.out.r.cell 2
        have m3 : wf.cell? ⟨R1, 3, none⟩ = some (.slice ac ds.length cc) := HDS3.out.r.cell 3
        go_wp2_with fail
        refine (named_any wf dg dn du (.slice aa ds.length ca) ds w.heap.size HDS3.out.oa HDS3.out.bel.size dl).mono ?_
        rintro e wg ⟨rfl, hsg, hkg⟩
        have HBG : Hid (Below w.heap.size w wg) := HDS3.out.bel.trans hsg
        have hng := HDS3.out.named hkg
        have HNG : Hid _ := hng
        clear hng hkg hsg j0 j1 j2 j3 k0 k1 k2 k3 m0 m1 m2 m3
        have k0 : wg.cell? ⟨Q2, 0, none⟩ = some (.int .i64 dg) := HNG.out.1.cell 0
        have k1 : wg.cell? ⟨Q2, 1, none⟩ = some (.int .i64 dn) := HNG.out.1.cell 1
        have k2 : wg.cell? ⟨Q2, 2, none⟩ = some (.int .u64 du) := HNG.out.1.cell 2
        have k3 : wg.cell? ⟨Q2, 3, none⟩ = some (.slice ab ds.length cb) := HNG.out.1.cell 3
        have m0 : wg.cell? ⟨R1, 0, none⟩ = some (.int .i64 dg) := HNG.out.2.1.cell 0
        have m1 : wg.cell? ⟨R1, 1, none⟩ = some (.int .i64 dn) := HNG.out.2.1.cell 1
        have m2 : wg.cell? ⟨R1, 2, none⟩ = some (.int .u64 du) := HNG.out.2.1.cell 2
        have m3 : wg.cell? ⟨R1, 3, none⟩ = some (.slice ac ds.length cc) := HNG.out.2.1.cell 3
        go_wp2_with fail
        refine (HSm.out wg _ _ _ _ HNG.out.2.2.1.sees HNG.out.2.2.2.sees).mono ?_
        rintro e wh ⟨rfl, hbh⟩
        have HBH : Hid (Below w.heap.size w wh) := HBG.out.trans (hbh.mono HBG.out.size)
        clear hbh k0 k1 k2 k3 m0 m1 m2 m3
        go_wp2
        go_ret
        exact ⟨rfl, HBH.out⟩
theorem manifest_open (g n u : Int) (a : Option Addr) (len cap : Nat) (b : ByteArray) (W : World) (hu : 0 ≤ u) (hn : a = none → len = 0 ∧ cap = 0) (vs : List PN) (hv : vs.length = len) (hs : SeesP W W.heap.size a vs) (hsp : ∀ ad, a = some ad → vs ≠ [] → ∃ b off, ad = ⟨b, off, none⟩) (hw : ∀ v ∈ vs, v.wf) (room : len * 56 ≤ reachBytes) (hb : b.size ≤ 140737488351232) (hT : HalfAt W) :
    Calls Tryd.prog 3 #[.agg #[.int .i64 g, .int .i64 n, .int .u64 u, .slice a len cap], .string b] W fun e w' => e = .returned (.bool true) ∧ Below W.heap.size W w' := by
  unfold reachBytes at room
  subst hv
  exact manifest_walk W g n u a cap vs b hs (fun e => ⟨List.length_eq_zero_iff.1 (hn e).1, (hn e).2⟩) hsp hw hu (by omega) (by omega) hT
end Go.Proofs.YtjceellpmopnkaaDoor
