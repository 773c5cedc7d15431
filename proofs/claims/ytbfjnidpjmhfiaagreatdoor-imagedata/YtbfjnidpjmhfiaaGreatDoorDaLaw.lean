import Derived.Test.YtbfjnidpjmhfiaaGreatDoorOpenD
import Derived.Test.YtbfjnidpjmhfiaaGreatDoorDa15
namespace Go.Proofs.YtbfjnidpjmhfiaaGreatDoor
open Go.ChangeShapes Go.WideShapes Go.ChangeAt Go.RowKit Go.Maps
set_option linter.unusedVariables false
set_option maxRecDepth 100000
/-- What stands in the law: the pair that came in, and the given one in the block G, with lists of its own. -/
structure GvA (w : World) (G : Nat) (id lo hi gen : Int) (mv mu : Value) (W : World) (v u : Value) (ds : List DT) (es : List ER) : Prop where
  bel : Below w.heap.size w W
  m : Fp6 W w.heap.size (.int .i64 id) (.int .u64 lo) (.int .u64 hi) mv (.int .i64 gen) mu
  g : Fp6 W G (.int .i64 id) (.int .u64 lo) (.int .u64 hi) v (.int .i64 gen) u
  od : ownT W (w.heap.size + 1) v ds
  oe : ownE W (w.heap.size + 1) u es
  r1 : w.heap.size < G
  nv : ∀ k, v.ownBlock = some k → k ≠ G
  nu : ∀ k, u.ownBlock = some k → k ≠ G
theorem GvA.later {w : World} {G : Nat} {id lo hi gen : Int} {mv mu : Value} {W W' : World} {v u : Value} {ds : List DT} {es : List ER} (h : GvA w G id lo hi gen mv mu W v u ds es) (hb : Below W.heap.size W W') : GvA w G id lo hi gen mv mu W' v u ds es :=
  ⟨h.bel.trans (hb.mono h.bel.size), h.m.later hb h.m.lt, h.g.later hb h.g.lt, h.od.later hb, h.oe.later hb, h.r1, h.nv, h.nu⟩
theorem GvA.back {w : World} {G : Nat} {id lo hi gen : Int} {mv mu : Value} {W W' : World} {v u : Value} {ds : List DT} {es : List ER} {n m : Nat} {e : Ending} (h : GvA w G id lo hi gen mv mu W v u ds es) (hp : BwP W (w.heap.size + 1) v u n m e W') : e = .returned (.tuple #[]) ∧ ∃ qd qe, qd.length = n ∧ qe.length = m ∧ (∀ p ∈ qd, p.wf) ∧ GvA w G id lo hi gen mv mu W' v u qd qe := by
  obtain ⟨he, hb, hk, qd, qe, h1, h2, h3, h6, h4, h5⟩ := hp
  refine ⟨he, qd, qe, h1, h2, h6, h.bel.trans (hb.mono (by omega)), (hk _ h.m.lt (fun e => ?_) (fun e => ?_)).trans h.m, (hk _ h.g.lt (fun e => h.nv _ e rfl) (fun e => h.nu _ e rfl)).trans h.g, h4, h5, h.r1, h.nv, h.nu⟩
  · have := (h.od.own _ e).1; omega
  · have := (h.oe.own _ e).1; omega
/-- Three pairs that were read, the first of them in blocks below lim. -/
structure DsA (w W : World) (Q1 Q2 R1 lim : Nat) (id lo hi : Int) (va vb vc : Value) (xs : List DT) : Prop where
  q : Fp6 W Q1 (.int .i64 id) (.int .u64 lo) (.int .u64 hi) va (.int .i64 0) (.slice none 0 0)
  q2 : Fp6 W Q2 (.int .i64 id) (.int .u64 lo) (.int .u64 hi) vb (.int .i64 0) (.slice none 0 0)
  r : Fp6 W R1 (.int .i64 id) (.int .u64 lo) (.int .u64 hi) vc (.int .i64 0) (.slice none 0 0)
  oa : ownT W w.heap.size va xs
  bel : Below w.heap.size w W
  ob : ownT W lim vb xs
  oc : ownT W lim vc xs
  la : ∀ k, va.ownBlock = some k → k < lim
  l2 : lim ≤ Q2
  l3 : lim ≤ R1
theorem DsA.later {w W W' : World} {Q1 Q2 R1 lim : Nat} {id lo hi : Int} {va vb vc : Value} {xs : List DT} (h : DsA w W Q1 Q2 R1 lim id lo hi va vb vc xs) (hb : Below W.heap.size W W') : DsA w W' Q1 Q2 R1 lim id lo hi va vb vc xs :=
  ⟨h.q.later hb h.q.lt, h.q2.later hb h.q2.lt, h.r.later hb h.r.lt, h.oa.later hb, h.bel.trans (hb.mono h.bel.size), h.ob.later hb, h.oc.later hb, h.la, h.l2, h.l3⟩
theorem DsA.marked {w W W' : World} {Q1 Q2 R1 lim : Nat} {id lo hi : Int} {va vb vc : Value} {xs : List DT} (h : DsA w W Q1 Q2 R1 lim id lo hi va vb vc xs) (hk : ∀ k, k < W.heap.size → va.ownBlock ≠ some k → (Value.slice none 0 0).ownBlock ≠ some k → W'.heap[k]? = W.heap[k]?) : Fp6 W' Q2 (.int .i64 id) (.int .u64 lo) (.int .u64 hi) vb (.int .i64 0) (.slice none 0 0) ∧ Fp6 W' R1 (.int .i64 id) (.int .u64 lo) (.int .u64 hi) vc (.int .i64 0) (.slice none 0 0) ∧ ownT W' lim vb xs ∧ ownT W' lim vc xs := by
  have hn : ∀ k, (Value.slice none 0 0).ownBlock ≠ some k := fun k e => by cases e
  have hne : ∀ k, lim ≤ k → va.ownBlock ≠ some k := fun k hl e => by have := h.la k e; omega
  exact ⟨(hk _ h.q2.lt (hne _ h.l2) (hn _)).trans h.q2, (hk _ h.r.lt (hne _ h.l3) (hn _)).trans h.r, h.ob.keep (fun k e => hk k (h.ob.own k e).2 (hne k (h.ob.own k e).1) (hn k)), h.oc.keep (fun k e => hk k (h.oc.own k e).2 (hne k (h.oc.own k e).1) (hn k))⟩
theorem SeesE_none (W : World) (B : Nat) : SeesE W B none [] := fun i hi => absurd hi (by simp)
theorem ownE_none (W : World) (B : Nat) : ownE W B (.slice none ([] : List ER).length 0) [] := ownE_nil W B
set_option maxHeartbeats 25600000 in
theorem data_walk (w : World) (id lo hi gen : Int) (da ao : Option Addr) (dc cap : Nat) (ds : List DT) (es : List ER) (b : ByteArray) (hlo0 : 0 ≤ lo) (hd : SeesT w w.heap.size da ds) (hdc : da = none → ds = [] ∧ dc = 0) (hda : ∀ ad, da = some ad → ds ≠ [] → ∃ b off, ad = ⟨b, off, none⟩) (hdl : ds.length * 40 ≤ 140737488355328) (ha : SeesE w w.heap.size ao es) (hcap : ao = none → es = [] ∧ cap = 0) (hao : ∀ ad, ao = some ad → es ≠ [] → ∃ b off, ad = ⟨b, off, none⟩) (hw : ∀ p ∈ es, p.wf) (hds : ∀ d ∈ ds, DT.fit d) (hl : es.length * 32 ≤ 140737488355328) (hs : b.size ≤ 1125899906842624) (hT : HalfAt w) :
    Calls Tryz.prog 4 #[.agg #[.int .i64 id, .int .u64 lo, .int .u64 hi, .slice da ds.length dc, .int .i64 gen, .slice ao es.length cap], .string b] w fun e w' => e = .returned (.bool true) ∧ Below w.heap.size w w' := by
  obtain ⟨st1, cd1, c10, c11, HE1, HR1⟩ := encA_both id lo hi ds hlo0 (fun d hd => (hds d hd).1)
  have HE : Hid _ := HE1
  have HR : Hid _ := HR1
  have HA : Hid (SeesE w w.heap.size ao es) := ha
  have HD : Hid (SeesT w w.heap.size da ds) := hd
  have HT : Hid (HalfAt w) := hT
  have HW : Hid (∀ p ∈ es, p.wf) := hw
  have HDs : Hid (∀ d ∈ ds, DT.fit d) := hds
  have HTa : Hid (∀ W id' lo' hi' gen' a d c c' (xs : List DT) (ys : List ER), xs.length = ds.length → ys.length = es.length → ownT W (w.heap.size + 1) (.slice a ds.length c) xs → ownE W (w.heap.size + 1) (.slice d es.length c') ys → Calls Tryz.prog 6 #[.agg #[.int .i64 id', .int .u64 lo', .int .u64 hi', .slice a ds.length c, .int .i64 gen', .slice d es.length c']] W (TwD W id' lo' hi' gen' xs ys)) := fun W id' lo' hi' gen' a d c c' xs ys hx hy h1 h2 => by
    obtain ⟨a1, q1, e1, hn1, hs1⟩ := h1.slice
    obtain ⟨a2, q2, e2, hn2, hs2⟩ := h2.slice
    injection e1 with i1 i2 i3
    injection e2 with k1 k2 k3
    subst i1 i3 k1 k3
    have := twin_any W id' lo' hi' gen' a d c c' xs ys h1.sees hn1 (fun ad e _ => by obtain ⟨b', e5, _⟩ := hs1 ad e; exact ⟨b', 0, e5⟩) (by rw [hx]; exact hdl) h2.sees hn2 (fun ad e _ => by obtain ⟨b', e5, _⟩ := hs2 ad e; exact ⟨b', 0, e5⟩) (by rw [hy]; exact hl)
    rwa [hx, hy] at this
  have hb0 : Below w.heap.size w (w.alloc (.cells #[.int .i64 id, .int .u64 lo, .int .u64 hi, .slice da ds.length dc, .int .i64 gen, .slice ao es.length cap] 26)) := (Below.refl _ _).alloc (Nat.le_refl _) _
  have HM0 : Hid (Fp6 (w.alloc (.cells #[.int .i64 id, .int .u64 lo, .int .u64 hi, .slice da ds.length dc, .int .i64 gen, .slice ao es.length cap] 26)) w.heap.size (.int .i64 id) (.int .u64 lo) (.int .u64 hi) (.slice da ds.length dc) (.int .i64 gen) (.slice ao es.length cap)) := heap_alloc_new w _
  have HTw : Hid (∀ _ : Unit, _) := fun _ => twin_any (w.alloc (.cells #[.int .i64 id, .int .u64 lo, .int .u64 hi, .slice da ds.length dc, .int .i64 gen, .slice ao es.length cap] 26)) id lo hi gen da ao dc cap ds es (hd.more hb0) hdc hda hdl (ha.more hb0) hcap hao hl
  have HB0 : Hid _ := hb0
  have hdl' : ds.length ≤ 9000000000000 := by omega
  have hl' : es.length ≤ 9000000000000 := by omega
  clear HE1 HR1 ha hd hcap hao hT hw hb0 hdc hda hds
  go_enter Tryz.func4, Tryz.ntmps4
  go_wp2_with fail
  generalize hy0 : w.alloc (.cells #[.int .i64 id, .int .u64 lo, .int .u64 hi, .slice da ds.length dc, .int .i64 gen, .slice ao es.length cap] 26) = y0 at *
  clear hy0
  refine (HTw.out ()).mono ?_
  rintro e w1 ⟨hb1, v, u, rfl, ho1, ho2⟩
  have hy := HM0.out.lt
  have hG := ho1.own
  have hG2 := ho2.own
  obtain ⟨av, cv, rfl, -, -⟩ := ho1.slice
  obtain ⟨bv, cu, rfl, -, -⟩ := ho2.slice
  have HS1 : Hid (GvA w w1.heap.size id lo hi gen (.slice da ds.length dc) (.slice ao es.length cap) (w1.alloc (.cells #[.int .i64 id, .int .u64 lo, .int .u64 hi, .slice av ds.length cv, .int .i64 gen, .slice bv es.length cu] 26)) (.slice av ds.length cv) (.slice bv es.length cu) ds es) := by
    have hal : Below w1.heap.size w1 (w1.alloc (.cells #[.int .i64 id, .int .u64 lo, .int .u64 hi, .slice av ds.length cv, .int .i64 gen, .slice bv es.length cu] 26)) := (Below.refl _ _).alloc (Nat.le_refl _) _
    have hsz := hb1.size
    exact ⟨(HB0.out.trans (hb1.mono HB0.out.size)).trans (hal.mono (by omega)), (HM0.out.later hb1 hy).later hal (by omega), heap_alloc_new w1 _, (ho1.later hal).mono (by omega), (ho2.later hal).mono (by omega), by omega, fun k hk => by have := (hG k hk).2; omega, fun k hk => by have := (hG2 k hk).2; omega⟩
  clear hb1 ho1 ho2 hy hG hG2 HTw HM0 HB0
  go_wp2_with fail
  generalize hy1 : w1.alloc (.cells #[.int .i64 id, .int .u64 lo, .int .u64 hi, .slice av ds.length cv, .int .i64 gen, .slice bv es.length cu] 26) = y1 at *
  generalize hGG : w1.heap.size = G at *
  clear hy1 hGG
  have HE1 : Hid (∀ W, GvA w G id lo hi gen (.slice da ds.length dc) (.slice ao es.length cap) W (.slice av ds.length cv) (.slice bv es.length cu) ds es → Calls Tryz.prog 7 #[.agg #[.int .i64 id, .int .u64 lo, .int .u64 hi, .slice av ds.length cv, .int .i64 gen, .slice bv es.length cu]] W fun e w' => e = .returned (.tuple #[.string st1, .int .i64 cd1]) ∧ Below W.heap.size W w') := fun W h => HE.out W gen av cv bv es.length cu h.od.sees (HT.out.later h.bel)
  have HR1 : Hid (∀ W, GvA w G id lo hi gen (.slice da ds.length dc) (.slice ao es.length cap) W (.slice av ds.length cv) (.slice bv es.length cu) ds es → Calls Tryz.prog 8 #[.agg #[.int .i64 id, .int .u64 lo, .int .u64 hi, .slice da ds.length dc, .int .i64 gen, .slice ao es.length cap]] W fun e w' => e = .returned (.tuple #[.string st1, .int .i64 cd1]) ∧ Below W.heap.size W w') := fun W h => HR.out W gen da dc ao es.length cap (HD.out.more h.bel)
  have HQ1 : Hid (∀ W, GvA w G id lo hi gen (.slice da ds.length dc) (.slice ao es.length cap) W (.slice av ds.length cv) (.slice bv es.length cu) ds es → Calls Tryz.prog 10 #[.agg #[.int .i64 id, .int .u64 lo, .int .u64 hi, .slice av ds.length cv, .int .i64 gen, .slice bv es.length cu], .agg #[.int .i64 id, .int .u64 lo, .int .u64 hi, .slice da ds.length dc, .int .i64 gen, .slice ao es.length cap]] W fun e w' => e = .returned (.bool true) ∧ Below W.heap.size W w') := fun W h => samePair_eq W id lo hi gen av da bv ao cv dc cu cap ds es h.od.sees (HD.out.more h.bel) h.oe.sees (HA.out.more h.bel) hdl' hl'
  clear HE HR
  refine (HE1.out y1 HS1.out).mono ?_
  rintro e w2 ⟨rfl, hb2⟩
  have HS2 : Hid (GvA w G id lo hi gen (.slice da ds.length dc) (.slice ao es.length cap) w2 (.slice av ds.length cv) (.slice bv es.length cu) ds es) := HS1.out.later hb2
  clear hb2 HS1
  have g0 : w2.cell? ⟨G, 0, none⟩ = some (.int .i64 id) := HS2.out.g.cell 0
  have g1 : w2.cell? ⟨G, 1, none⟩ = some (.int .u64 lo) := HS2.out.g.cell 1
  have g2 : w2.cell? ⟨G, 2, none⟩ = some (.int .u64 hi) := HS2.out.g.cell 2
  have g3 : w2.cell? ⟨G, 3, none⟩ = some (.slice av ds.length cv) := HS2.out.g.cell 3
  have g4 : w2.cell? ⟨G, 4, none⟩ = some (.int .i64 gen) := HS2.out.g.cell 4
  have g5 : w2.cell? ⟨G, 5, none⟩ = some (.slice bv es.length cu) := HS2.out.g.cell 5
  have m0 : w2.cell? ⟨w.heap.size, 0, none⟩ = some (.int .i64 id) := HS2.out.m.cell 0
  have m1 : w2.cell? ⟨w.heap.size, 1, none⟩ = some (.int .u64 lo) := HS2.out.m.cell 1
  have m2 : w2.cell? ⟨w.heap.size, 2, none⟩ = some (.int .u64 hi) := HS2.out.m.cell 2
  have m3 : w2.cell? ⟨w.heap.size, 3, none⟩ = some (.slice da ds.length dc) := HS2.out.m.cell 3
  have m4 : w2.cell? ⟨w.heap.size, 4, none⟩ = some (.int .i64 gen) := HS2.out.m.cell 4
  have m5 : w2.cell? ⟨w.heap.size, 5, none⟩ = some (.slice ao es.length cap) := HS2.out.m.cell 5
  go_wp2_with fail
  refine (HR1.out w2 HS2.out).mono ?_
  rintro e w3 ⟨rfl, hb3⟩
  have HS3 : Hid (GvA w G id lo hi gen (.slice da ds.length dc) (.slice ao es.length cap) w3 (.slice av ds.length cv) (.slice bv es.length cu) ds es) := HS2.out.later hb3
  clear hb3 HS2 HR1 HE1 g0 g1 g2 g3 g4 g5 m0 m1 m2 m3 m4 m5
  have g0 : w3.cell? ⟨G, 0, none⟩ = some (.int .i64 id) := HS3.out.g.cell 0
  have g1 : w3.cell? ⟨G, 1, none⟩ = some (.int .u64 lo) := HS3.out.g.cell 1
  have g2 : w3.cell? ⟨G, 2, none⟩ = some (.int .u64 hi) := HS3.out.g.cell 2
  have g3 : w3.cell? ⟨G, 3, none⟩ = some (.slice av ds.length cv) := HS3.out.g.cell 3
  have g4 : w3.cell? ⟨G, 4, none⟩ = some (.int .i64 gen) := HS3.out.g.cell 4
  have g5 : w3.cell? ⟨G, 5, none⟩ = some (.slice bv es.length cu) := HS3.out.g.cell 5
  have m0 : w3.cell? ⟨w.heap.size, 0, none⟩ = some (.int .i64 id) := HS3.out.m.cell 0
  have m1 : w3.cell? ⟨w.heap.size, 1, none⟩ = some (.int .u64 lo) := HS3.out.m.cell 1
  have m2 : w3.cell? ⟨w.heap.size, 2, none⟩ = some (.int .u64 hi) := HS3.out.m.cell 2
  have m3 : w3.cell? ⟨w.heap.size, 3, none⟩ = some (.slice da ds.length dc) := HS3.out.m.cell 3
  have m4 : w3.cell? ⟨w.heap.size, 4, none⟩ = some (.int .i64 gen) := HS3.out.m.cell 4
  have m5 : w3.cell? ⟨w.heap.size, 5, none⟩ = some (.slice ao es.length cap) := HS3.out.m.cell 5
  go_wp2_with fail
  refine (num_any cd1 w3 c10 c11).mono ?_
  rintro e w4 ⟨rfl, rfl⟩
  go_wp2_with fail
  refine (HQ1.out w4 HS3.out).mono ?_
  rintro e w5 ⟨rfl, hb5⟩
  have HS5 : Hid (GvA w G id lo hi gen (.slice da ds.length dc) (.slice ao es.length cap) w5 (.slice av ds.length cv) (.slice bv es.length cu) ds es) := HS3.out.later hb5
  clear hb5 HS3 HQ1 g0 g1 g2 g3 g4 g5 m0 m1 m2 m3 m4 m5
  have g0 : w5.cell? ⟨G, 0, none⟩ = some (.int .i64 id) := HS5.out.g.cell 0
  have g1 : w5.cell? ⟨G, 1, none⟩ = some (.int .u64 lo) := HS5.out.g.cell 1
  have g2 : w5.cell? ⟨G, 2, none⟩ = some (.int .u64 hi) := HS5.out.g.cell 2
  have g3 : w5.cell? ⟨G, 3, none⟩ = some (.slice av ds.length cv) := HS5.out.g.cell 3
  have g4 : w5.cell? ⟨G, 4, none⟩ = some (.int .i64 gen) := HS5.out.g.cell 4
  have g5 : w5.cell? ⟨G, 5, none⟩ = some (.slice bv es.length cu) := HS5.out.g.cell 5
  go_wp2_with fail
  refine (backwards_any w5 (w.heap.size + 1) id lo hi gen av bv cv cu ds es HS5.out.od HS5.out.oe (by have := HS5.out.m.lt; omega) HW.out HDs.out hdl' hl').mono ?_
  rintro e w6 hp
  obtain ⟨rfl, QD, QE, hqd, hqe, hqw, hS6⟩ := HS5.out.back hp
  have HS6 : Hid (GvA w G id lo hi gen (.slice da ds.length dc) (.slice ao es.length cap) w6 (.slice av ds.length cv) (.slice bv es.length cu) QD QE) := hS6
  have HQd : Hid (QD.length = ds.length) := hqd
  have HQe : Hid (QE.length = es.length) := hqe
  have HQw : Hid (∀ p ∈ QD, p.wf) := hqw
  clear hp hS6 hqd hqe hqw HS5 g0 g1 g2 g3 g4 g5
  have HDB : Hid _ := decA_both b hs
  obtain ⟨st2, cd2, c20, c21, hE2, hR2⟩ := encA_both id lo hi QD hlo0 HQw.out
  have HE2 : Hid (∀ W, GvA w G id lo hi gen (.slice da ds.length dc) (.slice ao es.length cap) W (.slice av ds.length cv) (.slice bv es.length cu) QD QE → Calls Tryz.prog 7 #[.agg #[.int .i64 id, .int .u64 lo, .int .u64 hi, .slice av ds.length cv, .int .i64 gen, .slice bv es.length cu]] W fun e w' => e = .returned (.tuple #[.string st2, .int .i64 cd2]) ∧ Below W.heap.size W w') := fun W h => by
    have := hE2 W gen av cv bv es.length cu h.od.sees (HT.out.later h.bel)
    rwa [HQd.out] at this
  have HR2 : Hid (∀ W a c a' c', SeesT W W.heap.size a QD → Calls Tryz.prog 8 #[.agg #[.int .i64 id, .int .u64 lo, .int .u64 hi, .slice a ds.length c, .int .i64 gen, .slice a' es.length c']] W fun e w' => e = .returned (.tuple #[.string st2, .int .i64 cd2]) ∧ Below W.heap.size W w') := fun W a c a' c' h => by
    have := hR2 W gen a c a' es.length c' h
    rwa [HQd.out] at this
  have HTw2 : Hid (∀ W, GvA w G id lo hi gen (.slice da ds.length dc) (.slice ao es.length cap) W (.slice av ds.length cv) (.slice bv es.length cu) QD QE → Calls Tryz.prog 6 #[.agg #[.int .i64 id, .int .u64 lo, .int .u64 hi, .slice av ds.length cv, .int .i64 gen, .slice bv es.length cu]] W fun e w' => Below W.heap.size W w' ∧ ∃ a c a' c', e = .returned (.agg #[.int .i64 id, .int .u64 lo, .int .u64 hi, .slice a ds.length c, .int .i64 gen, .slice a' es.length c']) ∧ SeesT w' w'.heap.size a QD) := fun W h => by
    refine (HTa.out W id lo hi gen av bv cv cu QD QE HQd.out HQe.out h.od h.oe).mono ?_
    rintro e w' ⟨hb, v, u, he, ho, ho2⟩
    obtain ⟨a1, c1, e1, -, -⟩ := ho.slice
    obtain ⟨a2, c2, e2, -, -⟩ := ho2.slice
    rw [HQd.out] at e1
    rw [HQe.out] at e2
    subst e1 e2
    exact ⟨hb, a1, c1, a2, c2, he, ho.sees⟩
  clear hE2 hR2 HTa
  have g0 : w6.cell? ⟨G, 0, none⟩ = some (.int .i64 id) := HS6.out.g.cell 0
  have g1 : w6.cell? ⟨G, 1, none⟩ = some (.int .u64 lo) := HS6.out.g.cell 1
  have g2 : w6.cell? ⟨G, 2, none⟩ = some (.int .u64 hi) := HS6.out.g.cell 2
  have g3 : w6.cell? ⟨G, 3, none⟩ = some (.slice av ds.length cv) := HS6.out.g.cell 3
  have g4 : w6.cell? ⟨G, 4, none⟩ = some (.int .i64 gen) := HS6.out.g.cell 4
  have g5 : w6.cell? ⟨G, 5, none⟩ = some (.slice bv es.length cu) := HS6.out.g.cell 5
  go_wp2_with fail
  refine (HE2.out w6 HS6.out).mono ?_
  rintro e w7 ⟨rfl, hb7⟩
  have HS7 : Hid (GvA w G id lo hi gen (.slice da ds.length dc) (.slice ao es.length cap) w7 (.slice av ds.length cv) (.slice bv es.length cu) QD QE) := HS6.out.later hb7
  clear hb7 HE2 HS6 g0 g1 g2 g3 g4 g5
  have g0 : w7.cell? ⟨G, 0, none⟩ = some (.int .i64 id) := HS7.out.g.cell 0
  have g1 : w7.cell? ⟨G, 1, none⟩ = some (.int .u64 lo) := HS7.out.g.cell 1
  have g2 : w7.cell? ⟨G, 2, none⟩ = some (.int .u64 hi) := HS7.out.g.cell 2
  have g3 : w7.cell? ⟨G, 3, none⟩ = some (.slice av ds.length cv) := HS7.out.g.cell 3
  have g4 : w7.cell? ⟨G, 4, none⟩ = some (.int .i64 gen) := HS7.out.g.cell 4
  have g5 : w7.cell? ⟨G, 5, none⟩ = some (.slice bv es.length cu) := HS7.out.g.cell 5
  go_wp2_with fail
  refine (HTw2.out w7 HS7.out).mono ?_
  rintro e w8 ⟨hb8, a7, c7, a8, c8, rfl, hs8⟩
  have HR8 : Hid (∀ _ : Unit, _) := fun _ => HR2.out w8 a7 c7 a8 c8 hs8
  have HB8 : Hid (Below w.heap.size w w8) := HS7.out.bel.trans (hb8.mono HS7.out.bel.size)
  clear hb8 hs8 HTw2 HR2 HS7 g0 g1 g2 g3 g4 g5
  go_wp2_with fail
  refine (HR8.out ()).mono ?_
  rintro e w9 ⟨rfl, hb9⟩
  have HB9 : Hid (Below w.heap.size w w9) := HB8.out.trans (hb9.mono HB8.out.size)
  clear hb9 HR8 HB8
  go_wp2_with fail
  refine (num_any cd2 w9 c20 c21).mono ?_
  rintro e w0 ⟨rfl, rfl⟩
  go_wp2_with fail
  obtain ⟨di, dl0, dh0, xs, dc', d0, d1, dl, hD, hR⟩ := HDB.out
  have HDd : Hid _ := hD
  have HRr : Hid _ := hR
  clear hD hR HDB
  refine (HDd.out w0 (HT.out.later HB9.out)).mono ?_
  rintro e wa ⟨hba, va, rfl, hoa⟩
  obtain ⟨aa, ca, rfl, -, -⟩ := hoa.slice
  have HOa : Hid (ownT wa w0.heap.size (.slice aa xs.length ca) xs) := hoa
  have HBa : Hid (Below w.heap.size w wa) := HB9.out.trans (hba.mono HB9.out.size)
  have hl9 := hba.size
  have h9w := HB9.out.size
  have hla : ∀ k, (Value.slice aa xs.length ca).ownBlock = some k → k < wa.heap.size := fun k e => (hoa.own k e).2
  have HLA : Hid _ := hla
  clear hba hoa HB9 hla
  have hya : Below wa.heap.size wa (wa.alloc (.cells #[.int .i64 di, .int .u64 dl0, .int .u64 dh0, .slice aa xs.length ca, .int .i64 0, .slice none 0 0] 26)) := (Below.refl _ _).alloc (Nat.le_refl _) _
  have HQa : Hid (Fp6 (wa.alloc (.cells #[.int .i64 di, .int .u64 dl0, .int .u64 dh0, .slice aa xs.length ca, .int .i64 0, .slice none 0 0] 26)) wa.heap.size (.int .i64 di) (.int .u64 dl0) (.int .u64 dh0) (.slice aa xs.length ca) (.int .i64 0) (.slice none 0 0)) := heap_alloc_new wa _
  have HOa2 : Hid (ownT (wa.alloc (.cells #[.int .i64 di, .int .u64 dl0, .int .u64 dh0, .slice aa xs.length ca, .int .i64 0, .slice none 0 0] 26)) w0.heap.size (.slice aa xs.length ca) xs) := HOa.out.later hya
  have HBa2 : Hid (Below w.heap.size w (wa.alloc (.cells #[.int .i64 di, .int .u64 dl0, .int .u64 dh0, .slice aa xs.length ca, .int .i64 0, .slice none 0 0] 26))) := HBa.out.trans (hya.mono HBa.out.size)
  clear hya HOa HBa
  go_wp2_with fail
  generalize hy : (wa.alloc (.cells #[.int .i64 di, .int .u64 dl0, .int .u64 dh0, .slice aa xs.length ca, .int .i64 0, .slice none 0 0] 26)) = ya at *
  generalize hQ1 : wa.heap.size = Q1 at *
  clear hy hQ1
  refine (HDd.out ya (HT.out.later HBa2.out)).mono ?_
  rintro e wb ⟨hbb, vb, rfl, hob⟩
  obtain ⟨ab, cb, rfl, -, -⟩ := hob.slice
  have hqy := HQa.out.lt
  have HQb : Hid (Fp6 wb Q1 (.int .i64 di) (.int .u64 dl0) (.int .u64 dh0) (.slice aa xs.length ca) (.int .i64 0) (.slice none 0 0)) := HQa.out.later hbb hqy
  have HOa3 : Hid (ownT wb w0.heap.size (.slice aa xs.length ca) xs) := HOa2.out.later hbb
  have HOb : Hid (ownT wb ya.heap.size (.slice ab xs.length cb) xs) := hob
  have HBb : Hid (Below w.heap.size w wb) := HBa2.out.trans (hbb.mono HBa2.out.size)
  have hyb := hbb.size
  have hal : Below wb.heap.size wb (wb.alloc (.cells #[.int .i64 di, .int .u64 dl0, .int .u64 dh0, .slice ab xs.length cb, .int .i64 0, .slice none 0 0] 26)) := (Below.refl _ _).alloc (Nat.le_refl _) _
  have HQb2 : Hid (Fp6 (wb.alloc (.cells #[.int .i64 di, .int .u64 dl0, .int .u64 dh0, .slice ab xs.length cb, .int .i64 0, .slice none 0 0] 26)) Q1 (.int .i64 di) (.int .u64 dl0) (.int .u64 dh0) (.slice aa xs.length ca) (.int .i64 0) (.slice none 0 0)) := HQb.out.later hal HQb.out.lt
  have HQ2b : Hid (Fp6 (wb.alloc (.cells #[.int .i64 di, .int .u64 dl0, .int .u64 dh0, .slice ab xs.length cb, .int .i64 0, .slice none 0 0] 26)) wb.heap.size (.int .i64 di) (.int .u64 dl0) (.int .u64 dh0) (.slice ab xs.length cb) (.int .i64 0) (.slice none 0 0)) := heap_alloc_new wb _
  have HOa4 : Hid (ownT (wb.alloc (.cells #[.int .i64 di, .int .u64 dl0, .int .u64 dh0, .slice ab xs.length cb, .int .i64 0, .slice none 0 0] 26)) w0.heap.size (.slice aa xs.length ca) xs) := HOa3.out.later hal
  have HOb2 : Hid (ownT (wb.alloc (.cells #[.int .i64 di, .int .u64 dl0, .int .u64 dh0, .slice ab xs.length cb, .int .i64 0, .slice none 0 0] 26)) ya.heap.size (.slice ab xs.length cb) xs) := HOb.out.later hal
  have HBb2 : Hid (Below w.heap.size w (wb.alloc (.cells #[.int .i64 di, .int .u64 dl0, .int .u64 dh0, .slice ab xs.length cb, .int .i64 0, .slice none 0 0] 26))) := HBb.out.trans (hal.mono HBb.out.size)
  clear hbb hob HQa HOa2 HBa2 HQb HOa3 HOb HBb hal
  go_wp2_with fail
  generalize hy : (wb.alloc (.cells #[.int .i64 di, .int .u64 dl0, .int .u64 dh0, .slice ab xs.length cb, .int .i64 0, .slice none 0 0] 26)) = yb at *
  generalize hQ2 : wb.heap.size = Q2 at *
  clear hy hQ2
  refine (HRr.out yb).mono ?_
  rintro e wc ⟨hbc, vc, rfl, hoc⟩
  obtain ⟨ac, cc, rfl, -, -⟩ := hoc.slice
  have hq2y := HQ2b.out.lt
  have hwc := hbc.size
  have HDS : Hid (DsA w (wc.alloc (.cells #[.int .i64 di, .int .u64 dl0, .int .u64 dh0, .slice ac xs.length cc, .int .i64 0, .slice none 0 0] 26)) Q1 Q2 wc.heap.size (Q1 + 1) di dl0 dh0 (.slice aa xs.length ca) (.slice ab xs.length cb) (.slice ac xs.length cc) xs) := by
    have hal : Below wc.heap.size wc (wc.alloc (.cells #[.int .i64 di, .int .u64 dl0, .int .u64 dh0, .slice ac xs.length cc, .int .i64 0, .slice none 0 0] 26)) := (Below.refl _ _).alloc (Nat.le_refl _) _
    exact ⟨(HQb2.out.later hbc HQb2.out.lt).later hal (by omega), (HQ2b.out.later hbc hq2y).later hal (by omega), heap_alloc_new wc _, ((HOa4.out.later hbc).later hal).mono h9w, (HBb2.out.trans (hbc.mono HBb2.out.size)).trans (hal.mono (Nat.le_trans HBb2.out.size hbc.size)), ((HOb2.out.later hbc).later hal).mono (by omega), (hoc.later hal).mono (by omega), fun k e => by have := HLA.out k e; omega, by omega, by omega⟩
  clear hbc hoc HQb2 HQ2b HOa4 HOb2 HBb2 HLA HDd HRr
  go_wp2_with fail
  generalize hy : (wc.alloc (.cells #[.int .i64 di, .int .u64 dl0, .int .u64 dh0, .slice ac xs.length cc, .int .i64 0, .slice none 0 0] 26)) = yc at *
  generalize hR1 : wc.heap.size = R1 at *
  clear hy hR1
  refine (num_any dc' yc d0 d1).mono ?_
  rintro e yd ⟨rfl, rfl⟩
  have HSm : Hid (∀ W a c a' c', SeesT W W.heap.size a xs → SeesT W W.heap.size a' xs → Calls Tryz.prog 10 #[.agg #[.int .i64 di, .int .u64 dl0, .int .u64 dh0, .slice a xs.length c, .int .i64 0, .slice none 0 0], .agg #[.int .i64 di, .int .u64 dl0, .int .u64 dh0, .slice a' xs.length c', .int .i64 0, .slice none 0 0]] W fun e w' => e = .returned (.bool true) ∧ Below W.heap.size W w') := fun W a c a' c' h1 h2 => samePair_eq W di dl0 dh0 0 a a' none none c c' 0 0 xs [] h1 h2 (SeesE_none W _) (SeesE_none W _) (by omega) (by simp)
  have j0 : yd.cell? ⟨Q1, 0, none⟩ = some (.int .i64 di) := HDS.out.q.cell 0
  have j1 : yd.cell? ⟨Q1, 1, none⟩ = some (.int .u64 dl0) := HDS.out.q.cell 1
  have j2 : yd.cell? ⟨Q1, 2, none⟩ = some (.int .u64 dh0) := HDS.out.q.cell 2
  have j3 : yd.cell? ⟨Q1, 3, none⟩ = some (.slice aa xs.length ca) := HDS.out.q.cell 3
  have j4 : yd.cell? ⟨Q1, 4, none⟩ = some (.int .i64 0) := HDS.out.q.cell 4
  have j5 : yd.cell? ⟨Q1, 5, none⟩ = some (.slice none 0 0) := HDS.out.q.cell 5
  have k0 : yd.cell? ⟨Q2, 0, none⟩ = some (.int .i64 di) := HDS.out.q2.cell 0
  have k1 : yd.cell? ⟨Q2, 1, none⟩ = some (.int .u64 dl0) := HDS.out.q2.cell 1
  have k2 : yd.cell? ⟨Q2, 2, none⟩ = some (.int .u64 dh0) := HDS.out.q2.cell 2
  have k3 : yd.cell? ⟨Q2, 3, none⟩ = some (.slice ab xs.length cb) := HDS.out.q2.cell 3
  have k4 : yd.cell? ⟨Q2, 4, none⟩ = some (.int .i64 0) := HDS.out.q2.cell 4
  have k5 : yd.cell? ⟨Q2, 5, none⟩ = some (.slice none 0 0) := HDS.out.q2.cell 5
  have m0 : yd.cell? ⟨R1, 0, none⟩ = some (.int .i64 di) := HDS.out.r.cell 0
  have m1 : yd.cell? ⟨R1, 1, none⟩ = some (.int .u64 dl0) := HDS.out.r.cell 1
  have m2 : yd.cell? ⟨R1, 2, none⟩ = some (.int .u64 dh0) := HDS.out.r.cell 2
  have m3 : yd.cell? ⟨R1, 3, none⟩ = some (.slice ac xs.length cc) := HDS.out.r.cell 3
  have m4 : yd.cell? ⟨R1, 4, none⟩ = some (.int .i64 0) := HDS.out.r.cell 4
  have m5 : yd.cell? ⟨R1, 5, none⟩ = some (.slice none 0 0) := HDS.out.r.cell 5
  go_wp2_with fail
  refine (HSm.out yd _ _ _ _ HDS.out.oa.sees HDS.out.oc.sees).mono ?_
  rintro e we ⟨rfl, hbe⟩
  have HDS2 : Hid _ := HDS.out.later hbe
  clear hbe HDS j0 j1 j2 j3 j4 j5 k0 k1 k2 k3 k4 k5 m0 m1 m2 m3 m4 m5
  have j0 : we.cell? ⟨Q1, 0, none⟩ = some (.int .i64 di) := HDS2.out.q.cell 0
  have j1 : we.cell? ⟨Q1, 1, none⟩ = some (.int .u64 dl0) := HDS2.out.q.cell 1
  have j2 : we.cell? ⟨Q1, 2, none⟩ = some (.int .u64 dh0) := HDS2.out.q.cell 2
  have j3 : we.cell? ⟨Q1, 3, none⟩ = some (.slice aa xs.length ca) := HDS2.out.q.cell 3
  have j4 : we.cell? ⟨Q1, 4, none⟩ = some (.int .i64 0) := HDS2.out.q.cell 4
  have j5 : we.cell? ⟨Q1, 5, none⟩ = some (.slice none 0 0) := HDS2.out.q.cell 5
  have k0 : we.cell? ⟨Q2, 0, none⟩ = some (.int .i64 di) := HDS2.out.q2.cell 0
  have k1 : we.cell? ⟨Q2, 1, none⟩ = some (.int .u64 dl0) := HDS2.out.q2.cell 1
  have k2 : we.cell? ⟨Q2, 2, none⟩ = some (.int .u64 dh0) := HDS2.out.q2.cell 2
  have k3 : we.cell? ⟨Q2, 3, none⟩ = some (.slice ab xs.length cb) := HDS2.out.q2.cell 3
  have k4 : we.cell? ⟨Q2, 4, none⟩ = some (.int .i64 0) := HDS2.out.q2.cell 4
  have k5 : we.cell? ⟨Q2, 5, none⟩ = some (.slice none 0 0) := HDS2.out.q2.cell 5
  have m0 : we.cell? ⟨R1, 0, none⟩ = some (.int .i64 di) := HDS2.out.r.cell 0
  have m1 : we.cell? ⟨R1, 1, none⟩ = some (.int .u64 dl0) := HDS2.out.r.cell 1
  have m2 : we.cell? ⟨R1, 2, none⟩ = some (.int .u64 dh0) := HDS2.out.r.cell 2
  have m3 : we.cell? ⟨R1, 3, none⟩ = some (.slice ac xs.length cc) := HDS2.out.r.cell 3
  have m4 : we.cell? ⟨R1, 4, none⟩ = some (.int .i64 0) := HDS2.out.r.cell 4
  have m5 : we.cell? ⟨R1, 5, none⟩ = some (.slice none 0 0) := HDS2.out.r.cell 5
  go_wp2_with fail
  refine (HSm.out we _ _ _ _ HDS2.out.ob.sees HDS2.out.oc.sees).mono ?_
  rintro e wf ⟨rfl, hbf⟩
  have HDS3 : Hid _ := HDS2.out.later hbf
  clear hbf HDS2 j0 j1 j2 j3 j4 j5 k0 k1 k2 k3 k4 k5 m0 m1 m2 m3 m4 m5
  have j0 : wf.cell? ⟨Q1, 0, none⟩ = some (.int .i64 di) := HDS3.out.q.cell 0
  have j1 : wf.cell? ⟨Q1, 1, none⟩ = some (.int .u64 dl0) := HDS3.out.q.cell 1
  have j2 : wf.cell? ⟨Q1, 2, none⟩ = some (.int .u64 dh0) := HDS3.out.q.cell 2
  have j3 : wf.cell? ⟨Q1, 3, none⟩ = some (.slice aa xs.length ca) := HDS3.out.q.cell 3
  have j4 : wf.cell? ⟨Q1, 4, none⟩ = some (.int .i64 0) := HDS3.out.q.cell 4
  have j5 : wf.cell? ⟨Q1, 5, none⟩ = some (.slice none 0 0) := HDS3.out.q.cell 5
  have k0 : wf.cell? ⟨Q2, 0, none⟩ = some (.int .i64 di) := HDS3.out.q2.cell 0
  have k1 : wf.cell? ⟨Q2, 1, none⟩ = some (.int .u64 dl0) := HDS3.out.q2.cell 1
  have k2 : wf.cell? ⟨Q2, 2, none⟩ = some (.int .u64 dh0) := HDS3.out.q2.cell 2
  have k3 : wf.cell? ⟨Q2, 3, none⟩ = some (.slice ab xs.length cb) := HDS3.out.q2.cell 3
  have k4 : wf.cell? ⟨Q2, 4, none⟩ = some (.int .i64 0) := HDS3.out.q2.cell 4
  have k5 : wf.cell? ⟨Q2, 5, none⟩ = some (.slice none 0 0) := HDS3.out.q2.cell 5
  have m0 : wf.cell? ⟨R1, 0, none⟩ = some (.int .i64 di) := HDS3.out.r.cell 0
  have m1 : wf.cell? ⟨R1, 1, none⟩ = some (.int .u64 dl0) := HDS3.out.r.cell 1
  have m2 : wf.cell? ⟨R1, 2, none⟩ = some (.int .u64 dh0) := HDS3.out.r.cell 2
  have m3 : wf.cell? ⟨R1, 3, none⟩ = some (.slice ac xs.length cc) := HDS3.out.r.cell 3
  have m4 : wf.cell? ⟨R1, 4, none⟩ = some (.int .i64 0) := HDS3.out.r.cell 4
  have m5 : wf.cell? ⟨R1, 5, none⟩ = some (.slice none 0 0) := HDS3.out.r.cell 5
  go_wp2_with fail
  have HMk : Hid (Calls Tryz.prog 14 #[.agg #[.int .i64 di, .int .u64 dl0, .int .u64 dh0, .slice aa xs.length ca, .int .i64 0, .slice none 0 0]] wf fun e w' => e = .returned (.tuple #[]) ∧ Below w.heap.size wf w' ∧ ∀ k, k < wf.heap.size → (Value.slice aa xs.length ca).ownBlock ≠ some k → (Value.slice none 0 0).ownBlock ≠ some k → w'.heap[k]? = wf.heap[k]?) := marked_any wf di dl0 dh0 0 aa none ca 0 xs [] w.heap.size HDS3.out.oa (ownE_none _ _) HDS3.out.bel.size dl (by simp)
  refine HMk.out.mono ?_
  rintro e wg ⟨rfl, hsg, hkg⟩
  have HBG : Hid (Below w.heap.size w wg) := HDS3.out.bel.trans hsg
  have hng := HDS3.out.marked hkg
  have HNG : Hid _ := hng
  clear hng hkg hsg HMk HDS3 j0 j1 j2 j3 j4 j5 k0 k1 k2 k3 k4 k5 m0 m1 m2 m3 m4 m5
  have k0 : wg.cell? ⟨Q2, 0, none⟩ = some (.int .i64 di) := HNG.out.1.cell 0
  have k1 : wg.cell? ⟨Q2, 1, none⟩ = some (.int .u64 dl0) := HNG.out.1.cell 1
  have k2 : wg.cell? ⟨Q2, 2, none⟩ = some (.int .u64 dh0) := HNG.out.1.cell 2
  have k3 : wg.cell? ⟨Q2, 3, none⟩ = some (.slice ab xs.length cb) := HNG.out.1.cell 3
  have k4 : wg.cell? ⟨Q2, 4, none⟩ = some (.int .i64 0) := HNG.out.1.cell 4
  have k5 : wg.cell? ⟨Q2, 5, none⟩ = some (.slice none 0 0) := HNG.out.1.cell 5
  have m0 : wg.cell? ⟨R1, 0, none⟩ = some (.int .i64 di) := HNG.out.2.1.cell 0
  have m1 : wg.cell? ⟨R1, 1, none⟩ = some (.int .u64 dl0) := HNG.out.2.1.cell 1
  have m2 : wg.cell? ⟨R1, 2, none⟩ = some (.int .u64 dh0) := HNG.out.2.1.cell 2
  have m3 : wg.cell? ⟨R1, 3, none⟩ = some (.slice ac xs.length cc) := HNG.out.2.1.cell 3
  have m4 : wg.cell? ⟨R1, 4, none⟩ = some (.int .i64 0) := HNG.out.2.1.cell 4
  have m5 : wg.cell? ⟨R1, 5, none⟩ = some (.slice none 0 0) := HNG.out.2.1.cell 5
  go_wp2_with fail
  refine (HSm.out wg _ _ _ _ HNG.out.2.2.1.sees HNG.out.2.2.2.sees).mono ?_
  rintro e wh ⟨rfl, hbh⟩
  have HBH : Hid (Below w.heap.size w wh) := HBG.out.trans (hbh.mono HBG.out.size)
  clear hbh k0 k1 k2 k3 k4 k5 m0 m1 m2 m3 m4 m5
  go_wp2
  go_ret
  exact ⟨rfl, HBH.out⟩
end Go.Proofs.YtbfjnidpjmhfiaaGreatDoor

namespace Go.Proofs.YtbfjnidpjmhfiaaGreatDoor
open Go.ChangeShapes Go.WideShapes Go.ChangeAt Go.RowKit
set_option linter.unusedVariables false
theorem data_open (id lo hi : Int) (da : Option Addr) (dn dc : Nat) (gn : Int) (ao : Option Addr) (en ec : Nat) (ds : List DT) (es : List ER) (b : ByteArray) (W : World) (hx : FpIn W lo hi da dn dc ao en ec ds es) (room : (dn * 40 ≤ reachBytes ∧ ∀ v ∈ ds, v.room reachBytes) ∧ en * 32 ≤ reachBytes ∧ ∀ v ∈ es, v.room reachBytes) (hb : b.size ≤ 140737488351232) (hT : HalfAt W) :
    Calls Tryz.prog 4 #[.agg #[.int .i64 id, .int .u64 lo, .int .u64 hi, .slice da dn dc, .int .i64 gn, .slice ao en ec], .string b] W fun e w' => e = .returned (.bool true) ∧ Below W.heap.size W w' := by
  obtain ⟨⟨r1, r2⟩, r3, r4⟩ := room
  unfold reachBytes at r1 r2 r3
  obtain ⟨d1, d2, d3, d4, d5, k1, k2, k3, k4, k5, l1, l2⟩ := hx
  subst d2 k2
  exact data_walk W id lo hi gn da ao dc ec ds es b l1.1 d3 (fun e => ⟨List.length_eq_zero_iff.1 (d1 e).1, (d1 e).2⟩) d4 (by omega) k3 (fun e => ⟨List.length_eq_zero_iff.1 (k1 e).1, (k1 e).2⟩) k4 k5 (fun d hd => ⟨d5 d hd, by have := (r2 d hd).2; omega⟩) (by omega) (by omega) hT
end Go.Proofs.YtbfjnidpjmhfiaaGreatDoor
