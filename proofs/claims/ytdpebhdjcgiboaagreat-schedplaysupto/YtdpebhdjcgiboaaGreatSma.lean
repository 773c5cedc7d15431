import Derived.Test.YtdpebhdjcgiboaaGreatSm7
namespace Go.Proofs.YtdpebhdjcgiboaaGreat
set_option linter.unusedSimpArgs false
open Go.ChangeShapes Go.WideShapes Go.ChangeAt Go.RowKit Go.MuLone Go.RwLone
set_option linter.unusedVariables false
set_option maxRecDepth 100000
set_option maxHeartbeats 6400000
/-- The events of the program's harness. -/
theorem hev_any (w : World) (F : Nat → Prop) (pt : Nat → Nat) (hb qb : Nat) (qv : Nat → Value) (ev en : Value) (h : Hp) (m : Hm w F pt hb qb qv ev en h) (hl : h.ev.length ≤ 68719476000) :
    Calls Tryz.prog 13 #[.pointer (some ⟨hb, 0, none⟩)] w fun e w' => ∃ v, e = .returned v ∧ OwE w' w.heap.size v h.ev ∧ Keeps (fun _ => False) w w' := by
  obtain ⟨a, cap, rfl⟩ := m.oe.form
  have e2 : w.cell? ⟨hb, 2, none⟩ = some (.slice a h.ev.length cap) := (cell?_heap m.hc 2).trans rfl
  have HC := cloneE w w.heap.size a cap h.ev m.oe.in (Nat.le_refl _) hl
  have HCC : Hid (∀ _ : Unit, _) := fun _ => HC
  clear HC m
  go_enter Tryz.func13, Tryz.ntmps13
  go_wp2_with fail
  refine (HCC.out ()).mono ?_
  rintro e w1 ⟨v, rfl, ho, k⟩
  have HX : Hid (OwE w1 w.heap.size v h.ev ∧ Keeps (fun _ => False) w w1) := ⟨ho, k⟩
  clear ho k e2
  go_wp2
  go_ret
  exact ⟨_, rfl, HX.out⟩
/-- Five rows of events, one behind the other. -/
structure E5 (W : World) (n0 n1 n2 n3 n4 n5 : Nat) (x1 k1 : Option Addr × Nat) (x3 x4 x5 : Option Addr × Nat) (E D : List Ev4) : Prop where
  o1 : OwE W n0 (.slice x1.1 E.length x1.2) E
  o2 : OwE W n1 (.slice k1.1 E.length k1.2) E
  o3 : OwE W n2 (.slice x3.1 D.length x3.2) D
  o4 : OwE W n3 (.slice x4.1 E.length x4.2) E
  o5 : OwE W n4 (.slice x5.1 D.length x5.2) D
/-- The events, on both sides. -/
theorem lk_events (w : World) (G H P Q : Nat → Prop) (B : Bd) (bb b1 b2 : Nat) (tv : Value) (R : Rd) (r1 r2 hb qb rb sb sd : Nat) (a0 : Hp) (a : Hp × Ls) (ts : List (List I8)) (wd c nw : Nat) (p : PSt w G H P Q B bb b1 b2 tv R r1 r2 hb qb rb sb sd a0 a ts wd c nw) (hc : c ≤ 1000000000) (wh tg nn : Int) (pa : Option Addr) (pn pc : Nat) (ma : Option Addr) (mn mc : Nat) :
    Calls Tryz.prog 36 #[.pointer (some ⟨sd, 0, none⟩), .agg (opC 8 wh tg nn (.slice pa pn pc) (.slice ma mn mc))] w fun e w' => e = .returned (.bool true) ∧ MvP w G H P Q B bb b1 b2 tv R r1 r2 hb qb rb sb sd a0 ts wd c nw w' := by
  have HS : Hid (∀ W, Keeps (fun _ => False) (opW w 8 wh tg nn (.slice pa pn pc) (.slice ma mn mc)) W → (W.cell? ⟨sd, 0, none⟩ = some (.pointer (some ⟨hb, 0, none⟩)) ∧ W.cell? ⟨sd, 1, none⟩ = some (.pointer (some ⟨bb, 0, none⟩)) ∧ W.cell? ⟨sd, 2, none⟩ = some (.pointer (some ⟨rb, 0, none⟩)) ∧ W.cell? ⟨sd, 3, none⟩ = some (.pointer (some ⟨R.bk, 0, none⟩))) ∧ W.cell? ⟨w.heap.size, 1, none⟩ = some (.int .i64 wh)) := fun W k => by
    have h := p.cells 8 wh tg nn (.slice pa pn pc) (.slice ma mn mc) W (fun _ => False) k (fun _ e => e.elim)
    exact ⟨h.1, h.2.1⟩
  have HQ : Hid (∀ W, Keeps (fun _ => False) (opW w 8 wh tg nn (.slice pa pn pc) (.slice ma mn mc)) W → PSt W G H P Q B bb b1 b2 tv R r1 r2 hb qb rb sb sd a0 a ts wd c nw) := fun W k => p.still (((Keeps.refl _ _).alloc _).trans k)
  have HX : Hid (∀ W, Keeps (fun _ => False) (opW w 8 wh tg nn (.slice pa pn pc) (.slice ma mn mc)) W → MvP w G H P Q B bb b1 b2 tv R r1 r2 hb qb rb sb sd a0 ts wd c nw W) := fun W k => (p.still (((Keeps.refl _ _).alloc _).trans k)).mv (((Keeps.refl _ _).alloc _).trans k)
  have HE : Hid (a.1.ev.length ≤ 68719476000 ∧ a0.ev.length ≤ 68719476000) := ⟨by have := p.iw.b; omega, by have h : a0.ev.length + wtq a0.q ≤ 68719476000 := p.q.b.iv.b; omega⟩
  have HP0 : Hid (PSt w G H P Q B bb b1 b2 tv R r1 r2 hb qb rb sb sd a0 a ts wd c nw) := p
  have HR2 : Hid (∀ W, Keeps (fun _ => False) (opW w 8 wh tg nn (.slice pa pn pc) (.slice ma mn mc)) W → W.cell? ⟨R.bk, 2, none⟩ = some (.pointer (some ⟨r1, 0, none⟩))) := fun W k => (HQ.out W k).q.r.hp
  have sz : (opW w 8 wh tg nn (.slice pa pn pc) (.slice ma mn mc)).heap.size = w.heap.size + 1 := szAl _ _
  obtain ⟨E, hE⟩ : ∃ E, a.1.ev = E := ⟨_, rfl⟩
  obtain ⟨D, hD⟩ : ∃ D, a0.ev = D := ⟨_, rfl⟩
  have HED : Hid (a.1.ev = E ∧ a0.ev = D) := ⟨hE, hD⟩
  have lE : E.length ≤ 68719476000 := by rw [← hE]; exact HE.out.1
  have lD : D.length ≤ 68719476000 := by rw [← hD]; exact HE.out.2
  clear p hE hD
  have c0 := (HS.out (opW w 8 wh tg nn (.slice pa pn pc) (.slice ma mn mc)) (Keeps.refl _ _)).1.1
  go_enter Tryz.func36, Tryz.ntmps36
  go_wp2_with fail
  obtain ⟨qv, ev, en, m⟩ := (HQ.out (opW w 8 wh tg nn (.slice pa pn pc) (.slice ma mn mc)) (Keeps.refl _ _)).q.m
  refine (hev_any _ _ _ _ _ _ _ _ _ m HE.out.1).mono ?_
  rintro e w1 ⟨v1, rfl, o1, k1⟩
  rw [HED.out.1] at o1
  obtain ⟨x1, y1, rfl⟩ := o1.form
  have H1 : Hid (Keeps (fun _ => False) (opW w 8 wh tg nn (.slice pa pn pc) (.slice ma mn mc)) w1 ∧ OwE w1 (opW w 8 wh tg nn (.slice pa pn pc) (.slice ma mn mc)).heap.size (.slice x1 E.length y1) E) := ⟨k1, o1⟩
  clear o1 k1 m c0
  have c0 := (HS.out w1 H1.out.1).1.1
  go_wp2_with fail
  obtain ⟨qv, ev, en, m⟩ := (HQ.out w1 H1.out.1).q.m
  refine (hev_any _ _ _ _ _ _ _ _ _ m HE.out.1).mono ?_
  rintro e w2 ⟨v2, rfl, o2, k2⟩
  rw [HED.out.1] at o2
  obtain ⟨x2, y2, rfl⟩ := o2.form
  have H2 : Hid (Keeps (fun _ => False) (opW w 8 wh tg nn (.slice pa pn pc) (.slice ma mn mc)) w2 ∧ OwE w2 (opW w 8 wh tg nn (.slice pa pn pc) (.slice ma mn mc)).heap.size (.slice x1 E.length y1) E ∧ OwE w2 w1.heap.size (.slice x2 E.length y2) E) := ⟨H1.out.1.trans k2, owK H1.out.2 k2 (fun _ _ e => e), o2⟩
  have HB1 : Hid (∀ g, (Value.slice x1 E.length y1).ownBlock = some g → g < w1.heap.size) := fun g hg => (World.ownsRow.lt H1.out.2 g hg).2
  have z1 : w.heap.size + 1 ≤ w1.heap.size := by rw [← sz]; exact H1.out.1.size
  have z2 : w1.heap.size ≤ w2.heap.size := k2.size
  clear o2 k2 m c0 H1
  have c0 := (HS.out w2 H2.out.1).1.2.1
  go_wp2_with fail
  obtain ⟨F3, qv, ev, en, m, d3, l3, nb3, nt3⟩ := (HQ.out w2 H2.out.1).q.b.h
  refine (bev_any w2 F3 B.T bb b1 b2 qv ev en a0 m B.L tv (HQ.out w2 H2.out.1).q.b.be HE.out.2).mono ?_
  rintro e w3 ⟨v3, rfl, o3, k3⟩
  rw [HED.out.2] at o3
  obtain ⟨x3, y3, rfl⟩ := o3.form
  have H3 : Hid (Keeps (fun _ => False) (opW w 8 wh tg nn (.slice pa pn pc) (.slice ma mn mc)) w3 ∧ OwE w3 (opW w 8 wh tg nn (.slice pa pn pc) (.slice ma mn mc)).heap.size (.slice x1 E.length y1) E ∧ OwE w3 w1.heap.size (.slice x2 E.length y2) E ∧ OwE w3 w2.heap.size (.slice x3 D.length y3) D) := ⟨H2.out.1.trans k3, owK H2.out.2.1 k3 (fun _ _ e => e), owK H2.out.2.2 k3 (fun _ _ e => e), o3⟩
  have HB2 : Hid (∀ g, (Value.slice x2 E.length y2).ownBlock = some g → g < w2.heap.size) := fun g hg => (World.ownsRow.lt H2.out.2.2 g hg).2
  have z3 : w2.heap.size ≤ w3.heap.size := k3.size
  clear o3 k3 m d3 l3 nb3 nt3 c0 H2
  have c0 := (HS.out w3 H3.out.1).1.2.2.1
  go_wp2_with fail
  obtain ⟨uv, uev, uen, n⟩ := (HQ.out w3 H3.out.1).q.n
  refine (rev_any _ _ _ _ _ _ _ _ _ n HE.out.1).mono ?_
  rintro e w4 ⟨v4, rfl, o4, k4⟩
  rw [HED.out.1] at o4
  obtain ⟨x4, y4, rfl⟩ := o4.form
  have H4 : Hid (Keeps (fun _ => False) (opW w 8 wh tg nn (.slice pa pn pc) (.slice ma mn mc)) w4 ∧ OwE w4 (opW w 8 wh tg nn (.slice pa pn pc) (.slice ma mn mc)).heap.size (.slice x1 E.length y1) E ∧ OwE w4 w1.heap.size (.slice x2 E.length y2) E ∧ OwE w4 w2.heap.size (.slice x3 D.length y3) D ∧ OwE w4 w3.heap.size (.slice x4 E.length y4) E) := ⟨H3.out.1.trans k4, owK H3.out.2.1 k4 (fun _ _ e => e), owK H3.out.2.2.1 k4 (fun _ _ e => e), owK H3.out.2.2.2 k4 (fun _ _ e => e), o4⟩
  have HB3 : Hid (∀ g, (Value.slice x3 D.length y3).ownBlock = some g → g < w3.heap.size) := fun g hg => (World.ownsRow.lt H3.out.2.2.2 g hg).2
  have z4 : w3.heap.size ≤ w4.heap.size := k4.size
  clear o4 k4 n c0 H3
  have c0 := (HS.out w4 H4.out.1).1.2.2.2
  have c2 := HR2.out w4 H4.out.1
  go_wp2_with fail
  obtain ⟨F5, uv, uev, uen, n, l5⟩ := (HQ.out w4 H4.out.1).q.r.m
  refine (rev_any _ _ _ _ _ _ _ _ _ n HE.out.2).mono ?_
  rintro e w5 ⟨v5, rfl, o5, k5⟩
  rw [HED.out.2] at o5
  obtain ⟨x5, y5, rfl⟩ := o5.form
  have HF : Hid (∀ W DD, Keeps DD w5 W → (∀ y, DD y → ¬ w1.heap.size ≤ y) → E5 W (w.heap.size + 1) w1.heap.size w2.heap.size w3.heap.size w4.heap.size w5.heap.size (none, 0) (x2, y2) (x3, y3) (x4, y4) (x5, y5) E D ∨ True) := fun _ _ _ _ => .inr trivial
  have H5 : Hid (Keeps (fun _ => False) (opW w 8 wh tg nn (.slice pa pn pc) (.slice ma mn mc)) w5 ∧ OwE w5 (opW w 8 wh tg nn (.slice pa pn pc) (.slice ma mn mc)).heap.size (.slice x1 E.length y1) E ∧ OwE w5 w1.heap.size (.slice x2 E.length y2) E ∧ OwE w5 w2.heap.size (.slice x3 D.length y3) D ∧ OwE w5 w3.heap.size (.slice x4 E.length y4) E ∧ OwE w5 w4.heap.size (.slice x5 D.length y5) D) := ⟨H4.out.1.trans k5, owK H4.out.2.1 k5 (fun _ _ e => e), owK H4.out.2.2.1 k5 (fun _ _ e => e), owK H4.out.2.2.2.1 k5 (fun _ _ e => e), owK H4.out.2.2.2.2 k5 (fun _ _ e => e), o5⟩
  clear o5 k5 n l5 c0 c2 H4 HF
  go_wp2_with fail
  refine (sameE w5 w5.heap.size (Nat.le_refl _) x1 y1 x4 y4 E H5.out.2.1.in H5.out.2.2.2.2.1.in (by omega)).mono ?_
  rintro e w6 ⟨rfl, k6⟩
  go_wp2_with fail
  refine (sameE w6 w6.heap.size (Nat.le_refl _) x2 y2 x4 y4 E (owK H5.out.2.2.1 k6 (fun _ _ e => e)).in (owK H5.out.2.2.2.2.1 k6 (fun _ _ e => e)).in (by omega)).mono ?_
  rintro e w7 ⟨rfl, k7⟩
  go_wp2_with fail
  refine (sameE w7 w7.heap.size (Nat.le_refl _) x3 y3 x5 y5 D (owK H5.out.2.2.2.1 (k6.trans k7) (fun _ _ e => e)).in (owK H5.out.2.2.2.2.2 (k6.trans k7) (fun _ _ e => e)).in (by omega)).mono ?_
  rintro e w8 ⟨rfl, k8⟩
  have H8 : Hid (Keeps (fun _ => False) (opW w 8 wh tg nn (.slice pa pn pc) (.slice ma mn mc)) w8 ∧ OwE w8 (opW w 8 wh tg nn (.slice pa pn pc) (.slice ma mn mc)).heap.size (.slice x1 E.length y1) E ∧ OwE w8 w1.heap.size (.slice x2 E.length y2) E ∧ OwE w8 w2.heap.size (.slice x3 D.length y3) D ∧ OwE w8 w3.heap.size (.slice x4 E.length y4) E ∧ OwE w8 w4.heap.size (.slice x5 D.length y5) D) := by
    have k := (k6.trans k7).trans k8
    exact ⟨H5.out.1.trans k, owK H5.out.2.1 k (fun _ _ e => e), owK H5.out.2.2.1 k (fun _ _ e => e), owK H5.out.2.2.2.1 k (fun _ _ e => e), owK H5.out.2.2.2.2.1 k (fun _ _ e => e), owK H5.out.2.2.2.2.2 k (fun _ _ e => e)⟩
  clear k6 k7 k8 H5
  go_wp2_with fail
  refine (evented_any w8 _ E (H8.out.2.1.down (Nat.zero_le _)) lE).mono ?_
  rintro e w9 ⟨rfl, k9⟩
  have far : ∀ (n : Nat) (v : Value) (L : List Ev4), OwE w8 n v L → w1.heap.size ≤ n → OwE w9 n v L := fun n v L h hn => owK h k9 (fun g hg e => by have := (World.ownsRow.lt h g hg).1; have := HB1.out g e; omega)
  have H9 : Hid (Keeps (fun y => w.heap.size + 1 ≤ y) (opW w 8 wh tg nn (.slice pa pn pc) (.slice ma mn mc)) w9 ∧ OwE w9 w1.heap.size (.slice x2 E.length y2) E ∧ OwE w9 w2.heap.size (.slice x3 D.length y3) D ∧ OwE w9 w3.heap.size (.slice x4 E.length y4) E ∧ OwE w9 w4.heap.size (.slice x5 D.length y5) D) := ⟨(H8.out.1.mono (fun _ e => e.elim)).trans (k9.mono (fun y e => by have := (World.ownsRow.lt H8.out.2.1 y e).1; rw [sz] at this; exact this)), far _ _ _ H8.out.2.2.1 (Nat.le_refl _), far _ _ _ H8.out.2.2.2.1 (by omega), far _ _ _ H8.out.2.2.2.2.1 (by omega), far _ _ _ H8.out.2.2.2.2.2 (by omega)⟩
  clear k9 far H8
  go_wp2_with fail
  refine (sameE w9 w9.heap.size (Nat.le_refl _) x2 y2 x4 y4 E H9.out.2.1.in H9.out.2.2.2.1.in (by omega)).mono ?_
  rintro e wa ⟨rfl, ka⟩
  go_wp2_with fail
  refine (sameE wa wa.heap.size (Nat.le_refl _) x3 y3 x5 y5 D (owK H9.out.2.2.1 ka (fun _ _ e => e)).in (owK H9.out.2.2.2.2 ka (fun _ _ e => e)).in (by omega)).mono ?_
  rintro e wb ⟨rfl, kb⟩
  have HB : Hid (Keeps (fun y => w.heap.size + 1 ≤ y) (opW w 8 wh tg nn (.slice pa pn pc) (.slice ma mn mc)) wb ∧ OwE wb w1.heap.size (.slice x2 E.length y2) E ∧ OwE wb w2.heap.size (.slice x3 D.length y3) D ∧ OwE wb w4.heap.size (.slice x5 D.length y5) D) := by
    have k := ka.trans kb
    exact ⟨H9.out.1.trans (k.mono (fun _ e => e.elim)), owK H9.out.2.1 k (fun _ _ e => e), owK H9.out.2.2.1 k (fun _ _ e => e), owK H9.out.2.2.2.2 k (fun _ _ e => e)⟩
  clear ka kb H9
  go_wp2_with fail
  refine (evented_any wb _ E (HB.out.2.1.down (Nat.zero_le _)) lE).mono ?_
  rintro e wc ⟨rfl, kc⟩
  have far : ∀ (n : Nat) (v : Value) (L : List Ev4), OwE wb n v L → w2.heap.size ≤ n → OwE wc n v L := fun n v L h hn => owK h kc (fun g hg e => by have := (World.ownsRow.lt h g hg).1; have := HB2.out g e; omega)
  have HC : Hid (Keeps (fun y => w.heap.size + 1 ≤ y) (opW w 8 wh tg nn (.slice pa pn pc) (.slice ma mn mc)) wc ∧ OwE wc w2.heap.size (.slice x3 D.length y3) D ∧ OwE wc w4.heap.size (.slice x5 D.length y5) D) := ⟨HB.out.1.trans (kc.mono (fun y e => by have := (World.ownsRow.lt HB.out.2.1 y e).1; omega)), far _ _ _ HB.out.2.2.1 (Nat.le_refl _), far _ _ _ HB.out.2.2.2 (by omega)⟩
  clear kc far HB
  go_wp2_with fail
  refine (sameE wc wc.heap.size (Nat.le_refl _) x3 y3 x5 y5 D HC.out.2.1.in HC.out.2.2.in (by omega)).mono ?_
  rintro e wd' ⟨rfl, kd⟩
  have HD' : Hid (Keeps (fun y => w.heap.size + 1 ≤ y) (opW w 8 wh tg nn (.slice pa pn pc) (.slice ma mn mc)) wd' ∧ OwE wd' w2.heap.size (.slice x3 D.length y3) D) := ⟨HC.out.1.trans (kd.mono (fun _ e => e.elim)), owK HC.out.2.1 kd (fun _ _ e => e)⟩
  clear kd HC
  go_wp2_with fail
  refine (evented_any wd' _ D (HD'.out.2.down (Nat.zero_le _)) lD).mono ?_
  rintro e we ⟨rfl, ke⟩
  have HZ : Hid (MvP w G H P Q B bb b1 b2 tv R r1 r2 hb qb rb sb sd a0 ts wd c nw we) := by
    have k : Keeps (fun y => False ∨ w.heap.size ≤ y) w we := ((((Keeps.refl (fun _ => False) _).alloc _).mono (fun _ e => e.elim)).trans (HD'.out.1.mono (fun y e => .inr (by omega)))).trans (ke.mono (fun y e => .inr (by have := (World.ownsRow.lt HD'.out.2 y e).1; omega)))
    exact (HP0.out.still k.thin).mv k.thin
  clear ke HD'
  go_wp2
  go_ret
  exact ⟨rfl, HZ.out⟩
end Go.Proofs.YtdpebhdjcgiboaaGreat

namespace Go.Proofs.YtdpebhdjcgiboaaGreat
set_option linter.unusedSimpArgs false
open Go.ChangeShapes Go.WideShapes Go.ChangeAt Go.RowKit Go.MuLone Go.RwLone
set_option linter.unusedVariables false
set_option maxRecDepth 100000
set_option maxHeartbeats 6400000
/-- The machines that were taken are those threads. -/
theorem took_any (w : World) (B : Bd) (bb b1 : Nat) (tv : Value) (hbe : w.heap[bb]? = some (.cells (beA B.L tv b1) 146)) (ot : OwT w 0 tv ((List.range B.n).map B.T)) (sd hb rb rk : Nat) (hsd : w.heap[sd]? = some (.cells (sdC hb bb rb rk) 90)) (ga : Option Addr) (gc : Nat) (na : Option Addr) (nc : Nat) (ms : List Nat) (hm : ∀ m ∈ ms, m < B.n) (ho : OwN w 0 (.slice ga ms.length gc) (ptL B.T ms)) (oi : OwI w 0 (.slice na ms.length nc) ms) (hl : ms.length ≤ 68719476000) :
    Calls Tryz.prog 76 #[.pointer (some ⟨sd, 0, none⟩), .slice ga ms.length gc, .slice na ms.length nc] w fun e w' => e = .returned (.bool true) ∧ Keeps (fun y => (Value.slice ga ms.length gc).ownBlock = some y) w w' := by
  have HF : Hid (∀ W, Keeps (fun _ => False) w W → W.cell? ⟨sd, 1, none⟩ = some (.pointer (some ⟨bb, 0, none⟩)) ∧ OwN W 0 (.slice ga ms.length gc) (ptL B.T ms) ∧ OwI W 0 (.slice na ms.length nc) ms) := fun W k => by
    have e : W.heap[sd]? = some (.cells (sdC hb bb rb rk) 90) := (k.block _ (Array.getElem?_eq_some_iff.1 hsd).1 (fun e => e)).trans hsd
    exact ⟨(cell?_heap e 1).trans rfl, owK ho k (fun _ _ e => e), owK oi k (fun _ _ e => e)⟩
  have HT : Hid (∀ W, Keeps (fun _ => False) w W → ∀ x, Calls Tryz.prog 39 #[.pointer (some ⟨bb, 0, none⟩), .int .i64 x] W fun e w' => e = .returned (.pointer (thO B x)) ∧ w' = W) := fun W k x => bthread W B bb b1 tv ((k.block _ (Array.getElem?_eq_some_iff.1 hbe).1 (fun e => e)).trans hbe) (owK ot k (fun _ _ e => e)) x
  have HM : Hid (∀ m ∈ ms, m < B.n) := hm
  clear hbe ot hsd hm ho oi
  go_enter Tryz.func76, Tryz.ntmps76
  go_wp2_with fail
  go_loopw [7] (fun d wr => ∃ t : Nat, d = .int .i64 t ∧ t ≤ ms.length ∧ Keeps (fun _ => False) w wr) (fun d _ => ms.length - (intOf d).toNat)
  case atStart => exact ⟨0, rfl, by omega, Keeps.refl _ _⟩
  case round =>
    obtain ⟨t, rfl, ht, hk⟩ := hrel
    have HK : Hid (Keeps (fun _ => False) w wr) := hk
    clear hk
    by_cases h5 : t < ms.length
    · have t0 : (0 : Int) ≤ (t : Int) := Int.natCast_nonneg _
      have t1 : (t : Int) < (ms.length : Int) := by omega
      have HD : Hid (Keeps (fun _ => False) w wr.drew) := HK.out.drew
      obtain ⟨c1, on, oi⟩ := HF.out wr.drew HD.out
      obtain ⟨g, gcap, eg, _, _⟩ := owG_some on (by intro e; have := congrArg List.length e; rw [show (ptL B.T ms).length = ms.length from by simp [ptL], List.length_nil] at this; omega)
      rw [show (ptL B.T ms).length = ms.length from by simp [ptL]] at eg
      injection eg with eg eg2 eg3
      clear eg2 eg3
      subst eg
      have st2 : wr.drew.cell? ⟨g, t, none⟩ = some (.pointer (some ⟨B.T ms[t], 0, none⟩)) := by
        have h2 := (owN_set on t (by simpa [ptL] using h5) none).2.1
        rw [h2]
        simp [ptL]
      obtain ⟨nb, ncap, enb, _, _⟩ := owG_some oi (by intro e; rw [e] at h5; simp at h5)
      injection enb with enb enb2 enb3
      clear enb2 enb3
      subst enb
      have cn : wr.drew.cell? ⟨nb, t, none⟩ = some (.int .i64 (ms[t] : Int)) := by
        have hc := InG.cell (cs := inR) (n := 1) (fun _ => rfl) oi.in t h5 (by decide)
        obtain ⟨b, off, e2, _, hc⟩ := hc
        injection e2 with e2
        injection e2 with e3 e4
        subst e3 e4
        have := hc 0 (by decide)
        rw [Nat.mul_one, Nat.add_zero, Nat.zero_add] at this
        exact this
      have hlt : ms[t] < B.n := HM.out _ (List.getElem_mem h5)
      obtain ⟨mt, hmt⟩ : ∃ mt, ms[t] = mt := ⟨_, rfl⟩
      rw [hmt] at st2 cn hlt
      have hto : thO B (mt : Int) = some ⟨B.T mt, 0, none⟩ := by unfold thO; rw [if_pos (by omega), Int.toNat_natCast]
      have HTB : Hid (∀ _ : Unit, _) := fun _ => HT.out wr.drew HD.out (mt : Int)
      rw [hto] at HTB
      clear on oi hto hmt HK
      go_wp2_with fail
      (refine wp_region_held_drew (S := (fun W => W.cell? ⟨g, t, none⟩ = some (.pointer (some ⟨B.T mt, 0, none⟩)) ∧ W.cell? ⟨sd, 1, none⟩ = some (.pointer (some ⟨bb, 0, none⟩)) ∧ W.cell? ⟨nb, t, none⟩ = some (.int .i64 (mt : Int)))) (by kernel_rfl) ⟨st2, c1, cn⟩ (fun hHeld => ?_); simp only [List.size_toArray, List.length_cons, List.length_nil, Nat.reduceAdd, Array.replicate_succ, Array.replicate_zero, List.push_toArray, List.append_toArray, List.nil_append, List.cons_append])
      refine rgT 0 (h := ?_)
      refine rgT 1 (h := ?_)
      refine rgT 2 (h := ?_)
      refine rgT 3 (h := ?_)
      refine rgT 4 (h := ?_)
      refine rgT 5 (h := ?_)
      refine rgT 6 (h := ?_)
      refine rgT 7 (h := ?_)
      refine rgT 8 (h := ?_)
      refine rgT 9 (h := ?_)
      refine rgT 10 (h := ?_)
      refine rgT 11 (h := ?_)
      (refine rgS 12 (h := fun K hK => ?_); go_simp)
      refine (HTB.out ()).mono ?_
      rintro e w5 ⟨rfl, rfl⟩
      have qe := neqT ⟨B.T mt, 0, none⟩
      (refine hK.out _ _ ⟨st2, c1, cn⟩ (fun hHeld => ?_); clear hK K; try simp only [Act.put, List.setIfInBounds_toArray, List.set_cons_zero, List.set_cons_succ])
      refine rgT 13 (h := ?_)
      refine wpAnyH_done (by kernel_rfl) ?_ _
      clear c1 cn st2
      go_wp2
      go_roundw
      case rel => exact ⟨t + 1, by go_num, by omega, HD.out⟩
      case measure => simp [intOf]; omega
    · have H2 : Hid (OwN wr 0 (.slice ga ms.length gc) (ptL B.T ms) ∧ Keeps (fun _ => False) w wr) := ⟨(HF.out wr HK.out).2.1, HK.out⟩
      clear HF HT HM HK
      have hpl : (ptL B.T ms).length = ms.length := by simp [ptL]
      generalize ptL B.T ms = ps at *
      go_wp2_with fail
      go_loopw [8] (fun d wr => ∃ (t : Nat) (xs : List (Option Addr)), d = .int .i64 t ∧ t ≤ ms.length ∧ xs.length = ms.length ∧ OwN wr 0 (.slice ga ms.length gc) xs ∧ Keeps (fun y => (Value.slice ga ms.length gc).ownBlock = some y) w wr) (fun d _ => ms.length - (intOf d).toNat)
      case atStart => exact ⟨0, ps, rfl, by omega, hpl, H2.out.1, H2.out.2.mono (fun _ e => e.elim)⟩
      case round =>
        obtain ⟨u, xs, rfl, hu, hxl, hon, hkk⟩ := hrel
        have HQ : Hid (Keeps (fun y => (Value.slice ga ms.length gc).ownBlock = some y) w wr) := hkk
        clear hkk
        by_cases h6 : u < ms.length
        · have u0 : (0 : Int) ≤ (u : Int) := Int.natCast_nonneg _
          have u1 : (u : Int) < (ms.length : Int) := by omega
          obtain ⟨g, gcap, eg, _, _⟩ := owG_some hon (by intro e; rw [e] at hxl; simp at hxl; omega)
          injection eg with eg eg2 eg3
          clear eg2 eg3
          subst eg
          obtain ⟨st1, st2, st3⟩ := owN_set hon u (by omega) none
          obtain ⟨xu, hxu⟩ : ∃ xu, xs[u] = xu := ⟨_, rfl⟩
          rw [hxu] at st2
          have HN : Hid (OwN (wr.setCell ⟨g, u, none⟩ (.pointer none)) 0 (.slice (some ⟨g, 0, none⟩) ms.length gc) (xs.set u none) ∧ Keeps (fun y => (Value.slice (some ⟨g, 0, none⟩) ms.length gc).ownBlock = some y) w (wr.setCell ⟨g, u, none⟩ (.pointer none)) ∧ (xs.set u none).length = ms.length) := ⟨st1, Keeps.setCell (B := fun y => (Value.slice (some ⟨g, 0, none⟩) ms.length gc).ownBlock = some y) HQ.out (p := ⟨g, u, none⟩) rfl _, by rw [List.length_set]; exact hxl⟩
          clear hon st1 HQ hxu
          clear hxl
          go_wp2
          go_roundw
          case rel => exact ⟨u + 1, xs.set u none, by go_num, by omega, HN.out.2.2, HN.out.1, HN.out.2.1⟩
          case measure => simp [intOf]; omega
        · clear hon hxl
          go_wp2
          go_ret
          exact ⟨rfl, HQ.out⟩
end Go.Proofs.YtdpebhdjcgiboaaGreat

namespace Go.Proofs.YtdpebhdjcgiboaaGreat
set_option linter.unusedSimpArgs false
open Go.ChangeShapes Go.WideShapes Go.ChangeAt Go.RowKit Go.MuLone Go.RwLone
set_option linter.unusedVariables false
set_option maxRecDepth 100000
set_option maxHeartbeats 6400000
/-- What has ended is taken, on both sides. -/
theorem lk_take (w : World) (G H P Q : Nat → Prop) (B : Bd) (bb b1 b2 : Nat) (tv : Value) (R : Rd) (r1 r2 hb qb rb sb sd : Nat) (a0 : Hp) (a : Hp × Ls) (ts : List (List I8)) (wd c nw : Nat) (p : PSt w G H P Q B bb b1 b2 tv R r1 r2 hb qb rb sb sd a0 a ts wd c nw) (hc : c ≤ 1000000000) (wh tg nn : Int) (pa : Option Addr) (pn pc : Nat) (ma : Option Addr) (mn mc : Nat) :
    Calls Tryz.prog 36 #[.pointer (some ⟨sd, 0, none⟩), .agg (opC 9 wh tg nn (.slice pa pn pc) (.slice ma mn mc))] w fun e w' => e = .returned (.bool true) ∧ MvP w G H P Q B bb b1 b2 tv R r1 r2 hb qb rb sb sd a0 ts wd c nw w' := by
  have k0 : Keeps (fun _ => False) w (opW w 9 wh tg nn (.slice pa pn pc) (.slice ma mn mc)).drew := ((Keeps.refl _ _).alloc _).drew
  have HP0 : Hid (PSt w G H P Q B bb b1 b2 tv R r1 r2 hb qb rb sb sd a0 a ts wd c nw) := p
  have HP : Hid (PSt (opW w 9 wh tg nn (.slice pa pn pc) (.slice ma mn mc)).drew G H P Q B bb b1 b2 tv R r1 r2 hb qb rb sb sd a0 a ts wd c nw) := p.still k0
  have HS : Hid (∀ W D, Keeps D (opW w 9 wh tg nn (.slice pa pn pc) (.slice ma mn mc)) W → (∀ y, D y → U4 G H P Q y ∨ w.heap.size < y) → _) := fun W D k hD => p.cells 9 wh tg nn (.slice pa pn pc) (.slice ma mn mc) W D k hD
  have hs0 := HS.out (opW w 9 wh tg nn (.slice pa pn pc) (.slice ma mn mc)).drew (fun _ => False) (Keeps.refl _ _).drew (fun _ e => e.elim)
  obtain ⟨ms, hms⟩ : ∃ ms, a.1.en = ms := ⟨_, rfl⟩
  have HMS : Hid (a.1.en = ms) := hms
  have hml : ms.length ≤ 68719476000 := by rw [← hms]; have := p.iw.c; omega
  clear p hms k0
  go_enter Tryz.func36, Tryz.ntmps36
  go_wp2_with fail
  (refine wp_region_held_drew (S := (fun W => W.cell? ⟨sd, 0, none⟩ = some (.pointer (some ⟨hb, 0, none⟩)) ∧ W.cell? ⟨sd, 2, none⟩ = some (.pointer (some ⟨rb, 0, none⟩)))) (by kernel_rfl) ⟨hs0.1.1, hs0.1.2.2.1⟩ (fun hHeld => ?_); simp only [List.size_toArray, List.length_cons, List.length_nil, Nat.reduceAdd, Array.replicate_succ, Array.replicate_zero, List.push_toArray, List.append_toArray, List.nil_append, List.cons_append])
  clear hs0
  refine rgT 0 (h := ?_)
  refine rgT 1 (h := ?_)
  refine rgT 2 (h := ?_)
  refine rgT 3 (h := ?_)
  refine rgT 4 (h := ?_)
  refine rgT 6 (h := ?_)
  refine rgT 7 (h := ?_)
  refine rgT 8 (h := ?_)
  refine rgT 9 (h := ?_)
  (refine rgS 5 (h := fun K hK => ?_); go_simp)
  obtain ⟨qv, ev, en, m⟩ := HP.out.q.m
  obtain ⟨ga, gc, hen⟩ := m.ot.form
  rw [List.length_map, HMS.out] at hen
  subst hen
  refine (htake _ P B.T hb qb qv ev _ a.1 m).mono ?_
  rintro e w1 ⟨rfl, m1, o1, k1⟩
  rw [HMS.out] at o1
  have HO : Hid (∀ g, (Value.slice ga ms.length gc).ownBlock = some g → P g) := m.fn
  have H1 : Hid (Q4 w1 G H (fun y => P y ∧ (Value.slice ga ms.length gc).ownBlock ≠ some y) Q B bb b1 b2 tv R r1 r2 hb qb rb sb a0 ({ a.1 with en := [] }, a.2) a ∧ OwN w1 0 (.slice ga ms.length gc) (ptL B.T ms) ∧ Keeps (U4 G H P Q) (opW w 9 wh tg nn (.slice pa pn pc) (.slice ma mn mc)) w1) := by
    have kP : Keeps P (opW w 9 wh tg nn (.slice pa pn pc) (.slice ma mn mc)).drew w1 := k1.mono (fun y e => e ▸ m.fh)
    exact ⟨HP.out.q.progH ⟨_, _, _, m1⟩ (fun y e => .inl e.1) kP, own_pt o1, (Keeps.refl _ _).drew.trans (kP.mono (fun y e => .inr (.inr (.inl e))))⟩
  have hs1 := HS.out w1 _ H1.out.2.2 (fun y e => .inl e)
  clear m m1 o1 k1
  (refine hK.out _ _ ⟨hs1.1.1, hs1.1.2.2.1⟩ (fun hHeld => ?_); clear hK K; try simp only [Act.put, List.setIfInBounds_toArray, List.set_cons_zero, List.set_cons_succ])
  clear hs1
  (refine rgS 10 (h := fun K hK => ?_); go_simp)
  obtain ⟨uv, uev, uen, n⟩ := H1.out.1.n
  obtain ⟨na, nc, hun⟩ := n.ot.form
  rw [HMS.out] at hun
  subst hun
  refine (rtake w1 Q R.bk rb sb uv uev _ a.1 n).mono ?_
  rintro e w2 ⟨rfl, n2, o2, k2⟩
  rw [HMS.out] at o2
  have kQ : Keeps Q w1 w2 := k2.mono (fun y e => e ▸ n.fh)
  have H2 : Hid (PSt w2 G H (fun y => P y ∧ (Value.slice ga ms.length gc).ownBlock ≠ some y) (fun y => Q y ∧ (Value.slice na ms.length nc).ownBlock ≠ some y) B bb b1 b2 tv R r1 r2 hb qb rb sb sd a0 ({ a.1 with en := [] }, a.2) ts wd (c + 128) nw ∧ (∀ y, (fun y => Q y ∧ (Value.slice na ms.length nc).ownBlock ≠ some y) y → Q y ∨ w.heap.size ≤ y) ∧ Keeps (U4 G H P Q) w w2) := by
    have q2 := H1.out.1.docH ⟨_, _, _, n2⟩ (Q' := (fun y => Q y ∧ (Value.slice na ms.length nc).ownBlock ≠ some y)) (fun y e => .inl e.1) kQ
    exact HP0.out.both2 (P' := (fun y => P y ∧ (Value.slice ga ms.length gc).ownBlock ≠ some y)) (Q' := (fun y => Q y ∧ (Value.slice na ms.length nc).ownBlock ≠ some y)) (a' := ({ a.1 with en := [] }, a.2)) q2 (fun y e => .inl e.1) (fun y e => .inl e.1) (((Keeps.refl (fun _ => False) _).alloc _).mono (fun _ e => e.elim) |>.trans H1.out.2.2) (kQ.mono (fun y e => .inr (.inr (.inr e)))) ⟨HP0.out.iw.a, by have := HP0.out.iw.b; show a.1.ev.length + wtq a.1.q ≤ _; omega, by have := HP0.out.iw.c; show 0 + szq a.1.q ≤ _; omega, fun m hm => by cases hm⟩ HP0.out.nq
  have H2K : Hid (Keeps (U4 G H P Q) (opW w 9 wh tg nn (.slice pa pn pc) (.slice ma mn mc)) w2 ∧ OwN w2 0 (.slice ga ms.length gc) (ptL B.T ms) ∧ OwI w2 0 (.slice na ms.length nc) ms) := ⟨H1.out.2.2.trans (kQ.mono (fun y e => .inr (.inr (.inr e)))), owK H1.out.2.1 kQ (fun g hg e => HP0.out.q.pq g (HO.out g hg) e), o2⟩
  have hs2 := HS.out w2 _ H2K.out.1 (fun y e => .inl e)
  clear n n2 o2 k2 kQ H1
  (refine hK.out _ _ ⟨hs2.1.1, hs2.1.2.2.1⟩ (fun hHeld => ?_); clear hK K; try simp only [Act.put, List.setIfInBounds_toArray, List.set_cons_zero, List.set_cons_succ])
  clear hs2
  (refine rgS 11 (h := fun K hK => ?_); go_simp)
  refine (took_any w2 B bb b1 tv H2.out.1.q.b.be H2.out.1.q.b.ot sd hb rb R.bk H2.out.1.bs ga gc na nc ms (fun m hm => by rw [HP0.out.ok.n1]; exact HP0.out.iw.e m (by rw [HMS.out]; exact hm)) H2K.out.2.1 H2K.out.2.2 hml).mono ?_
  rintro e w3 ⟨rfl, k3⟩
  have k3P : Keeps (U4 G H P Q) w2 w3 := k3.mono (fun y e => .inr (.inr (.inl (HO.out y e))))
  have HX : Hid (MvP w G H P Q B bb b1 b2 tv R r1 r2 hb qb rb sb sd a0 ts wd c nw w3) := by
    refine ⟨(fun y => P y ∧ (Value.slice ga ms.length gc).ownBlock ≠ some y), (fun y => Q y ∧ (Value.slice na ms.length nc).ownBlock ≠ some y), ({ a.1 with en := [] }, a.2), H2.out.1.keeps k3 (fun y e => ⟨fun h => ?_, fun h => ?_⟩), fun y e => .inl e.1, fun y e => .inl e.1, H2.out.2.2.trans k3P⟩
    · have hp := HO.out y e
      rcases h with h | h | h | h
      · exact HP0.out.q.gp y h hp
      · exact HP0.out.q.hp y h hp
      · exact h.2 e
      · exact HP0.out.q.pq y hp h.1
    · subst h
      exact HP0.out.ns (.inr (.inr (.inl (HO.out _ e))))
  have hs3 := HS.out w3 _ (H2K.out.1.trans k3P) (fun y e => .inl e)
  clear k3 k3P H2 H2K
  (refine hK.out _ _ ⟨hs3.1.1, hs3.1.2.2.1⟩ (fun hHeld => ?_); clear hK K; try simp only [Act.put, List.setIfInBounds_toArray, List.set_cons_zero, List.set_cons_succ])
  clear hs3
  refine rgT 12 (h := ?_)
  refine wpAnyH_done (by kernel_rfl) ?_ _
  go_wp2
  go_ret
  exact ⟨rfl, HX.out⟩
end Go.Proofs.YtdpebhdjcgiboaaGreat
