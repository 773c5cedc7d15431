import Derived.Test.YtdpebhdjcgiboaaGreatSl1
import Derived.Test.YtdpebhdjcgiboaaGreatSi1
import Derived.Test.YtdpebhdjcgiboaaGreatSk4
namespace Go.Proofs.YtdpebhdjcgiboaaGreat
open Go.ChangeShapes Go.WideShapes Go.ChangeAt Go.RowKit Go.MuLone Go.RwLone
set_option linter.unusedVariables false
set_option maxRecDepth 100000
set_option maxHeartbeats 3200000
/-- The program's bench and the document's, and a harness of each over their threads; p the program's state, r the document's. -/
structure Q4 (w : World) (G H P Q : Nat → Prop) (B : Bd) (bb b1 b2 : Nat) (tv : Value) (R : Rd) (r1 r2 hb qb rb sb : Nat) (a0 : Hp) (pa ra : Hp × Ls) : Prop where
  b : BnF w G B bb b1 b2 tv (a0, pa.2)
  r : BsF w H R r1 r2 (a0, ra.2)
  m : ∃ qv ev en, Hm w P B.T hb qb qv ev en pa.1
  n : ∃ qv ev en, Rh w Q R.bk rb sb qv ev en ra.1
  gh : ∀ y, G y → ¬ H y
  gp : ∀ y, G y → ¬ P y
  gq : ∀ y, G y → ¬ Q y
  hp : ∀ y, H y → ¬ P y
  hq : ∀ y, H y → ¬ Q y
  pq : ∀ y, P y → ¬ Q y
def U4 (G H P Q : Nat → Prop) (y : Nat) : Prop := G y ∨ H y ∨ P y ∨ Q y
section
variable {w w' : World} {G H P Q : Nat → Prop} {B : Bd} {bb b1 b2 : Nat} {tv : Value} {R : Rd} {r1 r2 hb qb rb sb : Nat} {a0 : Hp} {pa ra : Hp × Ls}
theorem Q4.lt (q : Q4 w G H P Q B bb b1 b2 tv R r1 r2 hb qb rb sb a0 pa ra) (y : Nat) (hy : U4 G H P Q y) : y < w.heap.size := by
  rcases hy with h | h | h | h
  · exact q.b.gl y h
  · exact q.r.gl y h
  · obtain ⟨_, _, _, m⟩ := q.m
    exact m.lt y h
  · obtain ⟨_, _, _, m⟩ := q.n
    exact m.lt y h
theorem Q4.keeps {D : Nat → Prop} (q : Q4 w G H P Q B bb b1 b2 tv R r1 r2 hb qb rb sb a0 pa ra) (k : Keeps D w w') (hD : ∀ y, D y → ¬ U4 G H P Q y) : Q4 w' G H P Q B bb b1 b2 tv R r1 r2 hb qb rb sb a0 pa ra := by
  obtain ⟨v1, v2, v3, m⟩ := q.m
  obtain ⟨u1, u2, u3, n⟩ := q.n
  exact ⟨q.b.keeps k (fun y e e' => hD y e (.inl e')), q.r.keeps k (fun y e e' => hD y e (.inr (.inl e'))), ⟨v1, v2, v3, m.keeps k (fun y e e' => hD y e (.inr (.inr (.inl e'))))⟩, ⟨u1, u2, u3, n.keeps k (fun y e e' => hD y e (.inr (.inr (.inr e'))))⟩, q.gh, q.gp, q.gq, q.hp, q.hq, q.pq⟩
theorem Q4.still (q : Q4 w G H P Q B bb b1 b2 tv R r1 r2 hb qb rb sb a0 pa ra) (k : Keeps (fun _ => False) w w') : Q4 w' G H P Q B bb b1 b2 tv R r1 r2 hb qb rb sb a0 pa ra := q.keeps k (fun _ e => e.elim)
/-- A bench whose threads were stepped by another harness. -/
theorem BnF.moved {D : Nat → Prop} {s s' : Ls} (b : BnF w G B bb b1 b2 tv (a0, s)) (o : Bo B w' s') (k : Keeps (fun x => D x ∨ fB B x) w w') (hD : ∀ y, D y → ¬ G y) : BnF w' G B bb b1 b2 tv (a0, s') := by
  obtain ⟨F, qv, ev, en, m, d, l, nb, nt⟩ := b.h
  have lb := (Array.getElem?_eq_some_iff.1 b.be).1
  exact ⟨⟨F, qv, ev, en, m.keeps k (fun x hx hF => hx.elim (fun e => hD x e (l x hF)) (d x hF)), d, l, nb, nt⟩, o, b.lo, b.iv, (k.block bb lb (fun e => e.elim (fun e => hD _ e b.gb) b.nb)).trans b.be, owK b.ot k (fun g hg e => e.elim (fun e => hD g e (b.gt g hg)) (b.nt g hg)), b.nb, b.nt, b.gb, b.gt, fun y hy => Nat.lt_of_lt_of_le (b.gl y hy) k.size⟩
theorem BsF.moved (hR : RdOk R) {D : Nat → Prop} {s s' : Ls} (b : BsF w H R r1 r2 (a0, s)) (o : RP R w' s') (k : Keeps (fun x => D x ∨ fRw R x) w w') (hD : ∀ y, D y → ¬ H y) : BsF w' H R r1 r2 (a0, s') := by
  obtain ⟨F, qv, ev, en, m, l⟩ := b.m
  have lb : R.bk < w.heap.size := b.o.lt _ (.inr (.inl rfl))
  exact ⟨⟨F, qv, ev, en, m.keeps k (fun x hx hF => hx.elim (fun e => hD x e (l x hF).1) (fun e => (l x hF).2 (.inl e))), l⟩, o, b.iv, b.fr, (k.cell (p := ⟨R.bk, 2, none⟩) lb (fun e => e.elim (fun e => hD _ e (b.fr _ (.inr (.inl rfl)))) (fun e => hR.bk e))).trans b.hp, fun y hy => Nat.lt_of_lt_of_le (b.gl y hy) k.size, b.cw⟩
/-- The program's half moved. -/
theorem Q4.prog {hB : BdOk B} {P' : Nat → Prop} {qv' : Nat → Value} {ev' en' : Value} {h' : Hp} {s' : Ls} (q : Q4 w G H P Q B bb b1 b2 tv R r1 r2 hb qb rb sb a0 pa ra) (md : Mid (mcB B hB) w w' P hb qb P' qv' ev' en' h' s') : Q4 w' G H P' Q B bb b1 b2 tv R r1 r2 hb qb rb sb a0 (h', s') ra ∧ (∀ y, P' y → P y ∨ w.heap.size ≤ y) ∧ Keeps (U4 G H P Q) w w' := by
  obtain ⟨u1, u2, u3, n⟩ := q.n
  have kk : Keeps (fun x => P x ∨ fB B x) w w' := md.k
  have far : ∀ y, P y ∨ fB B y → P y ∨ G y := fun y e => e.imp id (q.b.lo y)
  have new : ∀ y, P' y → P y ∨ w.heap.size ≤ y := md.f
  refine ⟨⟨q.b.moved md.o kk (fun y e e' => q.gp y e' e), q.r.keeps kk (fun y e e' => (far y e).elim (fun e => q.hp y e' e) (fun e => q.gh y e e')), ⟨_, _, _, md.m⟩, ⟨u1, u2, u3, n.keeps kk (fun y e e' => (far y e).elim (fun e => q.pq y e e') (fun e => q.gq y e e'))⟩, q.gh, fun y e e' => ?_, q.gq, fun y e e' => ?_, q.hq, fun y e e' => ?_⟩, new, kk.mono (fun y e => (far y e).elim (fun e => .inr (.inr (.inl e))) .inl)⟩
  · rcases new y e' with h | h
    · exact q.gp y e h
    · have := q.b.gl y e; omega
  · rcases new y e' with h | h
    · exact q.hp y e h
    · have := q.r.gl y e; omega
  · rcases new y e with h | h
    · exact q.pq y h e'
    · have := n.lt y e'; omega
/-- The document's half moved. -/
theorem Q4.doc (hR : RdOk R) {a' : Hp × Ls} (q : Q4 w G H P Q B bb b1 b2 tv R r1 r2 hb qb rb sb a0 pa ra) (pr : Pr R w w' Q rb sb a') : ∃ Q', Q4 w' G H P Q' B bb b1 b2 tv R r1 r2 hb qb rb sb a0 pa a' ∧ (∀ y, Q' y → Q y ∨ w.heap.size ≤ y) ∧ Keeps (U4 G H P Q) w w' := by
  obtain ⟨v1, v2, v3, m⟩ := q.m
  obtain ⟨Q', u1, u2, u3, n, new, _⟩ := pr.mid
  have kk : Keeps (fun x => Q x ∨ fRw R x) w w' := pr.k
  have far : ∀ y, Q y ∨ fRw R y → Q y ∨ H y := fun y e => e.imp id (fun e => q.r.fr y (.inl e))
  refine ⟨Q', ⟨q.b.keeps kk (fun y e e' => (far y e).elim (fun e => q.gq y e' e) (fun e => q.gh y e' e)), q.r.moved hR pr.o kk (fun y e e' => q.hq y e' e), ⟨v1, v2, v3, m.keeps kk (fun y e e' => (far y e).elim (fun e => q.pq y e' e) (fun e => q.hp y e e'))⟩, ⟨u1, u2, u3, n⟩, q.gh, q.gp, fun y e e' => ?_, q.hp, fun y e e' => ?_, fun y e e' => ?_⟩, new, kk.mono (fun y e => (far y e).elim (fun e => .inr (.inr (.inr e))) (fun e => .inr (.inl e)))⟩
  · rcases new y e' with h | h
    · exact q.gq y e h
    · have := q.b.gl y e; omega
  · rcases new y e' with h | h
    · exact q.hq y e h
    · have := q.r.gl y e; omega
  · rcases new y e' with h | h
    · exact q.pq y e h
    · have := m.lt y e; omega
/-- The program's harness alone was changed, in its own blocks. -/
theorem Q4.progH {P' : Nat → Prop} {h' : Hp} (q : Q4 w G H P Q B bb b1 b2 tv R r1 r2 hb qb rb sb a0 pa ra) (m : ∃ qv ev en, Hm w' P' B.T hb qb qv ev en h') (new : ∀ y, P' y → P y ∨ w.heap.size ≤ y) (kk : Keeps P w w') : Q4 w' G H P' Q B bb b1 b2 tv R r1 r2 hb qb rb sb a0 (h', pa.2) ra := by
  obtain ⟨u1, u2, u3, n⟩ := q.n
  refine ⟨q.b.keeps kk (fun y e e' => q.gp y e' e), q.r.keeps kk (fun y e e' => q.hp y e' e), m, ⟨u1, u2, u3, n.keeps kk (fun y e e' => q.pq y e e')⟩, q.gh, fun y e e' => ?_, q.gq, fun y e e' => ?_, q.hq, fun y e e' => ?_⟩
  · rcases new y e' with h | h
    · exact q.gp y e h
    · have := q.b.gl y e; omega
  · rcases new y e' with h | h
    · exact q.hp y e h
    · have := q.r.gl y e; omega
  · rcases new y e with h | h
    · exact q.pq y h e'
    · have := n.lt y e'; omega
theorem Q4.docH {Q' : Nat → Prop} {h' : Hp} (q : Q4 w G H P Q B bb b1 b2 tv R r1 r2 hb qb rb sb a0 pa ra) (n : ∃ qv ev en, Rh w' Q' R.bk rb sb qv ev en h') (new : ∀ y, Q' y → Q y ∨ w.heap.size ≤ y) (kk : Keeps Q w w') : Q4 w' G H P Q' B bb b1 b2 tv R r1 r2 hb qb rb sb a0 pa (h', ra.2) := by
  obtain ⟨v1, v2, v3, m⟩ := q.m
  refine ⟨q.b.keeps kk (fun y e e' => q.gq y e' e), q.r.keeps kk (fun y e e' => q.hq y e' e), ⟨v1, v2, v3, m.keeps kk (fun y e e' => q.pq y e' e)⟩, n, q.gh, q.gp, fun y e e' => ?_, q.hp, fun y e e' => ?_, fun y e e' => ?_⟩
  · rcases new y e' with h | h
    · exact q.gq y e h
    · have := q.b.gl y e; omega
  · rcases new y e' with h | h
    · exact q.hq y e h
    · have := q.r.gl y e; omega
  · rcases new y e' with h | h
    · exact q.pq y e h
    · have := m.lt y e; omega
end
end Go.Proofs.YtdpebhdjcgiboaaGreat

namespace Go.Proofs.YtdpebhdjcgiboaaGreat
open Go.ChangeShapes Go.WideShapes Go.ChangeAt Go.RowKit Go.MuLone Go.RwLone
set_option linter.unusedVariables false
set_option maxRecDepth 100000
set_option maxHeartbeats 3200000
/-- What has ended is taken. -/
theorem Hm.take {w : World} {F : Nat → Prop} {pt : Nat → Nat} {hb qb : Nat} {qv : Nat → Value} {ev en : Value} {h : Hp} (m : Hm w F pt hb qb qv ev en h) : Hm (w.setCell ⟨hb, 3, none⟩ (.slice none 0 0)) (fun y => F y ∧ en.ownBlock ≠ some y) pt hb qb qv ev (.slice none 0 0) { h with en := [] } := by
  have k : Keeps (fun g => g = hb) w (w.setCell ⟨hb, 3, none⟩ (.slice none 0 0)) := Keeps.setCell (B := fun g => g = hb) (Keeps.refl _ _) rfl _
  have hq := m.lt _ m.fq
  obtain ⟨c, hc⟩ := m.qt
  exact ⟨heapSet m.hc _, ⟨c, (k.block _ hq (fun e => m.hq e.symm)).trans hc⟩, fun i hi => (k.cell (p := ⟨qb, i, none⟩) hq (fun e => m.hq e.symm)).trans (m.qc i hi), fun i hi => owK (m.ql i hi) k (fun g hg e => (m.rows i hi g hg).1 e), m.qa, owK m.oe k (fun g hg e => (m.evs g hg).1 e), OwG.nil _ _ _ _ _, ⟨m.fh, fun e => (m.ens hb e).1 rfl⟩, ⟨m.fq, fun e => (m.ens qb e).2 rfl⟩, fun i g hi hg => ⟨m.fr i g hi hg, (m.rows i hi g hg).2.2.2⟩, fun g hg => ⟨m.fe g hg, (m.evs g hg).2.2⟩, (fun g hg => by cases hg), fun x hx => by simpa using m.lt x hx.1, m.n16⟩
/-- The program's Take. -/
theorem htake (w : World) (F : Nat → Prop) (pt : Nat → Nat) (hb qb : Nat) (qv : Nat → Value) (ev en : Value) (h : Hp) (m : Hm w F pt hb qb qv ev en h) :
    Calls Tryz.prog 18 #[.pointer (some ⟨hb, 0, none⟩)] w fun e w' => e = .returned en ∧ Hm w' (fun y => F y ∧ en.ownBlock ≠ some y) pt hb qb qv ev (.slice none 0 0) { h with en := [] } ∧ OwT w' 0 en (h.en.map pt) ∧ Keeps (fun y => y = hb) w w' := by
  obtain ⟨na, nc, hen⟩ := m.ot.form
  have c3 : w.cell? ⟨hb, 3, none⟩ = some (.slice na (h.en.map pt).length nc) := by
    have := (cell?_heap m.hc 3).trans rfl
    rw [← hen]
    exact this
  have f3 := frozen?_heap m.hc 3
  have HX : Hid (Hm (w.setCell ⟨hb, 3, none⟩ (.slice none 0 0)) (fun y => F y ∧ en.ownBlock ≠ some y) pt hb qb qv ev (.slice none 0 0) { h with en := [] } ∧ OwT (w.setCell ⟨hb, 3, none⟩ (.slice none 0 0)) 0 en (h.en.map pt) ∧ Keeps (fun y => y = hb) w (w.setCell ⟨hb, 3, none⟩ (.slice none 0 0))) := by
    have k : Keeps (fun g => g = hb) w (w.setCell ⟨hb, 3, none⟩ (.slice none 0 0)) := Keeps.setCell (B := fun g => g = hb) (Keeps.refl _ _) rfl _
    exact ⟨m.take, owK m.ot k (fun g hg e => (m.ens g hg).1 e), k⟩
  have HE : Hid (en = .slice na (h.en.map pt).length nc) := hen
  clear m hen
  generalize (h.en.map pt).length = nl at *
  go_enter Tryz.func18, Tryz.ntmps18
  go_wp2
  go_ret
  exact ⟨by rw [HE.out]; rfl, HX.out⟩
/-- The program's Steps. -/
theorem hsteps (w : World) (F : Nat → Prop) (pt : Nat → Nat) (hb qb : Nat) (qv : Nat → Value) (ev en : Value) (h : Hp) (m : Hm w F pt hb qb qv ev en h) :
    Calls Tryz.prog 12 #[.pointer (some ⟨hb, 0, none⟩)] w fun e w' => e = .returned (.int .i64 h.st) ∧ w' = w := by
  have c1 : w.cell? ⟨hb, 1, none⟩ = some (.int .i64 h.st) := (cell?_heap m.hc 1).trans rfl
  clear m
  go_enter Tryz.func12, Tryz.ntmps12
  go_wp2
  go_ret
  exact ⟨rfl, rfl⟩
/-- What has ended is taken. -/
theorem Rh.take {w : World} {F : Nat → Prop} {pt : Nat} {hb qb : Nat} {qv : Nat → Value} {ev en : Value} {h : Hp} (m : Rh w F pt hb qb qv ev en h) : Rh (w.setCell ⟨hb, 4, none⟩ (.slice none 0 0)) (fun y => F y ∧ en.ownBlock ≠ some y) pt hb qb qv ev (.slice none 0 0) { h with en := [] } := by
  have k : Keeps (fun g => g = hb) w (w.setCell ⟨hb, 4, none⟩ (.slice none 0 0)) := Keeps.setCell (B := fun g => g = hb) (Keeps.refl _ _) rfl _
  have hq := m.lt _ m.fq
  obtain ⟨c, hc⟩ := m.qt
  exact ⟨heapSet m.hc _, ⟨c, (k.block _ hq (fun e => m.hq e.symm)).trans hc⟩, fun i hi => (k.cell (p := ⟨qb, i, none⟩) hq (fun e => m.hq e.symm)).trans (m.qc i hi), fun i hi => owK (m.ql i hi) k (fun g hg e => (m.rows i hi g hg).1 e), m.qa, owK m.oe k (fun g hg e => (m.evs g hg).1 e), OwG.nil _ _ _ _ _, ⟨m.fh, fun e => (m.ens hb e).1 rfl⟩, ⟨m.fq, fun e => (m.ens qb e).2 rfl⟩, fun i g hi hg => ⟨m.fr i g hi hg, (m.rows i hi g hg).2.2.2⟩, fun g hg => ⟨m.fe g hg, (m.evs g hg).2.2⟩, (fun g hg => by cases hg), fun x hx => by simpa using m.lt x hx.1, m.n16⟩
/-- The document's Take. -/
theorem rtake (w : World) (F : Nat → Prop) (pt hb qb : Nat) (qv : Nat → Value) (ev en : Value) (h : Hp) (m : Rh w F pt hb qb qv ev en h) :
    Calls Tryz.prog 77 #[.pointer (some ⟨hb, 0, none⟩)] w fun e w' => e = .returned en ∧ Rh w' (fun y => F y ∧ en.ownBlock ≠ some y) pt hb qb qv ev (.slice none 0 0) { h with en := [] } ∧ OwI w' 0 en h.en ∧ Keeps (fun y => y = hb) w w' := by
  obtain ⟨na, nc, hen⟩ := m.ot.form
  have c3 : w.cell? ⟨hb, 4, none⟩ = some (.slice na h.en.length nc) := by
    have := (cell?_heap m.hc 4).trans rfl
    rw [← hen]
    exact this
  have f3 := frozen?_heap m.hc 4
  have HX : Hid (Rh (w.setCell ⟨hb, 4, none⟩ (.slice none 0 0)) (fun y => F y ∧ en.ownBlock ≠ some y) pt hb qb qv ev (.slice none 0 0) { h with en := [] } ∧ OwI (w.setCell ⟨hb, 4, none⟩ (.slice none 0 0)) 0 en h.en ∧ Keeps (fun y => y = hb) w (w.setCell ⟨hb, 4, none⟩ (.slice none 0 0))) := by
    have k : Keeps (fun g => g = hb) w (w.setCell ⟨hb, 4, none⟩ (.slice none 0 0)) := Keeps.setCell (B := fun g => g = hb) (Keeps.refl _ _) rfl _
    exact ⟨m.take, owK m.ot k (fun g hg e => (m.ens g hg).1 e), k⟩
  have HE : Hid (en = .slice na h.en.length nc) := hen
  clear m hen
  generalize h.en.length = nl at *
  go_enter Tryz.func77, Tryz.ntmps77
  go_wp2
  go_ret
  exact ⟨by rw [HE.out]; rfl, HX.out⟩
/-- The document's Steps. -/
theorem rsteps (w : World) (F : Nat → Prop) (pt hb qb : Nat) (qv : Nat → Value) (ev en : Value) (h : Hp) (m : Rh w F pt hb qb qv ev en h) :
    Calls Tryz.prog 72 #[.pointer (some ⟨hb, 0, none⟩)] w fun e w' => e = .returned (.int .i64 h.st) ∧ w' = w := by
  have c1 : w.cell? ⟨hb, 2, none⟩ = some (.int .i64 h.st) := (cell?_heap m.hc 2).trans rfl
  clear m
  go_enter Tryz.func72, Tryz.ntmps72
  go_wp2
  go_ret
  exact ⟨rfl, rfl⟩
/-- A worker's step, if one is due. -/
def stX (M : Mc) (a : Hp × M.σ) (x : Int) : Hp × M.σ := if pendP a.1 x = 0 then a else (stepP M a x.toNat).1
theorem stX_go {M : Mc} {a : Hp × M.σ} {i : Nat} (h : ¬ pendP a.1 (i : Int) = 0) : stX M a (i : Int) = (stepP M a i).1 := by
  unfold stX
  rw [if_neg h, Int.toNat_natCast]
theorem stX_no {M : Mc} {a : Hp × M.σ} {x : Int} (h : pendP a.1 x = 0) : stX M a x = a := by
  unfold stX
  rw [if_pos h]
theorem Mid.same {M : Mc} {w : World} {F : Nat → Prop} {hb qb : Nat} {qv : Nat → Value} {ev en : Value} {h : Hp} {s : M.σ} (m : Hm w F M.pt hb qb qv ev en h) (o : M.ok w s) (d : ∀ y, F y → ¬ M.F y) : Mid M w w F hb qb F qv ev en h s := ⟨m, o, Keeps.refl _ _, fun y hy => .inl hy, d⟩
/-- The program's Step. -/
theorem hStep_any (M : Mc) (w : World) (F : Nat → Prop) (hb qb : Nat) (qv : Nat → Value) (ev en : Value) (a : Hp × M.σ) (m : Hm w F M.pt hb qb qv ev en a.1) (o : M.ok w a.2) (d : ∀ y, F y → ¬ M.F y) (iv : Iv M.N a.1) (x : Int) :
    Calls Tryz.prog 64 #[.pointer (some ⟨hb, 0, none⟩), .int .i64 x] w fun e w' => e = .returned (.bool (!decide (pendP a.1 x = 0))) ∧ ∃ F' qv' ev' en', Mid M w w' F hb qb F' qv' ev' en' (stX M a x).1 (stX M a x).2 := by
  have HP : Hid (∀ _ : Unit, _) := fun _ => hpend_any m x
  obtain ⟨pd, hpd⟩ : ∃ pd, pendP a.1 x = pd := ⟨_, rfl⟩
  rw [hpd] at HP
  by_cases h0 : pd = 0
  · subst h0
    have HX : Hid (∃ F' qv' ev' en', Mid M w w F hb qb F' qv' ev' en' (stX M a x).1 (stX M a x).2) := ⟨F, qv, ev, en, by unfold stX; rw [if_pos hpd]; exact Mid.same m o d⟩
    rw [hpd]
    clear m o d iv hpd
    go_enter Tryz.func64, Tryz.ntmps64
    go_wp2_with fail
    refine (HP.out ()).mono ?_
    rintro e w' ⟨rfl, rfl⟩
    go_wp2
    go_ret
    exact ⟨rfl, HX.out⟩
  · obtain ⟨hx0, hxl, y, l, hq⟩ := pend_head (h := a.1) (x := x) (by rw [hpd]; exact h0)
    obtain ⟨i, rfl⟩ : ∃ i : Nat, x = (i : Int) := ⟨x.toNat, by omega⟩
    rw [Int.toNat_natCast] at hxl hq
    have ha := iv.a i _ hq
    have hqe : a.1.q[i] = y :: l := (List.getElem?_eq_some_iff.1 hq).2
    have hst := hstep_any M w F hb qb qv ev en a.1 a.2 i y l m o d hxl hqe (ha.2 y (List.mem_cons_self ..)) (by have := ha.1; simp at this; omega) (by have := iv.b; omega) (by have := iv.c; omega)
    have hsx : stX M a (i : Int) = ((stepQ M a.1 a.2 i y l).1, (stepQ M a.1 a.2 i y l).2.1) := by
      unfold stX
      rw [if_neg (by rw [hpd]; exact h0), Int.toNat_natCast]
      unfold stepP
      rw [hq]
    have HS : Hid (∀ _ : Unit, _) := fun _ => hst
    have HSX : Hid (stX M a (i : Int) = ((stepQ M a.1 a.2 i y l).1, (stepQ M a.1 a.2 i y l).2.1)) := hsx
    have hd : ¬ (pd : Int) = 0 := by omega
    have hdd : (!decide (pd = 0)) = true := by simp [h0]
    rw [hpd, hdd]
    clear m o d iv hpd hst hsx ha hq hqe
    go_enter Tryz.func64, Tryz.ntmps64
    go_wp2_with fail
    refine (HP.out ()).mono ?_
    rintro e w' ⟨rfl, rfl⟩
    go_wp2_with fail
    refine (HS.out ()).mono ?_
    rintro e w2 ⟨rfl, hm⟩
    have HM : Hid (∃ F' qv' ev' en', Mid M w' w2 F hb qb F' qv' ev' en' (stX M a (i : Int)).1 (stX M a (i : Int)).2) := by
      show ∃ _, _
      rw [HSX.out]
      exact hm
    clear hm HS HSX
    go_wp2
    go_ret
    exact ⟨rfl, HM.out⟩
/-- The document's Step. -/
theorem rStep_any {R : Rd} (hR : RdOk R) {w : World} {F : Nat → Prop} {hb qb : Nat} {a : Hp × Ls} (p : Pr R w w F hb qb a) (x : Int) :
    Calls Tryz.prog 65 #[.pointer (some ⟨hb, 0, none⟩), .int .i64 x] w fun e w' => e = .returned (.bool (!decide (pendP a.1 x = 0))) ∧ Pr R w w' F hb qb (stX (PM R) a x) := by
  by_cases h0 : pendP a.1 x = 0
  · have hdd : (!decide (pendP a.1 x = 0)) = false := by simp [h0]
    have hsx : stX (PM R) a x = a := stX_no (M := PM R) h0
    rw [hdd, hsx]
    obtain ⟨F', qv, ev, en, m, f, d⟩ := p.mid
    have ch : w.cell? ⟨hb, 1, none⟩ = some (.slice (some ⟨qb, 0, none⟩) a.1.q.length a.1.q.length) := (cell?_heap m.hc 1).trans rfl
    have hwk := rhas_any w hb a.1.q.length (some ⟨qb, 0, none⟩) a.1.q.length x ch
    have HP : Hid (Pr R w w F hb qb a) := p
    by_cases hx : 0 ≤ x ∧ x < (a.1.q.length : Int)
    · have hdec : decide (0 ≤ x ∧ x < (a.1.q.length : Int)) = true := decide_eq_true hx
      rw [hdec] at hwk
      obtain ⟨i, rfl⟩ : ∃ i : Nat, x = (i : Int) := ⟨x.toNat, by omega⟩
      have hi : i < a.1.q.length := by omega
      have hz : a.1.q[i].length = 0 := by
        have := h0
        rw [pendP_at (List.getElem?_eq_getElem hi)] at this
        exact this
      obtain ⟨ra, rc, hra⟩ := (m.ql i hi).form
      rw [hz] at hra
      have cr : w.cell? ⟨qb, i, none⟩ = some (.slice ra 0 rc) := by rw [← hra]; exact m.qc i hi
      have i0 : (0 : Int) ≤ (i : Int) := Int.natCast_nonneg _
      have i1 : (i : Int) < (a.1.q.length : Int) := by omega
      have HWK : Hid (∀ _ : Unit, _) := fun _ => hwk
      clear m f d hra hwk hdec hx h0 hdd hsx p hz
      generalize a.1.q.length = n at *
      go_enter Tryz.func65, Tryz.ntmps65
      go_wp2_with fail
      refine (HWK.out ()).mono ?_
      rintro e w' ⟨rfl, rfl⟩
      go_wp2
      go_ret
      exact ⟨rfl, HP.out⟩
    · have hdec : decide (0 ≤ x ∧ x < (a.1.q.length : Int)) = false := decide_eq_false hx
      rw [hdec] at hwk
      have HWK : Hid (∀ _ : Unit, _) := fun _ => hwk
      clear m f d hwk hdec hx h0 hdd hsx p ch
      go_enter Tryz.func65, Tryz.ntmps65
      go_wp2_with fail
      refine (HWK.out ()).mono ?_
      rintro e w' ⟨rfl, rfl⟩
      go_wp2
      go_ret
      exact ⟨rfl, HP.out⟩
  · obtain ⟨hx0, hxl, y, l, hq⟩ := pend_head (h := a.1) (x := x) h0
    obtain ⟨i, rfl⟩ : ∃ i : Nat, x = (i : Int) := ⟨x.toNat, by omega⟩
    rw [Int.toNat_natCast] at hxl hq
    have hdd : (!decide (pendP a.1 (i : Int) = 0)) = true := by simp [h0]
    have hsx : stX (PM R) a (i : Int) = (stepP (PM R) a i).1 := stX_go (M := PM R) h0
    rw [hdd, hsx]
    exact rpstep_any hR p i y l hq
end Go.Proofs.YtdpebhdjcgiboaaGreat
