import Derived.Test.YtdpebhdjcgiboaaGreatKSi1
import Derived.Laws.StructEq
namespace Go.Proofs.YtdpebhdjcgiboaaGreat
set_option linter.unusedSimpArgs false
open Go.ChangeShapes Go.WideShapes Go.ChangeAt Go.RowKit Go.MuLone Go.RwLone
set_option linter.unusedVariables false
set_option maxRecDepth 100000
set_option maxHeartbeats 3200000
abbrev Ev4 := Int × Int × Int × Int
end Go.Proofs.YtdpebhdjcgiboaaGreat

namespace Go.Proofs.YtdpebhdjcgiboaaGreat
set_option linter.unusedSimpArgs false
open Go.ChangeShapes Go.WideShapes Go.ChangeAt Go.RowKit Go.MuLone Go.RwLone
set_option linter.unusedVariables false
set_option maxRecDepth 100000
set_option maxHeartbeats 3200000
/-- A bench, all of whose blocks are in G. -/
structure BnF (w : World) (G : Nat → Prop) (B : Bd) (bb hb qb : Nat) (tv : Value) (a : Hp × Ls) : Prop where
  h : ∃ F qv ev en, Hm w F B.T hb qb qv ev en a.1 ∧ (∀ y, F y → ¬ fB B y) ∧ (∀ y, F y → G y) ∧ ¬ F bb ∧ (∀ g, tv.ownBlock = some g → ¬ F g)
  o : Bo B w a.2
  lo : ∀ y, fB B y → G y
  iv : Iv B.n a.1
  be : w.heap[bb]? = some (.cells (beA B.L tv hb) 146)
  ot : OwT w 0 tv ((List.range B.n).map B.T)
  nb : ¬ fB B bb
  nt : ∀ g, tv.ownBlock = some g → ¬ fB B g
  gb : G bb
  gt : ∀ g, tv.ownBlock = some g → G g
  gl : ∀ y, G y → y < w.heap.size
section
variable {w w' : World} {G : Nat → Prop} {B : Bd} {bb hb qb : Nat} {tv : Value} {a : Hp × Ls}
theorem BnF.keeps {D : Nat → Prop} (b : BnF w G B bb hb qb tv a) (k : Keeps D w w') (hD : ∀ y, D y → ¬ G y) : BnF w' G B bb hb qb tv a := by
  obtain ⟨F, qv, ev, en, m, d, l, nb, nt⟩ := b.h
  exact ⟨⟨F, qv, ev, en, m.keeps k (fun x hx hF => hD x hx (l x hF)), d, l, nb, nt⟩, b.o.far k (fun x hx e => hD x hx (b.lo x e)), b.lo, b.iv, (k.block _ (Array.getElem?_eq_some_iff.1 b.be).1 (fun e => hD _ e b.gb)).trans b.be, owK b.ot k (fun g hg e => hD g e (b.gt g hg)), b.nb, b.nt, b.gb, b.gt, fun y hy => Nat.lt_of_lt_of_le (b.gl y hy) k.size⟩
theorem BnF.still (b : BnF w G B bb hb qb tv a) (k : Keeps (fun _ => False) w w') : BnF w' G B bb hb qb tv a := b.keeps k (fun _ e => e.elim)
theorem BnF.of {w0 : World} (b : BnG w0 w B bb hb qb tv a) : BnF w (fun y => w0.heap.size ≤ y ∧ y < w.heap.size) B bb hb qb tv a := by
  obtain ⟨F, qv, ev, en, m, d, l, nb, nt⟩ := b.h
  have lb := (Array.getElem?_eq_some_iff.1 b.be).1
  exact ⟨⟨F, qv, ev, en, m, d, fun y hy => ⟨l y hy, m.lt y hy⟩, nb, nt⟩, b.o, fun y hy => ⟨b.lo y hy, b.o.lt hy⟩, b.iv, b.be, b.ot, b.nb, b.nt, ⟨b.b0, lb⟩, fun g hg => ⟨b.ol g hg, own_lt b.ot hg⟩, fun y hy => hy.2⟩
theorem BnF.g (b : BnF w G B bb hb qb tv a) : BnG { w with heap := #[] } w B bb hb qb tv a := by
  obtain ⟨F, qv, ev, en, m, d, l, nb, nt⟩ := b.h
  exact ⟨⟨F, qv, ev, en, m, d, fun y _ => Nat.zero_le _, nb, nt⟩, b.o, fun y _ => Nat.zero_le _, b.iv, b.be, b.ot, b.nb, b.nt, Nat.zero_le _, ⟨rfl, rfl, rfl, Nat.zero_le _, fun x hx => absurd hx (Nat.not_lt_zero _)⟩, fun _ _ => Nat.zero_le _⟩
end
/-- The document's bench, all of whose blocks are in G. -/
structure BsF (w : World) (G : Nat → Prop) (R : Rd) (hb qb : Nat) (a : Hp × Ls) : Prop where
  m : ∃ F qv ev en, Rh w F R.bk hb qb qv ev en a.1 ∧ ∀ y, F y → G y ∧ ¬ fR R y
  o : RP R w a.2
  iv : Iv R.n a.1
  fr : ∀ y, fR R y → G y
  hp : w.cell? ⟨R.bk, 2, none⟩ = some (.pointer (some ⟨hb, 0, none⟩))
  gl : ∀ y, G y → y < w.heap.size
  cw : R.wd ≤ R.cc
section
variable {w w' : World} {G : Nat → Prop} {R : Rd} {hb qb : Nat} {a : Hp × Ls}
theorem BsF.keeps {D : Nat → Prop} (h : BsF w G R hb qb a) (k : Keeps D w w') (hD : ∀ y, D y → ¬ G y) : BsF w' G R hb qb a := by
  obtain ⟨F, qv, ev, en, m, l⟩ := h.m
  exact ⟨⟨F, qv, ev, en, m.keeps k (fun x hx hF => hD x hx (l x hF).1), l⟩, h.o.keeps k (fun y hy e => hD y hy (h.fr y e)), h.iv, h.fr, (k.cell (p := ⟨R.bk, 2, none⟩) (h.o.lt _ (.inr (.inl rfl))) (fun e => hD _ e (h.fr _ (.inr (.inl rfl))))).trans h.hp, fun y hy => Nat.lt_of_lt_of_le (h.gl y hy) k.size, h.cw⟩
theorem BsF.still (h : BsF w G R hb qb a) (k : Keeps (fun _ => False) w w') : BsF w' G R hb qb a := h.keeps k (fun _ e => e.elim)
theorem BsF.of {w0 : World} (b : Bs w0 w R hb qb a) : BsF w (fun y => w0.heap.size ≤ y ∧ y < w.heap.size) R hb qb a := by
  obtain ⟨F, qv, ev, en, m, l⟩ := b.m
  exact ⟨⟨F, qv, ev, en, m, fun y hy => ⟨⟨(l y hy).1, m.lt y hy⟩, (l y hy).2⟩⟩, b.o, b.iv, fun y hy => ⟨b.fr y hy, b.o.lt y hy⟩, b.hp, fun y hy => hy.2, b.cw⟩
end
end Go.Proofs.YtdpebhdjcgiboaaGreat

namespace Go.Proofs.YtdpebhdjcgiboaaGreat
open Go.ChangeShapes Go.WideShapes Go.ChangeAt Go.RowKit Go.MuLone Go.RwLone
set_option linter.unusedVariables false
set_option maxRecDepth 100000
set_option maxHeartbeats 6400000
/-- What does not change of two benches of one program. -/
structure PairOk (B : Bd) (R : Rd) (ts : List (List I8)) (wd : Nat) : Prop where
  hB : BdOk B
  hR : RdOk R
  n1 : B.n = ts.length
  w1 : B.wd = wd
  i1 : B.ins = insL ts
  n2 : R.n = ts.length
  w2 : R.wd = wd
  i2 : R.ins = insL ts
  n4 : 1 ≤ ts.length ∧ ts.length ≤ 4
  w4 : wd ≤ 4
/-- The program's bench and the document's, in the same state. -/
structure Pair (w : World) (G H : Nat → Prop) (B : Bd) (bb hb qb : Nat) (tv : Value) (R : Rd) (rh rq : Nat) (ts : List (List I8)) (a : Hp × Ls) : Prop where
  b : BnF w G B bb hb qb tv a
  r : BsF w H R rh rq a
  dj : ∀ y, G y → ¬ H y
  j : Jb (insL ts) ts.length a
  ph : phA (insL ts) ts.length a ≤ 14
section
variable {w w' : World} {G H : Nat → Prop} {B : Bd} {bb hb qb : Nat} {tv : Value} {R : Rd} {rh rq : Nat} {ts : List (List I8)} {a : Hp × Ls} {wd : Nat}
end
/-- What one turn leaves. -/
def TurnP (w : World) (G H : Nat → Prop) (B : Bd) (bb hb qb : Nat) (tv : Value) (R : Rd) (rh rq : Nat) (ts : List (List I8)) (w' : World) : Prop :=
  ∃ G' H' a', Pair w' G' H' B bb hb qb tv R rh rq ts a' ∧ (∀ y, G' y → G y ∨ w.heap.size ≤ y) ∧ (∀ y, H' y → H y ∨ w.heap.size ≤ y) ∧ Keeps (fun y => G y ∨ H y) w w'
end Go.Proofs.YtdpebhdjcgiboaaGreat

namespace Go.Proofs.YtdpebhdjcgiboaaGreat
open Go.ChangeShapes Go.WideShapes Go.ChangeAt Go.RowKit Go.MuLone Go.RwLone
set_option linter.unusedVariables false
set_option maxRecDepth 100000
set_option maxHeartbeats 6400000
end Go.Proofs.YtdpebhdjcgiboaaGreat

namespace Go.Proofs.YtdpebhdjcgiboaaGreat
open Go.ChangeShapes Go.WideShapes Go.ChangeAt Go.RowKit Go.MuLone Go.RwLone
set_option linter.unusedVariables false
set_option maxRecDepth 100000
set_option maxHeartbeats 3200000
/-- The program's bench and the document's, and a harness of each over their threads; p the program's state, r the document's. -/
structure Q4 (w : World) (G H P Q : Nat → Prop) (B : Bd) (bb b1 b2 : Nat) (tv : Value) (R : Rd) (r1 r2 hb qb rb sb : Nat) (a0 : Hp) (pa ra : Hp × Ls) : Prop where
  b : BnF w G B bb b1 b2 tv (a0, pa.2)
  r : BsF w H R r1 r2 (a0, ra.2)
  m : ∃ qv ev en, Hm w P B.T hb qb qv ev en pa.1
  n : ∃ qv ev en, Rh w Q R.bk rb sb qv ev en ra.1
  gh : ∀ y, G y → ¬ H y
  gp : ∀ y, G y → ¬ P y
  gq : ∀ y, G y → ¬ Q y
  hp : ∀ y, H y → ¬ P y
  hq : ∀ y, H y → ¬ Q y
  pq : ∀ y, P y → ¬ Q y
def U4 (G H P Q : Nat → Prop) (y : Nat) : Prop := G y ∨ H y ∨ P y ∨ Q y
section
variable {w w' : World} {G H P Q : Nat → Prop} {B : Bd} {bb b1 b2 : Nat} {tv : Value} {R : Rd} {r1 r2 hb qb rb sb : Nat} {a0 : Hp} {pa ra : Hp × Ls}
theorem Q4.lt (q : Q4 w G H P Q B bb b1 b2 tv R r1 r2 hb qb rb sb a0 pa ra) (y : Nat) (hy : U4 G H P Q y) : y < w.heap.size := by
  rcases hy with h | h | h | h
  · exact q.b.gl y h
  · exact q.r.gl y h
  · obtain ⟨_, _, _, m⟩ := q.m
    exact m.lt y h
  · obtain ⟨_, _, _, m⟩ := q.n
    exact m.lt y h
theorem Q4.keeps {D : Nat → Prop} (q : Q4 w G H P Q B bb b1 b2 tv R r1 r2 hb qb rb sb a0 pa ra) (k : Keeps D w w') (hD : ∀ y, D y → ¬ U4 G H P Q y) : Q4 w' G H P Q B bb b1 b2 tv R r1 r2 hb qb rb sb a0 pa ra := by
  obtain ⟨v1, v2, v3, m⟩ := q.m
  obtain ⟨u1, u2, u3, n⟩ := q.n
  exact ⟨q.b.keeps k (fun y e e' => hD y e (.inl e')), q.r.keeps k (fun y e e' => hD y e (.inr (.inl e'))), ⟨v1, v2, v3, m.keeps k (fun y e e' => hD y e (.inr (.inr (.inl e'))))⟩, ⟨u1, u2, u3, n.keeps k (fun y e e' => hD y e (.inr (.inr (.inr e'))))⟩, q.gh, q.gp, q.gq, q.hp, q.hq, q.pq⟩
/-- A bench whose threads were stepped by another harness. -/
theorem BnF.moved {D : Nat → Prop} {s s' : Ls} (b : BnF w G B bb b1 b2 tv (a0, s)) (o : Bo B w' s') (k : Keeps (fun x => D x ∨ fB B x) w w') (hD : ∀ y, D y → ¬ G y) : BnF w' G B bb b1 b2 tv (a0, s') := by
  obtain ⟨F, qv, ev, en, m, d, l, nb, nt⟩ := b.h
  have lb := (Array.getElem?_eq_some_iff.1 b.be).1
  exact ⟨⟨F, qv, ev, en, m.keeps k (fun x hx hF => hx.elim (fun e => hD x e (l x hF)) (d x hF)), d, l, nb, nt⟩, o, b.lo, b.iv, (k.block bb lb (fun e => e.elim (fun e => hD _ e b.gb) b.nb)).trans b.be, owK b.ot k (fun g hg e => e.elim (fun e => hD g e (b.gt g hg)) (b.nt g hg)), b.nb, b.nt, b.gb, b.gt, fun y hy => Nat.lt_of_lt_of_le (b.gl y hy) k.size⟩
theorem BsF.moved (hR : RdOk R) {D : Nat → Prop} {s s' : Ls} (b : BsF w H R r1 r2 (a0, s)) (o : RP R w' s') (k : Keeps (fun x => D x ∨ fRw R x) w w') (hD : ∀ y, D y → ¬ H y) : BsF w' H R r1 r2 (a0, s') := by
  obtain ⟨F, qv, ev, en, m, l⟩ := b.m
  have lb : R.bk < w.heap.size := b.o.lt _ (.inr (.inl rfl))
  exact ⟨⟨F, qv, ev, en, m.keeps k (fun x hx hF => hx.elim (fun e => hD x e (l x hF).1) (fun e => (l x hF).2 (.inl e))), l⟩, o, b.iv, b.fr, (k.cell (p := ⟨R.bk, 2, none⟩) lb (fun e => e.elim (fun e => hD _ e (b.fr _ (.inr (.inl rfl)))) (fun e => hR.bk e))).trans b.hp, fun y hy => Nat.lt_of_lt_of_le (b.gl y hy) k.size, b.cw⟩
/-- The program's half moved. -/
theorem Q4.prog {hB : BdOk B} {P' : Nat → Prop} {qv' : Nat → Value} {ev' en' : Value} {h' : Hp} {s' : Ls} (q : Q4 w G H P Q B bb b1 b2 tv R r1 r2 hb qb rb sb a0 pa ra) (md : Mid (mcB B hB) w w' P hb qb P' qv' ev' en' h' s') : Q4 w' G H P' Q B bb b1 b2 tv R r1 r2 hb qb rb sb a0 (h', s') ra ∧ (∀ y, P' y → P y ∨ w.heap.size ≤ y) ∧ Keeps (U4 G H P Q) w w' := by
  obtain ⟨u1, u2, u3, n⟩ := q.n
  have kk : Keeps (fun x => P x ∨ fB B x) w w' := md.k
  have far : ∀ y, P y ∨ fB B y → P y ∨ G y := fun y e => e.imp id (q.b.lo y)
  have new : ∀ y, P' y → P y ∨ w.heap.size ≤ y := md.f
  refine ⟨⟨q.b.moved md.o kk (fun y e e' => q.gp y e' e), q.r.keeps kk (fun y e e' => (far y e).elim (fun e => q.hp y e' e) (fun e => q.gh y e e')), ⟨_, _, _, md.m⟩, ⟨u1, u2, u3, n.keeps kk (fun y e e' => (far y e).elim (fun e => q.pq y e e') (fun e => q.gq y e e'))⟩, q.gh, fun y e e' => ?_, q.gq, fun y e e' => ?_, q.hq, fun y e e' => ?_⟩, new, kk.mono (fun y e => (far y e).elim (fun e => .inr (.inr (.inl e))) .inl)⟩
  · rcases new y e' with h | h
    · exact q.gp y e h
    · have := q.b.gl y e; omega
  · rcases new y e' with h | h
    · exact q.hp y e h
    · have := q.r.gl y e; omega
  · rcases new y e with h | h
    · exact q.pq y h e'
    · have := n.lt y e'; omega
end
end Go.Proofs.YtdpebhdjcgiboaaGreat

namespace Go.Proofs.YtdpebhdjcgiboaaGreat
open Go.ChangeShapes Go.WideShapes Go.ChangeAt Go.RowKit Go.MuLone Go.RwLone
set_option linter.unusedVariables false
set_option maxRecDepth 100000
set_option maxHeartbeats 3200000
/-- What has ended is taken. -/
theorem Hm.take {w : World} {F : Nat → Prop} {pt : Nat → Nat} {hb qb : Nat} {qv : Nat → Value} {ev en : Value} {h : Hp} (m : Hm w F pt hb qb qv ev en h) : Hm (w.setCell ⟨hb, 3, none⟩ (.slice none 0 0)) (fun y => F y ∧ en.ownBlock ≠ some y) pt hb qb qv ev (.slice none 0 0) { h with en := [] } := by
  have k : Keeps (fun g => g = hb) w (w.setCell ⟨hb, 3, none⟩ (.slice none 0 0)) := Keeps.setCell (B := fun g => g = hb) (Keeps.refl _ _) rfl _
  have hq := m.lt _ m.fq
  obtain ⟨c, hc⟩ := m.qt
  exact ⟨heapSet m.hc _, ⟨c, (k.block _ hq (fun e => m.hq e.symm)).trans hc⟩, fun i hi => (k.cell (p := ⟨qb, i, none⟩) hq (fun e => m.hq e.symm)).trans (m.qc i hi), fun i hi => owK (m.ql i hi) k (fun g hg e => (m.rows i hi g hg).1 e), m.qa, owK m.oe k (fun g hg e => (m.evs g hg).1 e), OwG.nil _ _ _ _ _, ⟨m.fh, fun e => (m.ens hb e).1 rfl⟩, ⟨m.fq, fun e => (m.ens qb e).2 rfl⟩, fun i g hi hg => ⟨m.fr i g hi hg, (m.rows i hi g hg).2.2.2⟩, fun g hg => ⟨m.fe g hg, (m.evs g hg).2.2⟩, (fun g hg => by cases hg), fun x hx => by simpa using m.lt x hx.1, m.n16⟩
/-- The program's Take. -/
theorem htake (w : World) (F : Nat → Prop) (pt : Nat → Nat) (hb qb : Nat) (qv : Nat → Value) (ev en : Value) (h : Hp) (m : Hm w F pt hb qb qv ev en h) :
    Calls Tryz.prog 18 #[.pointer (some ⟨hb, 0, none⟩)] w fun e w' => e = .returned en ∧ Hm w' (fun y => F y ∧ en.ownBlock ≠ some y) pt hb qb qv ev (.slice none 0 0) { h with en := [] } ∧ OwT w' 0 en (h.en.map pt) ∧ Keeps (fun y => y = hb) w w' := by
  obtain ⟨na, nc, hen⟩ := m.ot.form
  have c3 : w.cell? ⟨hb, 3, none⟩ = some (.slice na (h.en.map pt).length nc) := by
    have := (cell?_heap m.hc 3).trans rfl
    rw [← hen]
    exact this
  have f3 := frozen?_heap m.hc 3
  have HX : Hid (Hm (w.setCell ⟨hb, 3, none⟩ (.slice none 0 0)) (fun y => F y ∧ en.ownBlock ≠ some y) pt hb qb qv ev (.slice none 0 0) { h with en := [] } ∧ OwT (w.setCell ⟨hb, 3, none⟩ (.slice none 0 0)) 0 en (h.en.map pt) ∧ Keeps (fun y => y = hb) w (w.setCell ⟨hb, 3, none⟩ (.slice none 0 0))) := by
    have k : Keeps (fun g => g = hb) w (w.setCell ⟨hb, 3, none⟩ (.slice none 0 0)) := Keeps.setCell (B := fun g => g = hb) (Keeps.refl _ _) rfl _
    exact ⟨m.take, owK m.ot k (fun g hg e => (m.ens g hg).1 e), k⟩
  have HE : Hid (en = .slice na (h.en.map pt).length nc) := hen
  clear m hen
  generalize (h.en.map pt).length = nl at *
  go_enter Tryz.func18, Tryz.ntmps18
  go_wp2
  go_ret
  exact ⟨by rw [HE.out]; rfl, HX.out⟩
/-- What has ended is taken. -/
theorem Rh.take {w : World} {F : Nat → Prop} {pt : Nat} {hb qb : Nat} {qv : Nat → Value} {ev en : Value} {h : Hp} (m : Rh w F pt hb qb qv ev en h) : Rh (w.setCell ⟨hb, 4, none⟩ (.slice none 0 0)) (fun y => F y ∧ en.ownBlock ≠ some y) pt hb qb qv ev (.slice none 0 0) { h with en := [] } := by
  have k : Keeps (fun g => g = hb) w (w.setCell ⟨hb, 4, none⟩ (.slice none 0 0)) := Keeps.setCell (B := fun g => g = hb) (Keeps.refl _ _) rfl _
  have hq := m.lt _ m.fq
  obtain ⟨c, hc⟩ := m.qt
  exact ⟨heapSet m.hc _, ⟨c, (k.block _ hq (fun e => m.hq e.symm)).trans hc⟩, fun i hi => (k.cell (p := ⟨qb, i, none⟩) hq (fun e => m.hq e.symm)).trans (m.qc i hi), fun i hi => owK (m.ql i hi) k (fun g hg e => (m.rows i hi g hg).1 e), m.qa, owK m.oe k (fun g hg e => (m.evs g hg).1 e), OwG.nil _ _ _ _ _, ⟨m.fh, fun e => (m.ens hb e).1 rfl⟩, ⟨m.fq, fun e => (m.ens qb e).2 rfl⟩, fun i g hi hg => ⟨m.fr i g hi hg, (m.rows i hi g hg).2.2.2⟩, fun g hg => ⟨m.fe g hg, (m.evs g hg).2.2⟩, (fun g hg => by cases hg), fun x hx => by simpa using m.lt x hx.1, m.n16⟩
/-- A worker's step, if one is due. -/
def stX (M : Mc) (a : Hp × M.σ) (x : Int) : Hp × M.σ := if pendP a.1 x = 0 then a else (stepP M a x.toNat).1
end Go.Proofs.YtdpebhdjcgiboaaGreat

namespace Go.Proofs.YtdpebhdjcgiboaaGreat
set_option linter.unusedSimpArgs false
open Go.ChangeShapes Go.WideShapes Go.ChangeAt Go.RowKit Go.MuLone Go.RwLone
set_option linter.unusedVariables false
set_option maxRecDepth 100000
set_option maxHeartbeats 3200000
/-- The bench's thread of that number. -/
def thO (B : Bd) (x : Int) : Option Addr := if 0 ≤ x ∧ x < (B.n : Int) then some ⟨B.T x.toNat, 0, none⟩ else none
end Go.Proofs.YtdpebhdjcgiboaaGreat

namespace Go.Proofs.YtdpebhdjcgiboaaGreat
set_option linter.unusedSimpArgs false
open Go.ChangeShapes Go.WideShapes Go.ChangeAt Go.RowKit Go.MuLone Go.RwLone
set_option linter.unusedVariables false
set_option maxRecDepth 100000
set_option maxHeartbeats 3200000
def inZ (x : Int) : List Value := [.int .i64 x]
/-- Those of the numbers that are threads. -/
def mfil (n : Nat) (ks : List Int) : List Nat := ks.filterMap (fun x => if 0 ≤ x ∧ x < (n : Int) then some x.toNat else none)
/-- The side's block. -/
abbrev sdC (hb bb rb pb : Nat) : Array Value := #[.pointer (some ⟨hb, 0, none⟩), .pointer (some ⟨bb, 0, none⟩), .pointer (some ⟨rb, 0, none⟩), .pointer (some ⟨pb, 0, none⟩)]
end Go.Proofs.YtdpebhdjcgiboaaGreat

namespace Go.Proofs.YtdpebhdjcgiboaaGreat
set_option linter.unusedSimpArgs false
open Go.ChangeShapes Go.WideShapes Go.ChangeAt Go.RowKit Go.MuLone Go.RwLone
set_option linter.unusedVariables false
set_option maxRecDepth 100000
set_option maxHeartbeats 6400000
/-- What a script of SchedPlays holds. -/
structure PSt (w : World) (G H P Q : Nat → Prop) (B : Bd) (bb b1 b2 : Nat) (tv : Value) (R : Rd) (r1 r2 hb qb rb sb sd : Nat) (a0 : Hp) (a : Hp × Ls) (ts : List (List I8)) (wd c nw : Nat) : Prop where
  ok : PairOk B R ts wd
  q : Q4 w G H P Q B bb b1 b2 tv R r1 r2 hb qb rb sb a0 a a
  bs : w.heap[sd]? = some (.cells (sdC hb bb rb R.bk) 90)
  ns : ¬ U4 G H P Q sd
  iw : Iw ts.length c a.1
  nq : a.1.q.length = nw
/-- What an operation leaves. -/
def MvP (w : World) (G H P Q : Nat → Prop) (B : Bd) (bb b1 b2 : Nat) (tv : Value) (R : Rd) (r1 r2 hb qb rb sb sd : Nat) (a0 : Hp) (ts : List (List I8)) (wd c nw : Nat) (w' : World) : Prop :=
  ∃ P' Q' a', PSt w' G H P' Q' B bb b1 b2 tv R r1 r2 hb qb rb sb sd a0 a' ts wd (c + 128) nw ∧ (∀ y, P' y → P y ∨ w.heap.size ≤ y) ∧ (∀ y, Q' y → Q y ∨ w.heap.size ≤ y) ∧ Keeps (U4 G H P Q) w w'
section
variable {w w' : World} {G H P Q : Nat → Prop} {B : Bd} {bb b1 b2 : Nat} {tv : Value} {R : Rd} {r1 r2 hb qb rb sb sd : Nat} {a0 : Hp} {a : Hp × Ls} {pa ra : Hp × Ls} {ts : List (List I8)} {wd c nw : Nat}
end
/-- An operation's cells. -/
abbrev opC (kd wh tg nn : Int) (pv mv : Value) : Array Value := #[.int .i64 kd, .int .i64 wh, .int .i64 tg, .int .i64 nn, pv, mv]
abbrev opW (w : World) (kd wh tg nn : Int) (pv mv : Value) : World := w.alloc (.cells (opC kd wh tg nn pv mv) 93)
end Go.Proofs.YtdpebhdjcgiboaaGreat

namespace Go.Proofs.YtdpebhdjcgiboaaGreat
set_option linter.unusedSimpArgs false
open Go.ChangeShapes Go.WideShapes Go.ChangeAt Go.RowKit Go.MuLone Go.RwLone
set_option linter.unusedVariables false
set_option maxRecDepth 100000
set_option maxHeartbeats 3200000
section
variable {M : Mc}
end
/-- How many steps there can be. -/
def phG (ins : Nat → List I8) (n : Nat) (a : Hp × Ls) : Nat := szq a.1.q + ((List.range n).map (fun m => (ins m).length - a.2.pl m)).sum
end Go.Proofs.YtdpebhdjcgiboaaGreat

namespace Go.Proofs.YtdpebhdjcgiboaaGreat
set_option linter.unusedSimpArgs false
open Go.ChangeShapes Go.WideShapes Go.ChangeAt Go.RowKit Go.MuLone Go.RwLone
set_option linter.unusedVariables false
set_option maxRecDepth 100000
set_option maxHeartbeats 6400000
def pkC (p : Int × Int × Int) : List Value := [.int .i64 p.1, .int .i64 p.2.1, .int .i64 p.2.2]
theorem pkC_one (p : Int × Int × Int) : ∀ u ∈ pkC p, u.oneCell' = true := by
  intro u hu
  simp [pkC] at hu
  rcases hu with rfl | rfl | rfl <;> rfl
theorem infoPk : (Tryz.prog.info? 110).map (fun i => (i.zero, i.size, i.bytes)) = some (some (.agg #[.int .i64 0, .int .i64 0, .int .i64 0]), 3, 24) := by kernel_rfl
/-- What a play does, under any budget. -/
def plI (M : Mc) (vs : List (Int × Int × Int)) (bd : Int) (a : Hp × M.σ) : Hp × M.σ := if bd < 0 then a else (playP M vs bd.toNat a).2.2
def plN (M : Mc) (vs : List (Int × Int × Int)) (bd : Int) (a : Hp × M.σ) : Int := if bd < 0 then 0 else retI (playP M vs bd.toNat a).1 (playP M vs bd.toNat a).2.1 bd.toNat
def plE (M : Mc) (vs : List (Int × Int × Int)) (bd : Int) (a : Hp × M.σ) : Int := if bd < 0 then 34 else erC (playP M vs bd.toNat a).1
end Go.Proofs.YtdpebhdjcgiboaaGreat

namespace Go.Proofs.YtdpebhdjcgiboaaGreat
open Go.ChangeShapes Go.WideShapes Go.ChangeAt Go.RowKit Go.MuLone Go.RwLone
set_option linter.unusedVariables false
set_option maxRecDepth 100000
set_option maxHeartbeats 3200000
/-- So many steps, each of a worker that has something to do. -/
def goneN (M : Mc) : Nat → (Hp × M.σ) → (Hp × M.σ) → Prop
  | 0, a, b => a = b
  | n + 1, a, b => ∃ (i : Nat) (x : Pq) (l : List Pq), a.1.q[i]? = some (x :: l) ∧ goneN M n (stepP M a i).1 b
def Gone (M : Mc) (a : Hp × M.σ) : Nat → (Hp × M.σ) → Prop := fun n b => goneN M n a b
theorem Gone.nil {M : Mc} (a : Hp × M.σ) : Gone M a 0 a := rfl
theorem Gone.cons {M : Mc} {a b : Hp × M.σ} {n i : Nat} {x : Pq} {l : List Pq} (h : a.1.q[i]? = some (x :: l)) (g : Gone M (stepP M a i).1 n b) : Gone M a (n + 1) b := ⟨i, x, l, h, g⟩
theorem Gone.ind {M : Mc} {motive : ∀ (a : Hp × M.σ) (n : Nat) (b : Hp × M.σ), Gone M a n b → Prop} (nil : ∀ a, motive a 0 a (Gone.nil a)) (cons : ∀ {a b : Hp × M.σ} {n i : Nat} {x : Pq} {l : List Pq} (h : a.1.q[i]? = some (x :: l)) (g : Gone M (stepP M a i).1 n b), motive _ n b g → motive a (n + 1) b (Gone.cons h g)) : ∀ {a : Hp × M.σ} {n : Nat} {b : Hp × M.σ} (h : Gone M a n b), motive a n b h
  | a, 0, b, h => by
    have e : a = b := h
    subst e
    exact nil a
  | a, n + 1, b, h => by
    obtain ⟨i, x, l, h1, h2⟩ := h
    exact cons h1 h2 (Gone.ind nil cons h2)
theorem Gone.trans {M : Mc} {a b : Hp × M.σ} {n : Nat} (h : Gone M a n b) : ∀ {m : Nat} {c : Hp × M.σ}, Gone M b m c → Gone M a (n + m) c := by
  induction h using Gone.ind with
  | nil a => intro m c g; rw [Nat.zero_add]; exact g
  | cons h _ ih => intro m c g; rw [Nat.add_right_comm]; exact .cons h (ih g)
/-- What a play makes: so many steps as it spends. -/
def Mk (M : Mc) (l : Nat) (a : Hp × M.σ) (r : Bool × Nat × (Hp × M.σ)) : Prop := ∃ n, n + r.2.1 = l ∧ Gone M a n r.2.2
theorem Mk.here {M : Mc} (l : Nat) (a : Hp × M.σ) (b : Bool) : Mk M l a (b, l, a) := ⟨0, by simp, .nil a⟩
theorem Mk.on {M : Mc} {l : Nat} {a : Hp × M.σ} {r r' : Bool × Nat × (Hp × M.σ)} (h : Mk M l a r) (g : Mk M r.2.1 r.2.2 r') : Mk M l a r' := by
  obtain ⟨n, e, h⟩ := h
  obtain ⟨m, e', g⟩ := g
  exact ⟨n + m, by omega, h.trans g⟩
/-- A play of a small budget is the begin of that of a greater one. -/
def Pf (M : Mc) (l l' : Nat) (r r' : Bool × Nat × (Hp × M.σ)) : Prop :=
  (r.1 = true ∧ r' = (true, r.2.1 + (l' - l), r.2.2)) ∨ (r.1 = false ∧ ∃ n, (l < l' → 0 < n) ∧ Gone M r.2.2 n r'.2.2 ∧ n + r'.2.1 ≤ l')
section
variable {M : Mc}
theorem mk_run (x : Int) : ∀ (l : Nat) (n : Int) (a : Hp × M.σ), Mk M l a (runP M x l n a)
  | 0, n, a => by
    unfold runP
    split <;> exact Mk.here _ _ _
  | l + 1, n, a => by
    unfold runP
    split
    · exact Mk.here _ _ _
    · rename_i h
      obtain ⟨_, _, y, l0, hq⟩ := pend_head (fun e => h (.inr e))
      obtain ⟨k, e, g⟩ := mk_run x l (n - 1) (stepP M a x.toNat).1
      exact ⟨k + 1, by omega, .cons hq g⟩
theorem mk_fin (i : Nat) : ∀ (l : Nat) (a : Hp × M.σ), (∃ y l0, a.1.q[i]? = some (y :: l0)) → Mk M l a (finP M i l a)
  | 0, a, _ => Mk.here _ _ _
  | l + 1, a, hq => by
    obtain ⟨y, l0, hq⟩ := hq
    unfold finP
    split
    · exact ⟨1, by simp; omega, .cons hq (.nil _)⟩
    · rename_i hd
      obtain ⟨k, e, g⟩ := mk_fin i l (stepP M a i).1 ⟨_, _, stepP_head hq (by simpa using hd)⟩
      exact ⟨k + 1, by omega, .cons hq g⟩
theorem mk_roundN : ∀ (k t l : Nat) (a : Hp × M.σ), Mk M l a (roundN M k t l a)
  | 0, t, l, a => Mk.here _ _ _
  | k + 1, t, l, a => by
    unfold roundN
    split
    · exact (mk_run _ _ _ _).on (mk_roundN k _ _ _)
    · exact mk_run _ _ _ _
theorem mk_rounds : ∀ (m l : Nat) (n : Int) (a : Hp × M.σ), l ≤ m → Mk M l a (roundsA M n l a)
  | m, l, n, a, hm => by
    by_cases h : n ≤ 0 ∨ idleP a.1 = true
    · rw [roundsA_end h]; exact Mk.here _ _ _
    · by_cases hr : (roundN M a.1.q.length 0 l a).1 = true
      · have hs := roundN_some a.1.q.length 0 l a (idle_some (fun e => h (.inr e))) hr
        rw [roundsA_on h hr]
        match m, hm with
        | 0, hm => omega
        | m + 1, hm => exact (mk_roundN _ _ _ _).on (mk_rounds m _ _ _ (by omega))
      · rw [roundsA_no h hr]; exact mk_roundN _ _ _ _
theorem mk_pick (p : Int × Int × Int) (l : Nat) (a : Hp × M.σ) : Mk M l a (pickP M p l a) := by
  unfold pickP
  split
  · exact mk_run _ _ _ _
  · split
    · exact mk_run _ _ _ _
    · split
      · unfold finA
        split
        · exact Mk.here _ _ _
        · rename_i hp
          obtain ⟨_, _, y, l0, hq⟩ := pend_head hp
          exact mk_fin _ _ _ ⟨y, l0, hq⟩
      · split
        · exact mk_rounds _ _ _ _ (Nat.le_refl _)
        · split
          · exact mk_rounds _ _ _ _ (Nat.le_refl _)
          · exact Mk.here _ _ _
theorem mk_play : ∀ (ps : List (Int × Int × Int)) (l : Nat) (a : Hp × M.σ), Mk M l a (playP M ps l a)
  | [], l, a => Mk.here _ _ _
  | p :: ps, l, a => by
    unfold playP
    split
    · exact (mk_pick p l a).on (mk_play ps _ _)
    · exact mk_pick p l a
theorem Pf.here {l l' : Nat} (h : l ≤ l') (a : Hp × M.σ) : Pf M l l' (true, l, a) (true, l', a) := .inl ⟨rfl, by dsimp only; rw [Nat.add_sub_cancel' h]⟩
/-- One behind the other. -/
theorem Pf.on {l l' : Nat} {a : Hp × M.σ} {r r' s s' : Bool × Nat × (Hp × M.σ)} (h : Pf M l l' r r') (hr : Mk M l a r) (hl : l ≤ l') (h1 : r.1 = true → r' = (true, r.2.1 + (l' - l), r.2.2) → Pf M r.2.1 (r.2.1 + (l' - l)) s s') (h2 : r.1 = false → s = r) (h3 : Mk M r'.2.1 r'.2.2 s') : Pf M l l' s s' := by
  obtain ⟨kr, er, _⟩ := hr
  rcases h with ⟨e, e'⟩ | ⟨e, n, hn, g, hs⟩
  · rcases h1 e e' with ⟨f, f'⟩ | ⟨f, m, hm, g, hs⟩
    · exact .inl ⟨f, by rw [f']; simp only [Prod.mk.injEq, true_and]; exact ⟨by omega, trivial⟩⟩
    · exact .inr ⟨f, m, fun _ => hm (by omega), g, by omega⟩
  · obtain ⟨k, ek, hk⟩ := h3
    rw [h2 e]
    exact .inr ⟨e, n + k, fun hl => by have := hn hl; omega, g.trans hk, by omega⟩
end
abbrev Ev := Int × Int × Int × Int
/-- Is it one of the events up to the k-th step? -/
def upK (k : Int) (e : Ev) : Bool := decide (e.2.2.2 < k ∨ (e.2.2.2 = k ∧ e.1 = 2))
def EvOk (h : Hp) : Prop := ∀ e ∈ h.ev, upK h.st e = true
/-- Machines that are threads of so many steps. -/
structure Jm (M : Mc) (len : Nat → Nat) (pl : M.σ → Nat → Nat) : Prop where
  a : ∀ s k, pl (M.st s k) k = if pl s k < len k then pl s k + 1 else pl s k
  o : ∀ s k j, j ≠ k → pl (M.st s k) j = pl s j
  d : ∀ s k, M.dn s k = decide (len k ≤ pl s k)
abbrev frq (tag : Nat → Int) (k : Nat) : Pq := (k, tag k, false)
/-- What a worker's events tell of its jobs, and what its queue holds of them. -/
def Tl (len : Nat → Nat) (tag : Nat → Int) (w st : Int) (pl : Nat → Nat) : List Nat → List Ev → List Pq → Prop
  | [], es, q => es = [] ∧ q = []
  | k :: ls, es, q => ((∀ j ∈ k :: ls, pl j = 0) ∧ es = [] ∧ q = (k :: ls).map (frq tag)) ∨ (∃ c, (∀ j ∈ ls, pl j = 0) ∧ pl k < len k ∧ c + (pl k : Int) ≤ st ∧ es = [(1, w, tag k, c)] ∧ q = (k, tag k, true) :: ls.map (frq tag)) ∨ ∃ c d es', c + ((max 1 (len k) : Nat) : Int) ≤ d ∧ es = (1, w, tag k, c) :: (2, w, tag k, d) :: es' ∧ Tl len tag w st pl ls es' q
section
variable {len : Nat → Nat} {tag : Nat → Int} {w st : Int} {pl : Nat → Nat}
theorem Tl.rest : ∀ (ls : List Nat) (h : ∀ k ∈ ls, pl k = 0), Tl len tag w st pl ls [] (ls.map (frq tag))
  | [], _ => ⟨rfl, rfl⟩
  | k :: ls, h => .inl ⟨h, rfl, rfl⟩
theorem Tl.mid (k : Nat) (ls : List Nat) (c : Int) (h : ∀ k ∈ ls, pl k = 0) (hk : pl k < len k) (hc : c + (pl k : Int) ≤ st) : Tl len tag w st pl (k :: ls) [(1, w, tag k, c)] ((k, tag k, true) :: ls.map (frq tag)) := .inr (.inl ⟨c, h, hk, hc, rfl, rfl⟩)
theorem Tl.past (k : Nat) (ls : List Nat) (c d : Int) (es : List Ev) (q : List Pq) (hd : c + ((max 1 (len k) : Nat) : Int) ≤ d) (h : Tl len tag w st pl ls es q) : Tl len tag w st pl (k :: ls) ((1, w, tag k, c) :: (2, w, tag k, d) :: es) q := .inr (.inr ⟨c, d, es, hd, rfl, h⟩)
theorem Tl.ind {motive : ∀ (ls : List Nat) (es : List Ev) (q : List Pq), Tl len tag w st pl ls es q → Prop} (rest : ∀ (ls : List Nat) (h : ∀ k ∈ ls, pl k = 0), motive ls [] (ls.map (frq tag)) (Tl.rest ls h)) (mid : ∀ (k : Nat) (ls : List Nat) (c : Int) (h : ∀ k ∈ ls, pl k = 0) (hk : pl k < len k) (hc : c + (pl k : Int) ≤ st), motive _ _ _ (Tl.mid (len := len) (tag := tag) (w := w) (st := st) (pl := pl) k ls c h hk hc))
    (past : ∀ (k : Nat) (ls : List Nat) (c d : Int) (es : List Ev) (q : List Pq) (hd : c + ((max 1 (len k) : Nat) : Int) ≤ d) (h : Tl len tag w st pl ls es q), motive ls es q h → motive _ _ _ (Tl.past k ls c d es q hd h)) : ∀ {ls : List Nat} {es : List Ev} {q : List Pq} (h : Tl len tag w st pl ls es q), motive ls es q h
  | [], es, q, h => by
    obtain ⟨rfl, rfl⟩ := (show es = [] ∧ q = [] from h)
    exact rest [] (fun k hk => by cases hk)
  | k :: ls, es, q, h => by
    rcases (show ((∀ j ∈ k :: ls, pl j = 0) ∧ es = [] ∧ q = (k :: ls).map (frq tag)) ∨ (∃ c, (∀ j ∈ ls, pl j = 0) ∧ pl k < len k ∧ c + (pl k : Int) ≤ st ∧ es = [(1, w, tag k, c)] ∧ q = (k, tag k, true) :: ls.map (frq tag)) ∨ ∃ c d es', c + ((max 1 (len k) : Nat) : Int) ≤ d ∧ es = (1, w, tag k, c) :: (2, w, tag k, d) :: es' ∧ Tl len tag w st pl ls es' q from h) with ⟨h1, rfl, rfl⟩ | ⟨c, h1, h2, h3, rfl, rfl⟩ | ⟨c, d, es', h1, rfl, h3⟩
    · exact rest (k :: ls) h1
    · exact mid k ls c h1 h2 h3
    · exact past k ls c d es' q h1 h3 (Tl.ind rest mid past h3)
end
theorem Tl.mono {len : Nat → Nat} {tag : Nat → Int} {w st st' : Int} {pl pl' : Nat → Nat} {ls : List Nat} {es : List Ev} {q : List Pq} (h : Tl len tag w st pl ls es q) (hs : st ≤ st') : (∀ k ∈ ls, pl' k = pl k) → Tl len tag w st' pl' ls es q := by
  induction h using Tl.ind with
  | rest ls h => exact fun hp => .rest ls (fun k hk => (hp k hk).trans (h k hk))
  | mid k ls c h hk hc =>
    intro hp
    have e := hp k (List.mem_cons_self ..)
    exact .mid k ls c (fun j hj => (hp j (List.mem_cons_of_mem _ hj)).trans (h j hj)) (by omega) (by omega)
  | past k ls c d es q hd _ ih => exact fun hp => .past k ls c d es q hd (ih (fun j hj => hp j (List.mem_cons_of_mem _ hj)))
/-- How many steps a place takes still. -/
def rmq (len : Nat → Nat) (pl : Nat → Nat) (x : Pq) : Nat := if x.2.2 then len x.1 - pl x.1 else max 1 (len x.1)
def rml (len : Nat → Nat) (pl : Nat → Nat) (l : List Pq) : Nat := (l.map (rmq len pl)).sum
/-- All jobs of a worker are told. -/
def Pairs (len : Nat → Nat) (tag : Nat → Int) (w : Int) : List Nat → List Ev → Prop
  | [], es => es = []
  | k :: ls, es => ∃ c d es', es = (1, w, tag k, c) :: (2, w, tag k, d) :: es' ∧ c + ((max 1 (len k) : Nat) : Int) ≤ d ∧ Pairs len tag w ls es'
/-- The jobs of a worker, among the first K. -/
def jbs (who : Nat → Nat) (K w : Nat) : List Nat := (List.range K).filter (fun k => who k == w)
def rmA (len : Nat → Nat) (pl : Nat → Nat) (q : List (List Pq)) : Nat := (q.map (rml len pl)).sum
/-- The times of events rise. -/
def Rise (es : List Ev) : Prop := es.Pairwise (fun a b => a.2.2.2 ≤ b.2.2.2)
/-- A harness with jobs, whatever was played of it. -/
structure Gd (M : Mc) (len : Nat → Nat) (tag : Nat → Int) (who : Nat → Nat) (pl : M.σ → Nat → Nat) (W K T : Nat) (a : Hp × M.σ) : Prop where
  n : a.1.q.length = W
  t : ∀ (w : Nat) (q : List Pq), a.1.q[w]? = some q → Tl len tag (w : Int) a.1.st (pl a.2) (jbs who K w) (a.1.ev.filter (fun e => e.2.1 == (w : Int))) q
  e : ∀ e ∈ a.1.ev, 0 ≤ e.2.1 ∧ e.2.1 < (W : Int)
  r : Rise a.1.ev
  s : ∀ e ∈ a.1.ev, 0 ≤ e.2.2.2 ∧ e.2.2.2 ≤ a.1.st
  x : a.1.ev.length + wtq a.1.q = 2 * K
  y : a.1.en.length + szq a.1.q = K
  z : a.1.st + (rmA len (pl a.2) a.1.q : Int) = (T : Int)
  p : 0 ≤ a.1.st
section
variable {M : Mc} {len : Nat → Nat} {tag : Nat → Int} {who : Nat → Nat} {pl : M.σ → Nat → Nat} {W K T : Nat}
theorem sum_nil {f : List Pq → Nat} (hf : f [] = 0) : ∀ (q : List (List Pq)), (∀ (w : Nat) (l : List Pq), q[w]? = some l → l = []) → (q.map f).sum = 0
  | [], _ => rfl
  | l :: q, h => by
    have h0 := h 0 l rfl
    subst h0
    rw [List.map_cons, List.sum_cons, hf, sum_nil hf q (fun w m hm => h (w + 1) m (by simpa using hm))]
end
end Go.Proofs.YtdpebhdjcgiboaaGreat

namespace Go.Proofs.YtdpebhdjcgiboaaGreat
open Go.ChangeShapes Go.WideShapes Go.ChangeAt Go.RowKit Go.MuLone Go.RwLone
set_option linter.unusedVariables false
set_option maxRecDepth 100000
set_option maxHeartbeats 3200000
/-- Benches of one thread each, their blocks apart. -/
structure Js (J : Nat → Bd) (n : Nat) : Prop where
  b : ∀ i, i < n → BdOk (J i)
  o : ∀ i, i < n → (J i).n = 1
  d : ∀ i j, i < n → j < n → i ≠ j → ∀ y, fB (J i) y → ¬ fB (J j) y
  a : ∀ i, ∀ x ∈ (J i).ins 0, x.op = 4
/-- Their threads as machines. -/
def mcJ (J : Nat → Bd) (n : Nat) (h : Js J n) : Mc := {
  σ := Nat → Ls, ok := fun w s => ∀ i, i < n → Bo (J i) w (s i), F := fun y => ∃ i, i < n ∧ fB (J i) y, pt := fun i => (J i).T 0, N := n
  st := fun s i => upd s i (stB (J i) (s i) 0), dn := fun s i => dnB (J i) (s i) 0
  far := fun ho k hD i hi => (ho i hi).far k (fun x hx e => hD x hx ⟨i, hi, e⟩)
  lt := fun ho hx => by obtain ⟨i, hi, e⟩ := hx; exact (ho i hi).lt e
  call := fun w s m hm ho => (Bo.call (h.b m hm) w (s m) 0 (by rw [h.o m hm]; exact Nat.one_pos) (ho m hm)).mono (by
    rintro e w' ⟨he, hb, k⟩
    refine ⟨?_, fun i hi => ?_, k.mono (fun x e => ⟨m, hm, e⟩)⟩
    · rw [upd_same]; exact he
    · by_cases e : i = m
      · subst e; rw [upd_same]; exact hb
      · rw [upd_other _ _ e]
        exact (ho i hi).far k (fun x hx e' => h.d m i hm hi (fun e'' => e e''.symm) x hx e')) }
def lnJ (J : Nat → Bd) (i : Nat) : Nat := ((J i).ins 0).length
def plJ (s : Nat → Ls) (i : Nat) : Nat := (s i).pl 0
/-- A harness with the first i jobs, none of them begun. -/
def hJ (who : Nat → Nat) (tag : Nat → Int) (W i : Nat) : Hp := ⟨(List.range W).map (fun w => (jbs who i w).map (frq tag)), 0, [], []⟩
/-- The steps that the first i jobs take. -/
def totJ (ln : Nat → Nat) (i : Nat) : Nat := ((List.range i).map (fun k => max 1 (ln k))).sum
end Go.Proofs.YtdpebhdjcgiboaaGreat

namespace Go.Proofs.YtdpebhdjcgiboaaGreat
open Go.ChangeShapes Go.WideShapes Go.ChangeAt Go.RowKit Go.MuLone Go.RwLone
set_option linter.unusedVariables false
set_option maxRecDepth 100000
set_option maxHeartbeats 6400000
def whX (W : Nat) (x : Int) : Nat := (x % 18446744073709551616 % (W : Int)).toNat
def lnX (x : Int) : Nat := (x % 18446744073709551616 % 11).toNat
def jbA (js : List (Int × Int × Int)) (k : Nat) : Int × Int × Int := (js[k]?).getD (0, 0, 0)
def whoJ (js : List (Int × Int × Int)) (W k : Nat) : Nat := whX W (jbA js k).1
def tagJ (js : List (Int × Int × Int)) (k : Nat) : Int := (jbA js k).2.1
def lenJ (js : List (Int × Int × Int)) (k : Nat) : Nat := lnX (jbA js k).2.2
end Go.Proofs.YtdpebhdjcgiboaaGreat
