import Derived.Test.YtdpebhdjcgiboaaGreatKSi1
import Derived.Laws.StructEq
namespace Go.Proofs.YtdpebhdjcgiboaaGreat
set_option linter.unusedSimpArgs false
open Go.ChangeShapes Go.WideShapes Go.ChangeAt Go.RowKit Go.MuLone Go.RwLone
set_option linter.unusedVariables false
set_option maxRecDepth 100000
set_option maxHeartbeats 3200000
abbrev Ev4 := Int × Int × Int × Int
end Go.Proofs.YtdpebhdjcgiboaaGreat

namespace Go.Proofs.YtdpebhdjcgiboaaGreat
set_option linter.unusedSimpArgs false
open Go.ChangeShapes Go.WideShapes Go.ChangeAt Go.RowKit Go.MuLone Go.RwLone
set_option linter.unusedVariables false
set_option maxRecDepth 100000
set_option maxHeartbeats 3200000
/-- A bench, all of whose blocks are in G. -/
structure BnF (w : World) (G : Nat → Prop) (B : Bd) (bb hb qb : Nat) (tv : Value) (a : Hp × Ls) : Prop where
  h : ∃ F qv ev en, Hm w F B.T hb qb qv ev en a.1 ∧ (∀ y, F y → ¬ fB B y) ∧ (∀ y, F y → G y) ∧ ¬ F bb ∧ (∀ g, tv.ownBlock = some g → ¬ F g)
  o : Bo B w a.2
  lo : ∀ y, fB B y → G y
  iv : Iv B.n a.1
  be : w.heap[bb]? = some (.cells (beA B.L tv hb) 146)
  ot : OwT w 0 tv ((List.range B.n).map B.T)
  nb : ¬ fB B bb
  nt : ∀ g, tv.ownBlock = some g → ¬ fB B g
  gb : G bb
  gt : ∀ g, tv.ownBlock = some g → G g
  gl : ∀ y, G y → y < w.heap.size
section
variable {w w' : World} {G : Nat → Prop} {B : Bd} {bb hb qb : Nat} {tv : Value} {a : Hp × Ls}
theorem BnF.keeps {D : Nat → Prop} (b : BnF w G B bb hb qb tv a) (k : Keeps D w w') (hD : ∀ y, D y → ¬ G y) : BnF w' G B bb hb qb tv a := by
  obtain ⟨F, qv, ev, en, m, d, l, nb, nt⟩ := b.h
  exact ⟨⟨F, qv, ev, en, m.keeps k (fun x hx hF => hD x hx (l x hF)), d, l, nb, nt⟩, b.o.far k (fun x hx e => hD x hx (b.lo x e)), b.lo, b.iv, (k.block _ (Array.getElem?_eq_some_iff.1 b.be).1 (fun e => hD _ e b.gb)).trans b.be, owK b.ot k (fun g hg e => hD g e (b.gt g hg)), b.nb, b.nt, b.gb, b.gt, fun y hy => Nat.lt_of_lt_of_le (b.gl y hy) k.size⟩
theorem BnF.still (b : BnF w G B bb hb qb tv a) (k : Keeps (fun _ => False) w w') : BnF w' G B bb hb qb tv a := b.keeps k (fun _ e => e.elim)
theorem BnF.mid {hB : BdOk B} {F F' : Nat → Prop} {qv' : Nat → Value} {ev' en' : Value} {h' : Hp} {s' : Ls} (b : BnF w G B bb hb qb tv a) (d : ∀ y, F y → G y) (nb : ¬ F bb) (nt : ∀ g, tv.ownBlock = some g → ¬ F g) (md : Mid (mcB B hB) w w' F hb qb F' qv' ev' en' h' s') (iv : Iv B.n h') : BnF w' (fun y => G y ∨ F' y) B bb hb qb tv (h', s') ∧ (∀ y, G y ∨ F' y → G y ∨ w.heap.size ≤ y) ∧ Keeps G w w' := by
  have lb := (Array.getElem?_eq_some_iff.1 b.be).1
  have hs := md.k.size
  refine ⟨⟨⟨F', qv', ev', en', md.m, md.d, fun y hy => .inr hy, fun e => (md.f bb e).elim nb (fun e => by omega), fun g hg e => (md.f g e).elim (nt g hg) (fun e => by have := own_lt b.ot hg; omega)⟩, md.o, fun y hy => .inl (b.lo y hy), iv, (md.k.block bb lb (fun e => e.elim nb b.nb)).trans b.be, owK b.ot md.k (fun g hg e => e.elim (nt g hg) (b.nt g hg)), b.nb, b.nt, .inl b.gb, fun g hg => .inl (b.gt g hg), fun y hy => hy.elim (fun e => Nat.lt_of_lt_of_le (b.gl y e) hs) (fun e => md.m.lt y e)⟩, fun y hy => hy.elim .inl (fun e => (md.f y e).elim (fun e => .inl (d y e)) .inr), md.k.mono (fun y e => e.elim (d y) (b.lo y))⟩
theorem BnF.of {w0 : World} (b : BnG w0 w B bb hb qb tv a) : BnF w (fun y => w0.heap.size ≤ y ∧ y < w.heap.size) B bb hb qb tv a := by
  obtain ⟨F, qv, ev, en, m, d, l, nb, nt⟩ := b.h
  have lb := (Array.getElem?_eq_some_iff.1 b.be).1
  exact ⟨⟨F, qv, ev, en, m, d, fun y hy => ⟨l y hy, m.lt y hy⟩, nb, nt⟩, b.o, fun y hy => ⟨b.lo y hy, b.o.lt hy⟩, b.iv, b.be, b.ot, b.nb, b.nt, ⟨b.b0, lb⟩, fun g hg => ⟨b.ol g hg, own_lt b.ot hg⟩, fun y hy => hy.2⟩
theorem BnF.g (b : BnF w G B bb hb qb tv a) : BnG { w with heap := #[] } w B bb hb qb tv a := by
  obtain ⟨F, qv, ev, en, m, d, l, nb, nt⟩ := b.h
  exact ⟨⟨F, qv, ev, en, m, d, fun y _ => Nat.zero_le _, nb, nt⟩, b.o, fun y _ => Nat.zero_le _, b.iv, b.be, b.ot, b.nb, b.nt, Nat.zero_le _, ⟨rfl, rfl, rfl, Nat.zero_le _, fun x hx => absurd hx (Nat.not_lt_zero _)⟩, fun _ _ => Nat.zero_le _⟩
end
/-- Bench.Outcome, with what it touches. -/
theorem boutF (w : World) (G : Nat → Prop) (B : Bd) (hB : BdOk B) (bb hb qb : Nat) (tv : Value) (a : Hp × Ls) (b : BnF w G B bb hb qb tv a) (hn4 : 1 ≤ B.n ∧ B.n ≤ 4) :
    Calls Tryz.prog 80 #[.pointer (some ⟨bb, 0, none⟩)] w fun e w' => ∃ g rv, e = .returned (.tuple #[.agg #[.slice (some ⟨g, 0, none⟩) B.wd B.wd, rv], .bool (idleP a.1)]) ∧ OwW w' w.heap.size (.slice (some ⟨g, 0, none⟩) B.wd B.wd) (wlL a.2.wo B.wd) ∧ OwW w' w.heap.size rv (regsL a.2.rg B.n) ∧ BnF w' G B bb hb qb tv a ∧ Keeps G w w' := by
  refine (outcomeG _ w B hB bb hb qb tv a b.g hn4).mono ?_
  rintro e w' ⟨g, rv, he, o1, o2, k, ho⟩
  have hg := (World.ownsRow.lt o1 g rfl).1
  obtain ⟨F, qv, ev, en, m, d, l, nb, nt⟩ := b.h
  have lb := (Array.getElem?_eq_some_iff.1 b.be).1
  exact ⟨g, rv, he, o1, o2.down (by omega), ⟨⟨F, qv, ev, en, m.keeps k (fun x hx hF => d x hF (.inl hx)), d, l, nb, nt⟩, ho, b.lo, b.iv, (k.block bb lb (fun e => b.nb (.inl e))).trans b.be, owK b.ot k (fun g hg e => b.nt g hg (.inl e)), b.nb, b.nt, b.gb, b.gt, fun y hy => Nat.lt_of_lt_of_le (b.gl y hy) k.size⟩, k.mono (fun y e => b.lo y (.inl e))⟩
/-- The document's bench, all of whose blocks are in G. -/
structure BsF (w : World) (G : Nat → Prop) (R : Rd) (hb qb : Nat) (a : Hp × Ls) : Prop where
  m : ∃ F qv ev en, Rh w F R.bk hb qb qv ev en a.1 ∧ ∀ y, F y → G y ∧ ¬ fR R y
  o : RP R w a.2
  iv : Iv R.n a.1
  fr : ∀ y, fR R y → G y
  hp : w.cell? ⟨R.bk, 2, none⟩ = some (.pointer (some ⟨hb, 0, none⟩))
  gl : ∀ y, G y → y < w.heap.size
  cw : R.wd ≤ R.cc
section
variable {w w' : World} {G : Nat → Prop} {R : Rd} {hb qb : Nat} {a : Hp × Ls}
theorem BsF.keeps {D : Nat → Prop} (h : BsF w G R hb qb a) (k : Keeps D w w') (hD : ∀ y, D y → ¬ G y) : BsF w' G R hb qb a := by
  obtain ⟨F, qv, ev, en, m, l⟩ := h.m
  exact ⟨⟨F, qv, ev, en, m.keeps k (fun x hx hF => hD x hx (l x hF).1), l⟩, h.o.keeps k (fun y hy e => hD y hy (h.fr y e)), h.iv, h.fr, (k.cell (p := ⟨R.bk, 2, none⟩) (h.o.lt _ (.inr (.inl rfl))) (fun e => hD _ e (h.fr _ (.inr (.inl rfl))))).trans h.hp, fun y hy => Nat.lt_of_lt_of_le (h.gl y hy) k.size, h.cw⟩
theorem BsF.still (h : BsF w G R hb qb a) (k : Keeps (fun _ => False) w w') : BsF w' G R hb qb a := h.keeps k (fun _ e => e.elim)
theorem BsF.next (hR : RdOk R) {a' : Hp × Ls} {F : Nat → Prop} (h : BsF w G R hb qb a) (l0 : ∀ y, F y → G y ∧ ¬ fR R y) (p : Pr R w w' F hb qb a') : ∃ G', BsF w' G' R hb qb a' ∧ (∀ y, G' y → G y ∨ w.heap.size ≤ y) ∧ Keeps G w w' := by
  obtain ⟨F', qv, ev, en, m, f, d⟩ := p.mid
  have lb : R.bk < w.heap.size := h.o.lt _ (.inr (.inl rfl))
  have nb : ¬ (F R.bk ∨ fRw R R.bk) := fun e => e.elim (fun e => (l0 _ e).2 (.inr (.inl rfl))) (fun e => hR.bk e)
  have hs := p.k.size
  exact ⟨fun y => G y ∨ F' y, ⟨⟨F', qv, ev, en, m, fun y hy => ⟨.inr hy, d y hy⟩⟩, p.o, p.iv, fun y hy => .inl (h.fr y hy), (p.k.cell (p := ⟨R.bk, 2, none⟩) lb nb).trans h.hp, fun y hy => hy.elim (fun e => Nat.lt_of_lt_of_le (h.gl y e) hs) (fun e => m.lt y e), h.cw⟩, fun y hy => hy.elim .inl (fun e => (f y e).elim (fun e => .inl (l0 y e).1) .inr), p.k.mono (fun y e => e.elim (fun e => (l0 y e).1) (fun e => h.fr y (.inl e)))⟩
theorem BsF.of {w0 : World} (b : Bs w0 w R hb qb a) : BsF w (fun y => w0.heap.size ≤ y ∧ y < w.heap.size) R hb qb a := by
  obtain ⟨F, qv, ev, en, m, l⟩ := b.m
  exact ⟨⟨F, qv, ev, en, m, fun y hy => ⟨⟨(l y hy).1, m.lt y hy⟩, (l y hy).2⟩⟩, b.o, b.iv, fun y hy => ⟨b.fr y hy, b.o.lt y hy⟩, b.hp, fun y hy => hy.2, b.cw⟩
end
end Go.Proofs.YtdpebhdjcgiboaaGreat

namespace Go.Proofs.YtdpebhdjcgiboaaGreat
open Go.ChangeShapes Go.WideShapes Go.ChangeAt Go.RowKit Go.MuLone Go.RwLone
set_option linter.unusedVariables false
set_option maxRecDepth 100000
set_option maxHeartbeats 6400000
/-- What does not change of two benches of one program. -/
structure PairOk (B : Bd) (R : Rd) (ts : List (List I8)) (wd : Nat) : Prop where
  hB : BdOk B
  hR : RdOk R
  n1 : B.n = ts.length
  w1 : B.wd = wd
  i1 : B.ins = insL ts
  n2 : R.n = ts.length
  w2 : R.wd = wd
  i2 : R.ins = insL ts
  n4 : 1 ≤ ts.length ∧ ts.length ≤ 4
  w4 : wd ≤ 4
/-- The program's bench and the document's, in the same state. -/
structure Pair (w : World) (G H : Nat → Prop) (B : Bd) (bb hb qb : Nat) (tv : Value) (R : Rd) (rh rq : Nat) (ts : List (List I8)) (a : Hp × Ls) : Prop where
  b : BnF w G B bb hb qb tv a
  r : BsF w H R rh rq a
  dj : ∀ y, G y → ¬ H y
  j : Jb (insL ts) ts.length a
  ph : phA (insL ts) ts.length a ≤ 14
section
variable {w w' : World} {G H : Nat → Prop} {B : Bd} {bb hb qb : Nat} {tv : Value} {R : Rd} {rh rq : Nat} {ts : List (List I8)} {a : Hp × Ls} {wd : Nat}
theorem Pair.keeps {D : Nat → Prop} (p : Pair w G H B bb hb qb tv R rh rq ts a) (k : Keeps D w w') (h1 : ∀ y, D y → ¬ G y) (h2 : ∀ y, D y → ¬ H y) : Pair w' G H B bb hb qb tv R rh rq ts a := ⟨p.b.keeps k h1, p.r.keeps k h2, p.dj, p.j, p.ph⟩
theorem Pair.still (p : Pair w G H B bb hb qb tv R rh rq ts a) (k : Keeps (fun _ => False) w w') : Pair w' G H B bb hb qb tv R rh rq ts a := p.keeps k (fun _ e => e.elim) (fun _ e => e.elim)
end
/-- What one turn leaves. -/
def TurnP (w : World) (G H : Nat → Prop) (B : Bd) (bb hb qb : Nat) (tv : Value) (R : Rd) (rh rq : Nat) (ts : List (List I8)) (w' : World) : Prop :=
  ∃ G' H' a', Pair w' G' H' B bb hb qb tv R rh rq ts a' ∧ (∀ y, G' y → G y ∨ w.heap.size ≤ y) ∧ (∀ y, H' y → H y ∨ w.heap.size ≤ y) ∧ Keeps (fun y => G y ∨ H y) w w'
end Go.Proofs.YtdpebhdjcgiboaaGreat

namespace Go.Proofs.YtdpebhdjcgiboaaGreat
open Go.ChangeShapes Go.WideShapes Go.ChangeAt Go.RowKit Go.MuLone Go.RwLone
set_option linter.unusedVariables false
set_option maxRecDepth 100000
set_option maxHeartbeats 6400000
end Go.Proofs.YtdpebhdjcgiboaaGreat

namespace Go.Proofs.YtdpebhdjcgiboaaGreat
open Go.ChangeShapes Go.WideShapes Go.ChangeAt Go.RowKit Go.MuLone Go.RwLone
set_option linter.unusedVariables false
set_option maxRecDepth 100000
set_option maxHeartbeats 3200000
/-- The program's bench and the document's, and a harness of each over their threads; p the program's state, r the document's. -/
structure Q4 (w : World) (G H P Q : Nat → Prop) (B : Bd) (bb b1 b2 : Nat) (tv : Value) (R : Rd) (r1 r2 hb qb rb sb : Nat) (a0 : Hp) (pa ra : Hp × Ls) : Prop where
  b : BnF w G B bb b1 b2 tv (a0, pa.2)
  r : BsF w H R r1 r2 (a0, ra.2)
  m : ∃ qv ev en, Hm w P B.T hb qb qv ev en pa.1
  n : ∃ qv ev en, Rh w Q R.bk rb sb qv ev en ra.1
  gh : ∀ y, G y → ¬ H y
  gp : ∀ y, G y → ¬ P y
  gq : ∀ y, G y → ¬ Q y
  hp : ∀ y, H y → ¬ P y
  hq : ∀ y, H y → ¬ Q y
  pq : ∀ y, P y → ¬ Q y
def U4 (G H P Q : Nat → Prop) (y : Nat) : Prop := G y ∨ H y ∨ P y ∨ Q y
section
variable {w w' : World} {G H P Q : Nat → Prop} {B : Bd} {bb b1 b2 : Nat} {tv : Value} {R : Rd} {r1 r2 hb qb rb sb : Nat} {a0 : Hp} {pa ra : Hp × Ls}
theorem Q4.lt (q : Q4 w G H P Q B bb b1 b2 tv R r1 r2 hb qb rb sb a0 pa ra) (y : Nat) (hy : U4 G H P Q y) : y < w.heap.size := by
  rcases hy with h | h | h | h
  · exact q.b.gl y h
  · exact q.r.gl y h
  · obtain ⟨_, _, _, m⟩ := q.m
    exact m.lt y h
  · obtain ⟨_, _, _, m⟩ := q.n
    exact m.lt y h
theorem Q4.keeps {D : Nat → Prop} (q : Q4 w G H P Q B bb b1 b2 tv R r1 r2 hb qb rb sb a0 pa ra) (k : Keeps D w w') (hD : ∀ y, D y → ¬ U4 G H P Q y) : Q4 w' G H P Q B bb b1 b2 tv R r1 r2 hb qb rb sb a0 pa ra := by
  obtain ⟨v1, v2, v3, m⟩ := q.m
  obtain ⟨u1, u2, u3, n⟩ := q.n
  exact ⟨q.b.keeps k (fun y e e' => hD y e (.inl e')), q.r.keeps k (fun y e e' => hD y e (.inr (.inl e'))), ⟨v1, v2, v3, m.keeps k (fun y e e' => hD y e (.inr (.inr (.inl e'))))⟩, ⟨u1, u2, u3, n.keeps k (fun y e e' => hD y e (.inr (.inr (.inr e'))))⟩, q.gh, q.gp, q.gq, q.hp, q.hq, q.pq⟩
theorem Q4.still (q : Q4 w G H P Q B bb b1 b2 tv R r1 r2 hb qb rb sb a0 pa ra) (k : Keeps (fun _ => False) w w') : Q4 w' G H P Q B bb b1 b2 tv R r1 r2 hb qb rb sb a0 pa ra := q.keeps k (fun _ e => e.elim)
/-- A bench whose threads were stepped by another harness. -/
theorem BnF.moved {D : Nat → Prop} {s s' : Ls} (b : BnF w G B bb b1 b2 tv (a0, s)) (o : Bo B w' s') (k : Keeps (fun x => D x ∨ fB B x) w w') (hD : ∀ y, D y → ¬ G y) : BnF w' G B bb b1 b2 tv (a0, s') := by
  obtain ⟨F, qv, ev, en, m, d, l, nb, nt⟩ := b.h
  have lb := (Array.getElem?_eq_some_iff.1 b.be).1
  exact ⟨⟨F, qv, ev, en, m.keeps k (fun x hx hF => hx.elim (fun e => hD x e (l x hF)) (d x hF)), d, l, nb, nt⟩, o, b.lo, b.iv, (k.block bb lb (fun e => e.elim (fun e => hD _ e b.gb) b.nb)).trans b.be, owK b.ot k (fun g hg e => e.elim (fun e => hD g e (b.gt g hg)) (b.nt g hg)), b.nb, b.nt, b.gb, b.gt, fun y hy => Nat.lt_of_lt_of_le (b.gl y hy) k.size⟩
theorem BsF.moved (hR : RdOk R) {D : Nat → Prop} {s s' : Ls} (b : BsF w H R r1 r2 (a0, s)) (o : RP R w' s') (k : Keeps (fun x => D x ∨ fRw R x) w w') (hD : ∀ y, D y → ¬ H y) : BsF w' H R r1 r2 (a0, s') := by
  obtain ⟨F, qv, ev, en, m, l⟩ := b.m
  have lb : R.bk < w.heap.size := b.o.lt _ (.inr (.inl rfl))
  exact ⟨⟨F, qv, ev, en, m.keeps k (fun x hx hF => hx.elim (fun e => hD x e (l x hF).1) (fun e => (l x hF).2 (.inl e))), l⟩, o, b.iv, b.fr, (k.cell (p := ⟨R.bk, 2, none⟩) lb (fun e => e.elim (fun e => hD _ e (b.fr _ (.inr (.inl rfl)))) (fun e => hR.bk e))).trans b.hp, fun y hy => Nat.lt_of_lt_of_le (b.gl y hy) k.size, b.cw⟩
/-- The program's half moved. -/
theorem Q4.prog {hB : BdOk B} {P' : Nat → Prop} {qv' : Nat → Value} {ev' en' : Value} {h' : Hp} {s' : Ls} (q : Q4 w G H P Q B bb b1 b2 tv R r1 r2 hb qb rb sb a0 pa ra) (md : Mid (mcB B hB) w w' P hb qb P' qv' ev' en' h' s') : Q4 w' G H P' Q B bb b1 b2 tv R r1 r2 hb qb rb sb a0 (h', s') ra ∧ (∀ y, P' y → P y ∨ w.heap.size ≤ y) ∧ Keeps (U4 G H P Q) w w' := by
  obtain ⟨u1, u2, u3, n⟩ := q.n
  have kk : Keeps (fun x => P x ∨ fB B x) w w' := md.k
  have far : ∀ y, P y ∨ fB B y → P y ∨ G y := fun y e => e.imp id (q.b.lo y)
  have new : ∀ y, P' y → P y ∨ w.heap.size ≤ y := md.f
  refine ⟨⟨q.b.moved md.o kk (fun y e e' => q.gp y e' e), q.r.keeps kk (fun y e e' => (far y e).elim (fun e => q.hp y e' e) (fun e => q.gh y e e')), ⟨_, _, _, md.m⟩, ⟨u1, u2, u3, n.keeps kk (fun y e e' => (far y e).elim (fun e => q.pq y e e') (fun e => q.gq y e e'))⟩, q.gh, fun y e e' => ?_, q.gq, fun y e e' => ?_, q.hq, fun y e e' => ?_⟩, new, kk.mono (fun y e => (far y e).elim (fun e => .inr (.inr (.inl e))) .inl)⟩
  · rcases new y e' with h | h
    · exact q.gp y e h
    · have := q.b.gl y e; omega
  · rcases new y e' with h | h
    · exact q.hp y e h
    · have := q.r.gl y e; omega
  · rcases new y e with h | h
    · exact q.pq y h e'
    · have := n.lt y e'; omega
end
end Go.Proofs.YtdpebhdjcgiboaaGreat

namespace Go.Proofs.YtdpebhdjcgiboaaGreat
open Go.ChangeShapes Go.WideShapes Go.ChangeAt Go.RowKit Go.MuLone Go.RwLone
set_option linter.unusedVariables false
set_option maxRecDepth 100000
set_option maxHeartbeats 3200000
/-- What has ended is taken. -/
theorem Hm.take {w : World} {F : Nat → Prop} {pt : Nat → Nat} {hb qb : Nat} {qv : Nat → Value} {ev en : Value} {h : Hp} (m : Hm w F pt hb qb qv ev en h) : Hm (w.setCell ⟨hb, 3, none⟩ (.slice none 0 0)) (fun y => F y ∧ en.ownBlock ≠ some y) pt hb qb qv ev (.slice none 0 0) { h with en := [] } := by
  have k : Keeps (fun g => g = hb) w (w.setCell ⟨hb, 3, none⟩ (.slice none 0 0)) := Keeps.setCell (B := fun g => g = hb) (Keeps.refl _ _) rfl _
  have hq := m.lt _ m.fq
  obtain ⟨c, hc⟩ := m.qt
  exact ⟨heapSet m.hc _, ⟨c, (k.block _ hq (fun e => m.hq e.symm)).trans hc⟩, fun i hi => (k.cell (p := ⟨qb, i, none⟩) hq (fun e => m.hq e.symm)).trans (m.qc i hi), fun i hi => owK (m.ql i hi) k (fun g hg e => (m.rows i hi g hg).1 e), m.qa, owK m.oe k (fun g hg e => (m.evs g hg).1 e), OwG.nil _ _ _ _ _, ⟨m.fh, fun e => (m.ens hb e).1 rfl⟩, ⟨m.fq, fun e => (m.ens qb e).2 rfl⟩, fun i g hi hg => ⟨m.fr i g hi hg, (m.rows i hi g hg).2.2.2⟩, fun g hg => ⟨m.fe g hg, (m.evs g hg).2.2⟩, (fun g hg => by cases hg), fun x hx => by simpa using m.lt x hx.1, m.n16⟩
/-- The program's Take. -/
theorem htake (w : World) (F : Nat → Prop) (pt : Nat → Nat) (hb qb : Nat) (qv : Nat → Value) (ev en : Value) (h : Hp) (m : Hm w F pt hb qb qv ev en h) :
    Calls Tryz.prog 18 #[.pointer (some ⟨hb, 0, none⟩)] w fun e w' => e = .returned en ∧ Hm w' (fun y => F y ∧ en.ownBlock ≠ some y) pt hb qb qv ev (.slice none 0 0) { h with en := [] } ∧ OwT w' 0 en (h.en.map pt) ∧ Keeps (fun y => y = hb) w w' := by
  obtain ⟨na, nc, hen⟩ := m.ot.form
  have c3 : w.cell? ⟨hb, 3, none⟩ = some (.slice na (h.en.map pt).length nc) := by
    have := (cell?_heap m.hc 3).trans rfl
    rw [← hen]
    exact this
  have f3 := frozen?_heap m.hc 3
  have HX : Hid (Hm (w.setCell ⟨hb, 3, none⟩ (.slice none 0 0)) (fun y => F y ∧ en.ownBlock ≠ some y) pt hb qb qv ev (.slice none 0 0) { h with en := [] } ∧ OwT (w.setCell ⟨hb, 3, none⟩ (.slice none 0 0)) 0 en (h.en.map pt) ∧ Keeps (fun y => y = hb) w (w.setCell ⟨hb, 3, none⟩ (.slice none 0 0))) := by
    have k : Keeps (fun g => g = hb) w (w.setCell ⟨hb, 3, none⟩ (.slice none 0 0)) := Keeps.setCell (B := fun g => g = hb) (Keeps.refl _ _) rfl _
    exact ⟨m.take, owK m.ot k (fun g hg e => (m.ens g hg).1 e), k⟩
  have HE : Hid (en = .slice na (h.en.map pt).length nc) := hen
  clear m hen
  generalize (h.en.map pt).length = nl at *
  go_enter Tryz.func18, Tryz.ntmps18
  go_wp2
  go_ret
  exact ⟨by rw [HE.out]; rfl, HX.out⟩
/-- What has ended is taken. -/
theorem Rh.take {w : World} {F : Nat → Prop} {pt : Nat} {hb qb : Nat} {qv : Nat → Value} {ev en : Value} {h : Hp} (m : Rh w F pt hb qb qv ev en h) : Rh (w.setCell ⟨hb, 4, none⟩ (.slice none 0 0)) (fun y => F y ∧ en.ownBlock ≠ some y) pt hb qb qv ev (.slice none 0 0) { h with en := [] } := by
  have k : Keeps (fun g => g = hb) w (w.setCell ⟨hb, 4, none⟩ (.slice none 0 0)) := Keeps.setCell (B := fun g => g = hb) (Keeps.refl _ _) rfl _
  have hq := m.lt _ m.fq
  obtain ⟨c, hc⟩ := m.qt
  exact ⟨heapSet m.hc _, ⟨c, (k.block _ hq (fun e => m.hq e.symm)).trans hc⟩, fun i hi => (k.cell (p := ⟨qb, i, none⟩) hq (fun e => m.hq e.symm)).trans (m.qc i hi), fun i hi => owK (m.ql i hi) k (fun g hg e => (m.rows i hi g hg).1 e), m.qa, owK m.oe k (fun g hg e => (m.evs g hg).1 e), OwG.nil _ _ _ _ _, ⟨m.fh, fun e => (m.ens hb e).1 rfl⟩, ⟨m.fq, fun e => (m.ens qb e).2 rfl⟩, fun i g hi hg => ⟨m.fr i g hi hg, (m.rows i hi g hg).2.2.2⟩, fun g hg => ⟨m.fe g hg, (m.evs g hg).2.2⟩, (fun g hg => by cases hg), fun x hx => by simpa using m.lt x hx.1, m.n16⟩
/-- A worker's step, if one is due. -/
def stX (M : Mc) (a : Hp × M.σ) (x : Int) : Hp × M.σ := if pendP a.1 x = 0 then a else (stepP M a x.toNat).1
theorem Mid.same {M : Mc} {w : World} {F : Nat → Prop} {hb qb : Nat} {qv : Nat → Value} {ev en : Value} {h : Hp} {s : M.σ} (m : Hm w F M.pt hb qb qv ev en h) (o : M.ok w s) (d : ∀ y, F y → ¬ M.F y) : Mid M w w F hb qb F qv ev en h s := ⟨m, o, Keeps.refl _ _, fun y hy => .inl hy, d⟩
end Go.Proofs.YtdpebhdjcgiboaaGreat

namespace Go.Proofs.YtdpebhdjcgiboaaGreat
set_option linter.unusedSimpArgs false
open Go.ChangeShapes Go.WideShapes Go.ChangeAt Go.RowKit Go.MuLone Go.RwLone
set_option linter.unusedVariables false
set_option maxRecDepth 100000
set_option maxHeartbeats 3200000
/-- The bench's thread of that number. -/
def thO (B : Bd) (x : Int) : Option Addr := if 0 ≤ x ∧ x < (B.n : Int) then some ⟨B.T x.toNat, 0, none⟩ else none
end Go.Proofs.YtdpebhdjcgiboaaGreat

namespace Go.Proofs.YtdpebhdjcgiboaaGreat
set_option linter.unusedSimpArgs false
open Go.ChangeShapes Go.WideShapes Go.ChangeAt Go.RowKit Go.MuLone Go.RwLone
set_option linter.unusedVariables false
set_option maxRecDepth 100000
set_option maxHeartbeats 3200000
def inZ (x : Int) : List Value := [.int .i64 x]
/-- Those of the numbers that are threads. -/
def mfil (n : Nat) (ks : List Int) : List Nat := ks.filterMap (fun x => if 0 ≤ x ∧ x < (n : Int) then some x.toNat else none)
/-- The side's block. -/
abbrev sdC (hb bb rb pb : Nat) : Array Value := #[.pointer (some ⟨hb, 0, none⟩), .pointer (some ⟨bb, 0, none⟩), .pointer (some ⟨rb, 0, none⟩), .pointer (some ⟨pb, 0, none⟩)]
end Go.Proofs.YtdpebhdjcgiboaaGreat

namespace Go.Proofs.YtdpebhdjcgiboaaGreat
set_option linter.unusedSimpArgs false
open Go.ChangeShapes Go.WideShapes Go.ChangeAt Go.RowKit Go.MuLone Go.RwLone
set_option linter.unusedVariables false
set_option maxRecDepth 100000
set_option maxHeartbeats 6400000
/-- What a script of SchedPlays holds. -/
structure PSt (w : World) (G H P Q : Nat → Prop) (B : Bd) (bb b1 b2 : Nat) (tv : Value) (R : Rd) (r1 r2 hb qb rb sb sd : Nat) (a0 : Hp) (a : Hp × Ls) (ts : List (List I8)) (wd c nw : Nat) : Prop where
  ok : PairOk B R ts wd
  q : Q4 w G H P Q B bb b1 b2 tv R r1 r2 hb qb rb sb a0 a a
  bs : w.heap[sd]? = some (.cells (sdC hb bb rb R.bk) 90)
  ns : ¬ U4 G H P Q sd
  iw : Iw ts.length c a.1
  nq : a.1.q.length = nw
/-- What an operation leaves. -/
def MvP (w : World) (G H P Q : Nat → Prop) (B : Bd) (bb b1 b2 : Nat) (tv : Value) (R : Rd) (r1 r2 hb qb rb sb sd : Nat) (a0 : Hp) (ts : List (List I8)) (wd c nw : Nat) (w' : World) : Prop :=
  ∃ P' Q' a', PSt w' G H P' Q' B bb b1 b2 tv R r1 r2 hb qb rb sb sd a0 a' ts wd (c + 128) nw ∧ (∀ y, P' y → P y ∨ w.heap.size ≤ y) ∧ (∀ y, Q' y → Q y ∨ w.heap.size ≤ y) ∧ Keeps (U4 G H P Q) w w'
section
variable {w w' : World} {G H P Q : Nat → Prop} {B : Bd} {bb b1 b2 : Nat} {tv : Value} {R : Rd} {r1 r2 hb qb rb sb sd : Nat} {a0 : Hp} {a : Hp × Ls} {pa ra : Hp × Ls} {ts : List (List I8)} {wd c nw : Nat}
theorem PSt.keeps {D : Nat → Prop} (p : PSt w G H P Q B bb b1 b2 tv R r1 r2 hb qb rb sb sd a0 a ts wd c nw) (k : Keeps D w w') (hD : ∀ y, D y → ¬ U4 G H P Q y ∧ y ≠ sd) : PSt w' G H P Q B bb b1 b2 tv R r1 r2 hb qb rb sb sd a0 a ts wd c nw :=
  ⟨p.ok, p.q.keeps k (fun y e => (hD y e).1), (k.block _ (Array.getElem?_eq_some_iff.1 p.bs).1 (fun e => (hD _ e).2 rfl)).trans p.bs, p.ns, p.iw, p.nq⟩
theorem PSt.still (p : PSt w G H P Q B bb b1 b2 tv R r1 r2 hb qb rb sb sd a0 a ts wd c nw) (k : Keeps (fun _ => False) w w') : PSt w' G H P Q B bb b1 b2 tv R r1 r2 hb qb rb sb sd a0 a ts wd c nw := p.keeps k (fun _ e => e.elim)
/-- Nothing was moved. -/
theorem PSt.mv (p : PSt w' G H P Q B bb b1 b2 tv R r1 r2 hb qb rb sb sd a0 a ts wd c nw) (k : Keeps (fun _ => False) w w') : MvP w G H P Q B bb b1 b2 tv R r1 r2 hb qb rb sb sd a0 ts wd c nw w' :=
  ⟨P, Q, a, ⟨p.ok, p.q, p.bs, p.ns, p.iw.up (by omega), p.nq⟩, fun y hy => .inl hy, fun y hy => .inl hy, k.mono (fun _ e => e.elim)⟩
theorem Q4.far (q : Q4 w G H P Q B bb b1 b2 tv R r1 r2 hb qb rb sb a0 pa ra) (y : Nat) (hy : P y) : ¬ fB B y := fun e => q.gp y (q.b.lo y e) hy
end
/-- An operation's cells. -/
abbrev opC (kd wh tg nn : Int) (pv mv : Value) : Array Value := #[.int .i64 kd, .int .i64 wh, .int .i64 tg, .int .i64 nn, pv, mv]
abbrev opW (w : World) (kd wh tg nn : Int) (pv mv : Value) : World := w.alloc (.cells (opC kd wh tg nn pv mv) 93)
end Go.Proofs.YtdpebhdjcgiboaaGreat

namespace Go.Proofs.YtdpebhdjcgiboaaGreat
set_option linter.unusedSimpArgs false
open Go.ChangeShapes Go.WideShapes Go.ChangeAt Go.RowKit Go.MuLone Go.RwLone
set_option linter.unusedVariables false
set_option maxRecDepth 100000
set_option maxHeartbeats 3200000
section
variable {M : Mc}
end
/-- How many steps there can be. -/
def phG (ins : Nat → List I8) (n : Nat) (a : Hp × Ls) : Nat := szq a.1.q + ((List.range n).map (fun m => (ins m).length - a.2.pl m)).sum
end Go.Proofs.YtdpebhdjcgiboaaGreat

namespace Go.Proofs.YtdpebhdjcgiboaaGreat
set_option linter.unusedSimpArgs false
open Go.ChangeShapes Go.WideShapes Go.ChangeAt Go.RowKit Go.MuLone Go.RwLone
set_option linter.unusedVariables false
set_option maxRecDepth 100000
set_option maxHeartbeats 6400000
def pkC (p : Int × Int × Int) : List Value := [.int .i64 p.1, .int .i64 p.2.1, .int .i64 p.2.2]
theorem pkC_one (p : Int × Int × Int) : ∀ u ∈ pkC p, u.oneCell' = true := by
  intro u hu
  simp [pkC] at hu
  rcases hu with rfl | rfl | rfl <;> rfl
theorem infoPk : (Tryz.prog.info? 110).map (fun i => (i.zero, i.size, i.bytes)) = some (some (.agg #[.int .i64 0, .int .i64 0, .int .i64 0]), 3, 24) := by kernel_rfl
theorem InG.pk {w : World} {C : Nat} {v : Value} {vs : List (Int × Int × Int)} (h : InG pkC w C v vs) : ∃ ao cap, v = .slice ao vs.length cap ∧ vs.length ≤ cap ∧ ∀ i (hi : i < vs.length), ∃ b off, ao = some ⟨b, off, none⟩ ∧ b < C ∧ w.cell? ⟨b, off + i * 3, none⟩ = some (.int .i64 vs[i].1) ∧ w.cell? ⟨b, off + i * 3 + 1, none⟩ = some (.int .i64 vs[i].2.1) ∧ w.cell? ⟨b, off + i * 3 + 2, none⟩ = some (.int .i64 vs[i].2.2) := by
  have hh := h
  obtain ⟨ao, cap, rfl, h1, h2, h3⟩ := h
  refine ⟨ao, cap, rfl, h1, fun i hi => ?_⟩
  obtain ⟨b, off, e, hl, hc⟩ := InG.cell (cs := pkC) (n := 3) (fun _ => rfl) hh i hi (by decide)
  exact ⟨b, off, e, hl, hc 0 (by decide), hc 1 (by decide), hc 2 (by decide)⟩
theorem InG.sees {w : World} {C : Nat} {v : Value} {vs : List (Int × Int × Int)} (h : InG pkC w C v vs) (hl : vs.length ≤ 140737488355328) : SeesP w C v vs := by
  obtain ⟨ao, cap, rfl, h1, h3⟩ := h.pk
  exact ⟨ao, cap, rfl, h1, hl, h3⟩
theorem PkR.in {w : World} {Fb : Nat → Prop} {C : Nat} {v : Value} {vs : List (Int × Int × Int)} (h : InG pkC w C v vs) (hC : C ≤ w.heap.size) (hF : ∀ b, b < C → ¬ Fb b) (hl : vs.length ≤ 140737488355328) (hn : ∀ p ∈ vs, p.2.2 ≤ 9223372036854775807) : PkR w Fb v vs := by
  obtain ⟨ao, cap, rfl, h1, h3⟩ := h.pk
  refine ⟨ao, cap, rfl, hl, hn, fun i hi => ?_⟩
  obtain ⟨b, off, e, hb, c0, c1, c2⟩ := h3 i hi
  exact ⟨b, off, e, hF b hb, by omega, c0, c1, c2⟩
theorem PkR.own {w : World} {Fb : Nat → Prop} {B : Nat} {v : Value} {vs : List (Int × Int × Int)} (h : OwG pkC 110 3 w B v vs) (hF : ∀ b, Fb b → b < B) (hl : vs.length ≤ 140737488355328) (hn : ∀ p ∈ vs, p.2.2 ≤ 9223372036854775807) : PkR w Fb v vs := by
  obtain ⟨ao, cap, rfl, h1, h3⟩ := h.in.pk
  refine ⟨ao, cap, rfl, hl, hn, fun i hi => ?_⟩
  obtain ⟨b, off, e, hb, c0, c1, c2⟩ := h3 i hi
  obtain ⟨g, c', e', hg, _⟩ := owG_some h (by intro e0; rw [e0] at hi; simp at hi)
  injection e' with e' _ _
  rw [e] at e'
  injection e' with e'
  injection e' with e1 e2
  subst e1
  exact ⟨b, off, e, fun e => by have := hF b e; omega, hb, c0, c1, c2⟩
/-- What a play does, under any budget. -/
def plI (M : Mc) (vs : List (Int × Int × Int)) (bd : Int) (a : Hp × M.σ) : Hp × M.σ := if bd < 0 then a else (playP M vs bd.toNat a).2.2
def plN (M : Mc) (vs : List (Int × Int × Int)) (bd : Int) (a : Hp × M.σ) : Int := if bd < 0 then 0 else retI (playP M vs bd.toNat a).1 (playP M vs bd.toNat a).2.1 bd.toNat
def plE (M : Mc) (vs : List (Int × Int × Int)) (bd : Int) (a : Hp × M.σ) : Int := if bd < 0 then 34 else erC (playP M vs bd.toNat a).1
end Go.Proofs.YtdpebhdjcgiboaaGreat
