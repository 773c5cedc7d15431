import Derived.Test.YtdpebhdjcgiboaaGreatKSg9
import Derived.Handy
import Derived.Deep.DeepCutAuto
namespace Go.Proofs.YtdpebhdjcgiboaaGreat
set_option linter.unusedSimpArgs false
open Go.ChangeShapes Go.WideShapes Go.ChangeAt Go.RowKit Go.MuLone Go.RwLone
set_option linter.unusedVariables false
set_option maxRecDepth 100000
set_option maxHeartbeats 3200000
/-- Where the document's program lies. -/
structure Rd where
  bk : Nat
  tb : Nat
  cb : Nat
  rb : Nat → Nat
  ia : Nat → Option Addr
  icap : Nat → Nat
  wd : Nat
  n : Nat
  cc : Nat
  tc : Nat
  ins : Nat → List I8
/-- The blocks that its steps write. -/
def fRw (R : Rd) (y : Nat) : Prop := y = R.tb ∨ y = R.cb ∨ ∃ j, j < R.n ∧ y = R.rb j
/-- All of its blocks. -/
def fR (R : Rd) (y : Nat) : Prop := fRw R y ∨ y = R.bk ∨ ∃ j, j < R.n ∧ R.ia j = some ⟨y, 0, none⟩
structure RdOk (R : Rd) : Prop where
  bk : ¬ fRw R R.bk
  tc : R.tb ≠ R.cb
  tr : ∀ j, j < R.n → R.rb j ≠ R.tb ∧ R.rb j ≠ R.cb
  rr : ∀ i j, i < R.n → j < R.n → i ≠ j → R.rb i ≠ R.rb j
  ib : ∀ j ib, j < R.n → R.ia j = some ⟨ib, 0, none⟩ → ¬ fRw R ib
  sd : ∀ i, i < R.n → ∀ x ∈ R.ins i, snd R.wd x
  ln : ∀ i, i < R.n → (R.ins i).length ≤ 1000
  n4 : R.n ≤ 4
structure RP (R : Rd) (w : World) (s : Ls) : Prop where
  p0 : w.cell? ⟨R.bk, 0, none⟩ = some (.slice (some ⟨R.cb, 0, none⟩) R.wd R.cc)
  p1 : w.cell? ⟨R.bk, 1, none⟩ = some (.slice (some ⟨R.tb, 0, none⟩) R.n R.tc)
  t0 : ∀ i, i < R.n → w.cell? ⟨R.tb, i * 3, none⟩ = some (.slice (R.ia i) (R.ins i).length (R.icap i))
  t1 : ∀ i, i < R.n → w.cell? ⟨R.tb, i * 3 + 1, none⟩ = some (.slice (some ⟨R.rb i, 0, none⟩) 4 4)
  t2 : ∀ i, i < R.n → w.cell? ⟨R.tb, i * 3 + 2, none⟩ = some (.int .i64 (s.pl i : Int))
  rg : ∀ i j, i < R.n → j < 4 → w.cell? ⟨R.rb i, j, none⟩ = some (.int .u64 (s.rg i j))
  ce : ∀ c, c < R.wd → w.cell? ⟨R.cb, c, none⟩ = some (.int .u64 (s.wo c))
  ro : ∀ i, i < R.n → Ro w (R.ia i) (R.ins i)
  fz : ∀ g j, fRw R g → w.frozen? ⟨g, j, none⟩ = false
  lt : ∀ y, fR R y → y < w.heap.size
theorem RP.keeps {R : Rd} {w w' : World} {s : Ls} {D : Nat → Prop} (h : RP R w s) (k : Keeps D w w') (hD : ∀ y, D y → ¬ fR R y) : RP R w' s := by
  have e : ∀ g j, fR R g → w'.cell? ⟨g, j, none⟩ = w.cell? ⟨g, j, none⟩ := fun g j hg => k.cell (p := ⟨g, j, none⟩) (h.lt g hg) (fun e => hD g e hg)
  exact ⟨(e _ _ (.inr (.inl rfl))).trans h.p0, (e _ _ (.inr (.inl rfl))).trans h.p1, fun i hi => (e _ _ (.inl (.inl rfl))).trans (h.t0 i hi), fun i hi => (e _ _ (.inl (.inl rfl))).trans (h.t1 i hi), fun i hi => (e _ _ (.inl (.inl rfl))).trans (h.t2 i hi), fun i j hi hj => (e _ _ (.inl (.inr (.inr ⟨i, hi, rfl⟩)))).trans (h.rg i j hi hj), fun c hc => (e _ _ (.inl (.inr (.inl rfl)))).trans (h.ce c hc), fun i hi => (h.ro i hi).keeps k (fun ib e' e'' => hD ib e'' (.inr (.inr ⟨i, hi, e'⟩))), fun g j hg => (k.frozen (p := ⟨g, j, none⟩) (h.lt g (.inl hg)) (fun e => hD g e (.inl hg))).trans (h.fz g j hg), fun y hy => Nat.lt_of_lt_of_le (h.lt y hy) k.size⟩
theorem RP.still {R : Rd} {w w' : World} {s : Ls} (h : RP R w s) (k : Keeps (fun _ => False) w w') : RP R w' s := h.keeps k (fun _ e => e.elim)
theorem RP.set {R : Rd} (hR : RdOk R) {w : World} {s s' : Ls} {g j : Nat} {v : Value} (h : RP R w s) (hg : fRw R g)
    (h0 : ∀ i, i < R.n → ¬ (g = R.tb ∧ j = i * 3)) (h1 : ∀ i, i < R.n → ¬ (g = R.tb ∧ j = i * 3 + 1))
    (t2 : ∀ i, i < R.n → (w.setCell ⟨g, j, none⟩ v).cell? ⟨R.tb, i * 3 + 2, none⟩ = some (.int .i64 (s'.pl i : Int)))
    (rg : ∀ i k, i < R.n → k < 4 → (w.setCell ⟨g, j, none⟩ v).cell? ⟨R.rb i, k, none⟩ = some (.int .u64 (s'.rg i k)))
    (ce : ∀ c, c < R.wd → (w.setCell ⟨g, j, none⟩ v).cell? ⟨R.cb, c, none⟩ = some (.int .u64 (s'.wo c))) : RP R (w.setCell ⟨g, j, none⟩ v) s' := by
  have o : ∀ g' j', (g' ≠ g ∨ j' ≠ j) → (w.setCell ⟨g, j, none⟩ v).cell? ⟨g', j', none⟩ = w.cell? ⟨g', j', none⟩ := fun g' j' hn => World.cell?_setCell_other _ _ _ _ (fun e => hn.elim (fun hn => hn (congrArg Addr.block e).symm) (fun hn => hn (congrArg Addr.off e).symm))
  have k : Keeps (fun y => y = g) w (w.setCell ⟨g, j, none⟩ v) := Keeps.setCell (B := fun y => y = g) (Keeps.refl _ _) rfl _
  have nb : R.bk ≠ g := fun e => hR.bk (e ▸ hg)
  refine ⟨(o _ _ (.inl nb)).trans h.p0, (o _ _ (.inl nb)).trans h.p1, fun i hi => (o _ _ ?_).trans (h.t0 i hi), fun i hi => (o _ _ ?_).trans (h.t1 i hi), t2, rg, ce, fun i hi => (h.ro i hi).keeps k (fun ib e e' => hR.ib i ib hi e (e' ▸ hg)), fun g' j' hg' => by simpa using h.fz g' j' hg', fun y hy => by simpa using h.lt y hy⟩
  · by_cases e : R.tb = g
    · exact .inr (fun e' => h0 i hi ⟨e.symm, e'.symm⟩)
    · exact .inl e
  · by_cases e : R.tb = g
    · exact .inr (fun e' => h1 i hi ⟨e.symm, e'.symm⟩)
    · exact .inl e
theorem RP.setPl {R : Rd} (hR : RdOk R) {w : World} {s : Ls} (h : RP R w s) (i x : Nat) (hi : i < R.n) : RP R (w.setCell ⟨R.tb, i * 3 + 2, none⟩ (.int .i64 (x : Int))) ⟨s.wo, s.rg, upd s.pl i x⟩ := by
  refine h.set hR (.inl rfl) (fun k _ e => by omega) (fun k _ e => by omega) (fun k hk => ?_) (fun k j hk hj => ?_) (fun c hc => ?_)
  · by_cases e : k = i
    · subst e
      show _ = some (Value.int .i64 ((upd s.pl k x k : Nat) : Int))
      rw [upd_same]
      exact World.cell?_setCell_same _ _ _ (h.t2 k hk)
    · show _ = some (Value.int .i64 ((upd s.pl i x k : Nat) : Int))
      rw [upd_other _ _ e, World.cell?_setCell_other _ _ _ _ (fun e' => by have := congrArg Addr.off e'; simp at this; omega)]
      exact h.t2 k hk
  · rw [World.cell?_setCell_other _ _ _ _ (fun e' => (hR.tr k hk).1 (congrArg Addr.block e').symm)]
    exact h.rg k j hk hj
  · rw [World.cell?_setCell_other _ _ _ _ (fun e' => hR.tc (congrArg Addr.block e'))]
    exact h.ce c hc
end Go.Proofs.YtdpebhdjcgiboaaGreat

namespace Go.Proofs.YtdpebhdjcgiboaaGreat
set_option linter.unusedSimpArgs false
open Go.ChangeShapes Go.WideShapes Go.ChangeAt Go.RowKit Go.MuLone Go.RwLone
set_option linter.unusedVariables false
set_option maxRecDepth 100000
set_option maxHeartbeats 3200000
/-- The document's thread at work, its instruction in the box g. -/
structure Rk (w W : World) (R : Rd) (s : Ls) (g : Nat) (x : I8) : Prop where
  p : RP R W s
  bx : ∀ j u, (iV x)[j]? = some u → W.cell? ⟨g, j, none⟩ = some u
  k : Keeps (fRw R) w W
  gl : g < W.heap.size
  ng : ¬ fR R g
theorem Rk.still {w W W' : World} {R : Rd} {s : Ls} {g : Nat} {x : I8} (h : Rk w W R s g x) (k : Keeps (fun _ => False) W W') : Rk w W' R s g x :=
  ⟨h.p.still k, fun j u hu => (k.cell (p := ⟨g, j, none⟩) h.gl (fun e => e)).trans (h.bx j u hu), h.k.trans (k.mono (fun _ e => e.elim)), Nat.lt_of_lt_of_le h.gl k.size, h.ng⟩
theorem Rk.drew {w W : World} {R : Rd} {s : Ls} {g : Nat} {x : I8} (h : Rk w W R s g x) : Rk w W.drew R s g x := h.still (Keeps.refl _ _).drew
theorem Rk.put {w W : World} {R : Rd} {s s' : Ls} {g : Nat} {x : I8} {b j : Nat} {v : Value} (h : Rk w W R s g x) (hb : fRw R b) (p : RP R (W.setCell ⟨b, j, none⟩ v) s') : Rk w (W.setCell ⟨b, j, none⟩ v) R s' g x :=
  ⟨p, fun i u hu => (World.cell?_setCell_other _ _ _ _ (fun e => h.ng (.inl (by have e2 : b = g := congrArg Addr.block e; exact e2 ▸ hb)))).trans (h.bx i u hu), h.k.setCell (p := ⟨b, j, none⟩) hb _, by simpa using h.gl, h.ng⟩
theorem Rk.start {w : World} {R : Rd} {s : Ls} (x : I8) (h : RP R w s) : Rk w (w.alloc (.cells (iV x) 106)) R s w.heap.size x :=
  ⟨h.still ((Keeps.refl _ _).alloc _), fun j u hu => (cell?_heap (heap_alloc_last _ _ _ rfl) j).trans hu, (Keeps.refl _ _).alloc _, by simp, fun e => by have := h.lt _ e; omega⟩
end Go.Proofs.YtdpebhdjcgiboaaGreat

namespace Go.Proofs.YtdpebhdjcgiboaaGreat
set_option linter.unusedSimpArgs false
open Go.ChangeShapes Go.WideShapes Go.ChangeAt Go.RowKit Go.MuLone Go.RwLone
set_option linter.unusedVariables false
set_option maxRecDepth 100000
set_option maxHeartbeats 3200000
end Go.Proofs.YtdpebhdjcgiboaaGreat

namespace Go.Proofs.YtdpebhdjcgiboaaGreat
set_option linter.unusedSimpArgs false
open Go.ChangeShapes Go.WideShapes Go.ChangeAt Go.RowKit Go.MuLone Go.RwLone
set_option linter.unusedVariables false
set_option maxRecDepth 100000
set_option maxHeartbeats 3200000
end Go.Proofs.YtdpebhdjcgiboaaGreat

namespace Go.Proofs.YtdpebhdjcgiboaaGreat
set_option linter.unusedSimpArgs false
open Go.ChangeShapes Go.WideShapes Go.ChangeAt Go.RowKit Go.MuLone Go.RwLone
set_option linter.unusedVariables false
set_option maxRecDepth 100000
set_option maxHeartbeats 3200000
end Go.Proofs.YtdpebhdjcgiboaaGreat

namespace Go.Proofs.YtdpebhdjcgiboaaGreat
open Go.ChangeShapes Go.WideShapes Go.ChangeAt Go.RowKit Go.MuLone Go.RwLone
set_option linter.unusedVariables false
set_option maxRecDepth 100000
set_option maxHeartbeats 3200000
/-- A place of the document's queue. -/
def plR (x : Pq) : List Value := [.int .i64 (x.1 : Int), .int .i64 x.2.1, .bool x.2.2]
def inR (x : Nat) : List Value := [.int .i64 (x : Int)]
abbrev haR (pt qb n : Nat) (st : Int) (ev en : Value) : Array Value := #[.pointer (some ⟨pt, 0, none⟩), .slice (some ⟨qb, 0, none⟩) n n, .int .i64 st, ev, en]
abbrev OwR (w : World) (v : Value) (xs : List Pq) : Prop := OwG plR 219 3 w 0 v xs
abbrev OwI (w : World) (B : Nat) (v : Value) (xs : List Nat) : Prop := OwG inR 3 1 w B v xs
/-- A harness in its blocks, all of which F holds. -/
structure Rh (w : World) (F : Nat → Prop) (pt : Nat) (hb qb : Nat) (qv : Nat → Value) (ev en : Value) (h : Hp) : Prop where
  hc : w.heap[hb]? = some (.cells (haR pt qb h.q.length h.st ev en) 158)
  qt : ∃ c, w.heap[qb]? = some (.cells c 217)
  qc : ∀ i, i < h.q.length → w.cell? ⟨qb, i, none⟩ = some (qv i)
  ql : ∀ i (hi : i < h.q.length), OwR w (qv i) h.q[i]
  qa : ∀ i j g, i < h.q.length → j < h.q.length → i ≠ j → (qv i).ownBlock = some g → (qv j).ownBlock = some g → False
  oe : OwE w 0 ev h.ev
  ot : OwI w 0 en h.en
  fh : F hb
  fq : F qb
  fr : ∀ i g, i < h.q.length → (qv i).ownBlock = some g → F g
  fe : ∀ g, ev.ownBlock = some g → F g
  fn : ∀ g, en.ownBlock = some g → F g
  lt : ∀ x, F x → x < w.heap.size
  n16 : h.q.length ≤ 16
variable {w : World} {F : Nat → Prop} {pt : Nat} {hb qb : Nat} {qv : Nat → Value} {ev en : Value} {h : Hp}
theorem Rh.keeps {w' : World} {D : Nat → Prop} (m : Rh w F pt hb qb qv ev en h) (k : Keeps D w w') (hD : ∀ x, D x → ¬ F x) : Rh w' F pt hb qb qv ev en h := by
  have hq := m.lt _ m.fq
  refine ⟨(k.block _ (m.lt _ m.fh) (fun e => hD _ e m.fh)).trans m.hc, ?_, fun i hi => (k.cell (p := ⟨qb, i, none⟩) hq (fun e => hD _ e m.fq)).trans (m.qc i hi), fun i hi => owK (m.ql i hi) k (fun g hg e => hD _ e (m.fr i g hi hg)), m.qa, owK m.oe k (fun g hg e => hD _ e (m.fe g hg)), owK m.ot k (fun g hg e => hD _ e (m.fn g hg)), m.fh, m.fq, m.fr, m.fe, m.fn, fun x hx => Nat.lt_of_lt_of_le (m.lt x hx) k.size, m.n16⟩
  obtain ⟨c, hc⟩ := m.qt
  exact ⟨c, (k.block _ hq (fun e => hD _ e m.fq)).trans hc⟩
theorem Rh.still {w' : World} (m : Rh w F pt hb qb qv ev en h) (k : Keeps (fun _ => False) w w') : Rh w' F pt hb qb qv ev en h := m.keeps k (fun _ e => e.elim)
theorem Rh.hq (m : Rh w F pt hb qb qv ev en h) : hb ≠ qb := by
  obtain ⟨c, hc⟩ := m.qt
  exact neT m.hc hc (by decide)
theorem Rh.rows (m : Rh w F pt hb qb qv ev en h) (i : Nat) (hi : i < h.q.length) (g : Nat) (hg : (qv i).ownBlock = some g) : g ≠ hb ∧ g ≠ qb ∧ ev.ownBlock ≠ some g ∧ en.ownBlock ≠ some g := by
  obtain ⟨c, hc⟩ := blk (m.ql i hi) hg
  obtain ⟨d, hd⟩ := m.qt
  refine ⟨neT hc m.hc (by decide), neT hc hd (by decide), fun e => ?_, fun e => ?_⟩
  · obtain ⟨c', hc'⟩ := blk m.oe e
    exact neT hc hc' (by decide) rfl
  · obtain ⟨c', hc'⟩ := blk m.ot e
    exact neT hc hc' (by decide) rfl
theorem Rh.evs (m : Rh w F pt hb qb qv ev en h) (g : Nat) (hg : ev.ownBlock = some g) : g ≠ hb ∧ g ≠ qb ∧ en.ownBlock ≠ some g := by
  obtain ⟨c, hc⟩ := blk m.oe hg
  obtain ⟨d, hd⟩ := m.qt
  refine ⟨neT hc m.hc (by decide), neT hc hd (by decide), fun e => ?_⟩
  obtain ⟨c', hc'⟩ := blk m.ot e
  exact neT hc hc' (by decide) rfl
theorem Rh.ens (m : Rh w F pt hb qb qv ev en h) (g : Nat) (hg : en.ownBlock = some g) : g ≠ hb ∧ g ≠ qb := by
  obtain ⟨c, hc⟩ := blk m.ot hg
  obtain ⟨d, hd⟩ := m.qt
  exact ⟨neT hc m.hc (by decide), neT hc hd (by decide)⟩
/-- The steps are stored. -/
theorem Rh.setSt (m : Rh w F pt hb qb qv ev en h) (x : Int) : Rh (w.setCell ⟨hb, 2, none⟩ (.int .i64 x)) F pt hb qb qv ev en { h with st := x } := by
  have k : Keeps (fun g => g = hb) w (w.setCell ⟨hb, 2, none⟩ (.int .i64 x)) := Keeps.setCell (B := fun g => g = hb) (Keeps.refl _ _) rfl _
  have hq := m.lt _ m.fq
  obtain ⟨c, hc⟩ := m.qt
  exact ⟨heapSet m.hc _, ⟨c, (k.block _ hq (fun e => m.hq e.symm)).trans hc⟩, fun i hi => (k.cell (p := ⟨qb, i, none⟩) hq (fun e => m.hq e.symm)).trans (m.qc i hi), fun i hi => owK (m.ql i hi) k (fun g hg e => (m.rows i hi g hg).1 e), m.qa, owK m.oe k (fun g hg e => (m.evs g hg).1 e), owK m.ot k (fun g hg e => (m.ens g hg).1 e), m.fh, m.fq, m.fr, m.fe, m.fn, fun x hx => by simpa using m.lt x hx, m.n16⟩
/-- An event more. -/
theorem Rh.event {w1 : World} {b mm cap : Nat} {es : List (Int × Int × Int × Int)} (m : Rh w F pt hb qb qv ev en h) (k : Keeps (fun g => ev.ownBlock = some g) w w1) (ho : OwE w1 0 (.slice (some ⟨b, 0, none⟩) mm cap) es) (hb' : ev.ownBlock = some b ∨ w.heap.size ≤ b) (hl : b < w1.heap.size) :
    Rh (w1.setCell ⟨hb, 3, none⟩ (.slice (some ⟨b, 0, none⟩) mm cap)) (fun x => F x ∨ x = b) pt hb qb qv (.slice (some ⟨b, 0, none⟩) mm cap) en { h with ev := es } := by
  have hq := m.lt _ m.fq
  have hh := m.lt _ m.fh
  obtain ⟨c, hc⟩ := m.qt
  have k2 : Keeps (fun g => g = hb) w1 (w1.setCell ⟨hb, 3, none⟩ (.slice (some ⟨b, 0, none⟩) mm cap)) := Keeps.setCell (B := fun g => g = hb) (Keeps.refl _ _) rfl _
  have kk : Keeps (fun g => ev.ownBlock = some g ∨ g = hb) w (w1.setCell ⟨hb, 3, none⟩ (.slice (some ⟨b, 0, none⟩) mm cap)) := (k.mono (fun _ e => .inl e)).trans (k2.mono (fun _ e => .inr e))
  have e1 : w1.heap[hb]? = _ := (k.block hb hh (fun e => (m.evs hb e).1 rfl)).trans m.hc
  have nb : b ≠ hb := by
    rcases hb' with e | e
    · exact (m.evs b e).1
    · omega
  refine ⟨heapSet e1 _, ⟨c, (kk.block _ hq (fun e => e.elim (fun e => (m.evs qb e).2.1 rfl) (fun e => m.hq e.symm))).trans hc⟩, fun i hi => (kk.cell (p := ⟨qb, i, none⟩) hq (fun e => e.elim (fun e => (m.evs qb e).2.1 rfl) (fun e => m.hq e.symm))).trans (m.qc i hi), fun i hi => owK (m.ql i hi) kk (fun g hg e => e.elim (fun e => (m.rows i hi g hg).2.2.1 e) (fun e => (m.rows i hi g hg).1 e)), m.qa, owK ho k2 (fun g hg e => nb ((Option.some.inj hg : b = g).trans e)), owK m.ot kk (fun g hg e => e.elim (fun e => (m.evs g e).2.2 hg) (fun e => (m.ens g hg).1 e)), .inl m.fh, .inl m.fq, fun i g hi hg => .inl (m.fr i g hi hg), fun g hg => .inr (Option.some.inj hg : b = g).symm, fun g hg => .inl (m.fn g hg), fun x hx => ?_, m.n16⟩
  rcases hx with hx | hx
  · have := m.lt x hx
    have := kk.size
    omega
  · rw [hx]; simpa using hl
/-- A machine more that has ended. -/
theorem Rh.ended {w1 : World} {b mm cap : Nat} {es : List Nat} (m : Rh w F pt hb qb qv ev en h) (k : Keeps (fun g => en.ownBlock = some g) w w1) (ho : OwI w1 0 (.slice (some ⟨b, 0, none⟩) mm cap) es) (hb' : en.ownBlock = some b ∨ w.heap.size ≤ b) (hl : b < w1.heap.size) :
    Rh (w1.setCell ⟨hb, 4, none⟩ (.slice (some ⟨b, 0, none⟩) mm cap)) (fun x => F x ∨ x = b) pt hb qb qv ev (.slice (some ⟨b, 0, none⟩) mm cap) { h with en := es } := by
  have hq := m.lt _ m.fq
  have hh := m.lt _ m.fh
  obtain ⟨c, hc⟩ := m.qt
  have k2 : Keeps (fun g => g = hb) w1 (w1.setCell ⟨hb, 4, none⟩ (.slice (some ⟨b, 0, none⟩) mm cap)) := Keeps.setCell (B := fun g => g = hb) (Keeps.refl _ _) rfl _
  have kk : Keeps (fun g => en.ownBlock = some g ∨ g = hb) w (w1.setCell ⟨hb, 4, none⟩ (.slice (some ⟨b, 0, none⟩) mm cap)) := (k.mono (fun _ e => .inl e)).trans (k2.mono (fun _ e => .inr e))
  have e1 : w1.heap[hb]? = _ := (k.block hb hh (fun e => (m.ens hb e).1 rfl)).trans m.hc
  have nb : b ≠ hb := by
    rcases hb' with e | e
    · exact (m.ens b e).1
    · omega
  refine ⟨heapSet e1 _, ⟨c, (kk.block _ hq (fun e => e.elim (fun e => (m.ens qb e).2 rfl) (fun e => m.hq e.symm))).trans hc⟩, fun i hi => (kk.cell (p := ⟨qb, i, none⟩) hq (fun e => e.elim (fun e => (m.ens qb e).2 rfl) (fun e => m.hq e.symm))).trans (m.qc i hi), fun i hi => owK (m.ql i hi) kk (fun g hg e => e.elim (fun e => (m.rows i hi g hg).2.2.2 e) (fun e => (m.rows i hi g hg).1 e)), m.qa, owK m.oe kk (fun g hg e => e.elim (fun e => (m.evs g hg).2.2 e) (fun e => (m.evs g hg).1 e)), owK ho k2 (fun g hg e => nb ((Option.some.inj hg : b = g).trans e)), .inl m.fh, .inl m.fq, fun i g hi hg => .inl (m.fr i g hi hg), fun g hg => .inl (m.fe g hg), fun g hg => .inr (Option.some.inj hg : b = g).symm, fun x hx => ?_, m.n16⟩
  rcases hx with hx | hx
  · have := m.lt x hx
    have := kk.size
    omega
  · rw [hx]; simpa using hl
/-- A row is changed in its own block. -/
theorem Rh.row {w1 : World} {P i : Nat} {l : List Pq} {v : Value} (m : Rh w F pt hb qb qv ev en h) (hi : i < h.q.length) (hP : (qv i).ownBlock = some P) (k : Keeps (fun g => g = P) w w1) (ho : OwR w1 v l) (hv : v.ownBlock = some P) :
    Rh (w1.setCell ⟨qb, i, none⟩ v) F pt hb qb (upd qv i v) ev en { h with q := h.q.set i l } := by
  have hq := m.lt _ m.fq
  have hh := m.lt _ m.fh
  have r := m.rows i hi P hP
  obtain ⟨c, hc⟩ := m.qt
  have k2 : Keeps (fun g => g = qb) w1 (w1.setCell ⟨qb, i, none⟩ v) := Keeps.setCell (B := fun g => g = qb) (Keeps.refl _ _) rfl _
  have kk : Keeps (fun g => g = P ∨ g = qb) w (w1.setCell ⟨qb, i, none⟩ v) := (k.mono (fun _ e => .inl e)).trans (k2.mono (fun _ e => .inr e))
  have e1 : w1.heap[qb]? = _ := (k.block qb hq (fun e => r.2.1 e.symm)).trans hc
  have ec : ∀ j, w1.cell? ⟨qb, j, none⟩ = w.cell? ⟨qb, j, none⟩ := fun j => k.cell (p := ⟨qb, j, none⟩) hq (fun e => r.2.1 e.symm)
  have ew : ∀ j, j < h.q.length → ((upd qv i v) j).ownBlock = (qv j).ownBlock := fun j hj => by
    by_cases e : j = i
    · subst e; rw [upd_same, hv, hP]
    · rw [upd_other _ _ e]
  refine ⟨?_, ⟨_, heapSet e1 _⟩, fun j hj => ?_, fun j hj => ?_, fun j j' g hj hj' hn h1 h2 => ?_, owK m.oe kk (fun g hg e => e.elim (fun e => r.2.2.1 (e ▸ hg)) (fun e => (m.evs g hg).2.1 e)), owK m.ot kk (fun g hg e => e.elim (fun e => r.2.2.2 (e ▸ hg)) (fun e => (m.ens g hg).2 e)), m.fh, m.fq, fun j g hj hg => ?_, m.fe, m.fn, fun x hx => Nat.lt_of_lt_of_le (m.lt x hx) kk.size, by simpa using m.n16⟩
  · rw [List.length_set]
    exact (kk.block hb hh (fun e => e.elim (fun e => r.1 e.symm) (fun e => m.hq e))).trans m.hc
  · rw [List.length_set] at hj
    by_cases e : j = i
    · subst e; rw [upd_same]
      exact World.cell?_setCell_same _ _ _ ((ec j).trans (m.qc j hj))
    · rw [upd_other _ _ e, World.cell?_setCell_other _ _ _ _ (fun e' => e (congrArg Addr.off e').symm), ec]
      exact m.qc j hj
  · have hj2 : j < h.q.length := by simpa using hj
    by_cases e : j = i
    · subst e
      rw [upd_same]
      simp only [List.getElem_set_self]
      exact owK ho k2 (fun g hg e => r.2.1 ((Option.some.inj (hv.symm.trans hg) : P = g).trans e))
    · rw [upd_other _ _ e]
      simp only [List.getElem_set_ne (fun e' => e e'.symm)]
      exact owK (m.ql j hj2) kk (fun g hg e' => e'.elim (fun e' => m.qa j i g hj2 hi e hg (e' ▸ hP)) (fun e' => (m.rows j hj2 g hg).2.1 e'))
  · rw [List.length_set] at hj hj'
    rw [ew j hj] at h1
    rw [ew j' hj'] at h2
    exact m.qa j j' g hj hj' hn h1 h2
  · rw [List.length_set] at hj
    rw [ew j hj] at hg
    exact m.fr j g hj hg
theorem Rh.head {w : World} {F : Nat → Prop} {pt : Nat} {hb qb : Nat} {qv : Nat → Value} {ev en : Value} {h : Hp} (m : Rh w F pt hb qb qv ev en h) {i : Nat} (hi : i < h.q.length) {x : Pq} {l : List Pq} (hq : h.q[i] = x :: l) :
    ∃ P cap, qv i = .slice (some ⟨P, 0, none⟩) (x :: l).length cap ∧ (qv i).ownBlock = some P ∧ OwR w (.slice (some ⟨P, 0, none⟩) (x :: l).length cap) (x :: l) ∧ w.cell? ⟨P, 0, none⟩ = some (.int .i64 (x.1 : Int)) ∧ w.cell? ⟨P, 1, none⟩ = some (.int .i64 x.2.1) ∧ w.cell? ⟨P, 2, none⟩ = some (.bool x.2.2) ∧ w.frozen? ⟨P, 2, none⟩ = false := by
  have o := m.ql i hi
  rw [hq] at o
  obtain ⟨P, cap, e, _, _⟩ := owG_some o (by simp)
  rw [e] at o
  exact ⟨P, cap, e, by rw [e]; rfl, o, (World.ownsRow.cellAt o 0 (by simp only [List.length_cons]; omega)).trans rfl, (World.ownsRow.cellAt o 1 (by simp only [List.length_cons]; omega)).trans rfl, (World.ownsRow.cellAt o 2 (by simp only [List.length_cons]; omega)).trans rfl, World.ownsRow.frozenAt o 2⟩
theorem Rh.inrow {w w1 : World} {F : Nat → Prop} {pt : Nat} {hb qb : Nat} {qv : Nat → Value} {ev en : Value} {h : Hp} {P i : Nat} {l : List Pq} (m : Rh w F pt hb qb qv ev en h) (hi : i < h.q.length) (hP : (qv i).ownBlock = some P) (k : Keeps (fun g => g = P) w w1) (ho : OwR w1 (qv i) l) :
    Rh w1 F pt hb qb qv ev en { h with q := h.q.set i l } := by
  have hq := m.lt _ m.fq
  have hh := m.lt _ m.fh
  have r := m.rows i hi P hP
  obtain ⟨c, hc⟩ := m.qt
  refine ⟨?_, ⟨_, (k.block qb hq (fun e => r.2.1 e.symm)).trans hc⟩, fun j hj => ?_, fun j hj => ?_, fun j j' g hj hj' hn h1 h2 => ?_, owK m.oe k (fun g hg e => r.2.2.1 (e ▸ hg)), owK m.ot k (fun g hg e => r.2.2.2 (e ▸ hg)), m.fh, m.fq, fun j g hj hg => ?_, m.fe, m.fn, fun x hx => Nat.lt_of_lt_of_le (m.lt x hx) k.size, by simpa using m.n16⟩
  · rw [List.length_set]
    exact (k.block hb hh (fun e => r.1 e.symm)).trans m.hc
  · rw [List.length_set] at hj
    exact (k.cell (p := ⟨qb, j, none⟩) hq (fun e => r.2.1 e.symm)).trans (m.qc j hj)
  · have hj2 : j < h.q.length := by simpa using hj
    by_cases e : j = i
    · subst e
      simp only [List.getElem_set_self]
      exact ho
    · simp only [List.getElem_set_ne (fun e' => e e'.symm)]
      exact owK (m.ql j hj2) k (fun g hg e' => m.qa j i g hj2 hi e hg (e' ▸ hP))
  · rw [List.length_set] at hj hj'
    exact m.qa j j' g hj hj' hn h1 h2
  · rw [List.length_set] at hj
    exact m.fr j g hj hg
theorem Rh.mark {w : World} {F : Nat → Prop} {pt : Nat} {hb qb : Nat} {qv : Nat → Value} {ev en : Value} {h : Hp} {P i cap : Nat} {x : Pq} {l : List Pq} (m : Rh w F pt hb qb qv ev en h) (hi : i < h.q.length) (hv : qv i = .slice (some ⟨P, 0, none⟩) (x :: l).length cap) (ho : OwR w (.slice (some ⟨P, 0, none⟩) (x :: l).length cap) (x :: l)) :
    Rh (w.setCell ⟨P, 2, none⟩ (.bool true)) F pt hb qb qv ev en { h with q := h.q.set i ((x.1, x.2.1, true) :: l) } := by
  have hP : (qv i).ownBlock = some P := by rw [hv]; rfl
  refine m.inrow hi hP (Keeps.setCell (B := fun g => g = P) (Keeps.refl _ _) rfl _) ?_
  rw [hv]
  have h2 := (World.ownsRow.stored ho 2 (.bool true)).1
  exact h2
end Go.Proofs.YtdpebhdjcgiboaaGreat

namespace Go.Proofs.YtdpebhdjcgiboaaGreat
open Go.ChangeShapes Go.WideShapes Go.ChangeAt Go.RowKit Go.MuLone Go.RwLone
set_option linter.unusedVariables false
set_option maxRecDepth 100000
set_option maxHeartbeats 3200000
end Go.Proofs.YtdpebhdjcgiboaaGreat

namespace Go.Proofs.YtdpebhdjcgiboaaGreat
open Go.ChangeShapes Go.WideShapes Go.ChangeAt Go.RowKit Go.MuLone Go.RwLone
set_option linter.unusedVariables false
set_option maxRecDepth 100000
set_option maxHeartbeats 3200000
/-- In the midst of a step: what has come of the harness and the machines since w. -/
structure Mr (R : Rd) (w wx : World) (F : Nat → Prop) (hb qb : Nat) (F' : Nat → Prop) (qv : Nat → Value) (ev en : Value) (h : Hp) (s : Ls) : Prop where
  m : Rh wx F' R.bk hb qb qv ev en h
  o : RP R wx s
  k : Keeps (fun x => F x ∨ fRw R x) w wx
  f : ∀ y, F' y → F y ∨ w.heap.size ≤ y
  d : ∀ y, F' y → ¬ fR R y
theorem Mr.next {R : Rd} {w wx wy : World} {F : Nat → Prop} {hb qb : Nat} {F' F'' : Nat → Prop} {qv qv' : Nat → Value} {ev en ev' en' : Value} {h h' : Hp} {s : Ls} (a : Mr R w wx F hb qb F' qv ev en h s) (m : Rh wy F'' R.bk hb qb qv' ev' en' h') (k : Keeps F' wx wy) (f : ∀ y, F'' y → F' y ∨ wx.heap.size ≤ y) : Mr R w wy F hb qb F'' qv' ev' en' h' s := by
  have hs := a.k.size
  refine ⟨m, a.o.keeps k a.d, ⟨k.os.trans a.k.os, k.tape.trans a.k.tape, k.output.trans a.k.output, Nat.le_trans hs k.size, fun g hg hn => (k.block g (by omega) (fun e => (a.f g e).elim (fun e => hn (.inl e)) (fun e => by omega))).trans (a.k.block g hg hn)⟩, fun y hy => ?_, fun y hy hM => ?_⟩
  · rcases f y hy with e | e
    · exact a.f y e
    · right; omega
  · rcases f y hy with e | e
    · exact a.d y e hM
    · have := a.o.lt _ hM
      omega
theorem Mr.go {R : Rd} {w wx wy : World} {F : Nat → Prop} {hb qb : Nat} {F' : Nat → Prop} {qv : Nat → Value} {ev en : Value} {h : Hp} {s s' : Ls} (a : Mr R w wx F hb qb F' qv ev en h s) (o : RP R wy s') (k : Keeps (fRw R) wx wy) : Mr R w wy F hb qb F' qv ev en h s' :=
  ⟨a.m.keeps k (fun y hM hy => a.d y hy (.inl hM)), o, a.k.trans (k.mono (fun _ e => .inr e)), a.f, a.d⟩
theorem Mr.start {R : Rd} {w : World} {F : Nat → Prop} {hb qb : Nat} {qv : Nat → Value} {ev en : Value} {h : Hp} {s : Ls} (m : Rh w F R.bk hb qb qv ev en h) (o : RP R w s) (d : ∀ y, F y → ¬ fR R y) : Mr R w w F hb qb F qv ev en h s := ⟨m, o, Keeps.refl _ _, fun _ e => .inl e, d⟩
theorem Mr.still {R : Rd} {w wx wy : World} {F : Nat → Prop} {hb qb : Nat} {F' : Nat → Prop} {qv : Nat → Value} {ev en : Value} {h : Hp} {s : Ls} (a : Mr R w wx F hb qb F' qv ev en h s) (k : Keeps (fun _ => False) wx wy) : Mr R w wy F hb qb F' qv ev en h s := a.go (a.o.still k) (k.mono (fun _ e => e.elim))
end Go.Proofs.YtdpebhdjcgiboaaGreat

namespace Go.Proofs.YtdpebhdjcgiboaaGreat
set_option linter.unusedSimpArgs false
open Go.ChangeShapes Go.WideShapes Go.ChangeAt Go.RowKit Go.MuLone Go.RwLone
set_option linter.unusedVariables false
set_option maxRecDepth 100000
set_option maxHeartbeats 3200000
/-- A row lies in a new block from now on. -/
theorem Rh.moved {w w1 : World} {F : Nat → Prop} {pt hb qb : Nat} {qv : Nat → Value} {ev en : Value} {h : Hp} {b i : Nat} {l : List Pq} {v : Value} (m : Rh w F pt hb qb qv ev en h) (hi : i < h.q.length) (k : Keeps (fun _ => False) w w1) (ho : OwR w1 v l) (hv : v.ownBlock = some b) (hb' : w.heap.size ≤ b) (hl : b < w1.heap.size) :
    Rh (w1.setCell ⟨qb, i, none⟩ v) (fun x => F x ∨ x = b) pt hb qb (upd qv i v) ev en { h with q := h.q.set i l } := by
  have hq := m.lt _ m.fq
  have hh := m.lt _ m.fh
  obtain ⟨c, hc⟩ := m.qt
  have k2 : Keeps (fun g => g = qb) w1 (w1.setCell ⟨qb, i, none⟩ v) := Keeps.setCell (B := fun g => g = qb) (Keeps.refl _ _) rfl _
  have kk : Keeps (fun g => g = qb) w (w1.setCell ⟨qb, i, none⟩ v) := (k.mono (fun _ e => e.elim)).trans k2
  have e1 : w1.heap[qb]? = _ := (k.block qb hq (fun e => e)).trans hc
  have ec : ∀ j, w1.cell? ⟨qb, j, none⟩ = w.cell? ⟨qb, j, none⟩ := fun j => k.cell (p := ⟨qb, j, none⟩) hq (fun e => e)
  have lo : ∀ j g, j < h.q.length → (qv j).ownBlock = some g → g < w.heap.size := fun j g hj hg => m.lt _ (m.fr j g hj hg)
  refine ⟨?_, ⟨_, heapSet e1 _⟩, fun j hj => ?_, fun j hj => ?_, fun j j' g hj hj' hn h1 h2 => ?_, owK m.oe kk (fun g hg e => (m.evs g hg).2.1 e), owK m.ot kk (fun g hg e => (m.ens g hg).2 e), .inl m.fh, .inl m.fq, fun j g hj hg => ?_, fun g hg => .inl (m.fe g hg), fun g hg => .inl (m.fn g hg), fun x hx => ?_, by simpa using m.n16⟩
  · rw [List.length_set]
    exact (kk.block hb hh (fun e => m.hq e)).trans m.hc
  · rw [List.length_set] at hj
    by_cases e : j = i
    · subst e; rw [upd_same]
      exact World.cell?_setCell_same _ _ _ ((ec j).trans (m.qc j hj))
    · rw [upd_other _ _ e, World.cell?_setCell_other _ _ _ _ (fun e' => e (congrArg Addr.off e').symm), ec]
      exact m.qc j hj
  · have hj2 : j < h.q.length := by simpa using hj
    by_cases e : j = i
    · subst e
      simp only [List.getElem_set_self]
      rw [upd_same]
      refine owK ho k2 (fun g hg e => ?_)
      rw [hv] at hg
      have := Option.some.inj hg
      omega
    · simp only [List.getElem_set_ne (fun e' => e e'.symm)]
      rw [upd_other _ _ e]
      exact owK (m.ql j hj2) kk (fun g hg e' => (m.rows j hj2 g hg).2.1 e')
  · rw [List.length_set] at hj hj'
    by_cases e : j = i
    · subst e
      rw [upd_same, hv] at h1
      rw [upd_other _ _ (fun e => hn e.symm)] at h2
      have := lo j' g hj' h2
      have := Option.some.inj h1
      omega
    · rw [upd_other _ _ e] at h1
      by_cases e' : j' = i
      · subst e'
        rw [upd_same, hv] at h2
        have := lo j g hj h1
        have := Option.some.inj h2
        omega
      · rw [upd_other _ _ e'] at h2
        exact m.qa j j' g hj hj' hn h1 h2
  · rw [List.length_set] at hj
    by_cases e : j = i
    · subst e
      rw [upd_same, hv] at hg
      exact .inr (Option.some.inj hg).symm
    · rw [upd_other _ _ e] at hg
      exact .inl (m.fr j g hj hg)
  · rcases hx with hx | hx
    · have := m.lt x hx
      have := kk.size
      omega
    · rw [hx]; simpa using hl
end Go.Proofs.YtdpebhdjcgiboaaGreat

namespace Go.Proofs.YtdpebhdjcgiboaaGreat
open Go.ChangeShapes Go.WideShapes Go.ChangeAt Go.RowKit Go.MuLone Go.RwLone
set_option linter.unusedVariables false
set_option maxRecDepth 100000
set_option maxHeartbeats 3200000
/-- The document's machines without memory. -/
abbrev PM (R : Rd) : Mc := pureM R.ins R.n
/-- The document's harness and its program, since w. -/
structure Pr (R : Rd) (w wr : World) (F : Nat → Prop) (hb qb : Nat) (a : Hp × Ls) : Prop where
  mid : ∃ F' qv ev en, Rh wr F' R.bk hb qb qv ev en a.1 ∧ (∀ y, F' y → F y ∨ w.heap.size ≤ y) ∧ (∀ y, F' y → ¬ fR R y)
  o : RP R wr a.2
  k : Keeps (fun x => F x ∨ fRw R x) w wr
  iv : Iv R.n a.1
theorem Pr.still {R : Rd} {w wr wy : World} {F : Nat → Prop} {hb qb : Nat} {a : Hp × Ls} (p : Pr R w wr F hb qb a) (k : Keeps (fun _ => False) wr wy) : Pr R w wy F hb qb a := by
  obtain ⟨F', qv, ev, en, m, f, d⟩ := p.mid
  exact ⟨⟨F', qv, ev, en, m.still k, f, d⟩, p.o.still k, p.k.trans (k.mono (fun _ e => e.elim)), p.iv⟩
end Go.Proofs.YtdpebhdjcgiboaaGreat

namespace Go.Proofs.YtdpebhdjcgiboaaGreat
open Go.ChangeShapes Go.WideShapes Go.ChangeAt Go.RowKit Go.MuLone Go.RwLone
set_option linter.unusedVariables false
set_option maxRecDepth 100000
set_option maxHeartbeats 3200000
end Go.Proofs.YtdpebhdjcgiboaaGreat

namespace Go.Proofs.YtdpebhdjcgiboaaGreat
open Go.ChangeShapes Go.WideShapes Go.ChangeAt Go.RowKit Go.MuLone Go.RwLone
set_option linter.unusedVariables false
set_option maxRecDepth 100000
set_option maxHeartbeats 3200000
end Go.Proofs.YtdpebhdjcgiboaaGreat

namespace Go.Proofs.YtdpebhdjcgiboaaGreat
open Go.ChangeShapes Go.WideShapes Go.ChangeAt Go.RowKit Go.MuLone Go.RwLone
set_option linter.unusedVariables false
set_option maxRecDepth 100000
set_option maxHeartbeats 3200000
end Go.Proofs.YtdpebhdjcgiboaaGreat

namespace Go.Proofs.YtdpebhdjcgiboaaGreat
open Go.ChangeShapes Go.WideShapes Go.ChangeAt Go.RowKit Go.MuLone Go.RwLone
set_option linter.unusedVariables false
set_option maxRecDepth 100000
set_option maxHeartbeats 3200000
/-- The code of a play that bore, or did not. -/
def erC (b : Bool) : Int := if b then 0 else 34
end Go.Proofs.YtdpebhdjcgiboaaGreat

namespace Go.Proofs.YtdpebhdjcgiboaaGreat
open Go.ChangeShapes Go.WideShapes Go.ChangeAt Go.RowKit Go.MuLone Go.RwLone
set_option linter.unusedVariables false
set_option maxRecDepth 100000
set_option maxHeartbeats 3200000
end Go.Proofs.YtdpebhdjcgiboaaGreat
