import Derived.Test.YtdpebhdjcgiboaaGreatSk2
namespace Go.Proofs.YtdpebhdjcgiboaaGreat
open Go.ChangeShapes Go.WideShapes Go.ChangeAt Go.RowKit Go.MuLone Go.RwLone
set_option linter.unusedVariables false
set_option maxRecDepth 100000
set_option maxHeartbeats 6400000
/-- What does not change of two benches of one program. -/
structure PairOk (B : Bd) (R : Rd) (ts : List (List I8)) (wd : Nat) : Prop where
  hB : BdOk B
  hR : RdOk R
  n1 : B.n = ts.length
  w1 : B.wd = wd
  i1 : B.ins = insL ts
  n2 : R.n = ts.length
  w2 : R.wd = wd
  i2 : R.ins = insL ts
  n4 : 1 ≤ ts.length ∧ ts.length ≤ 4
  w4 : wd ≤ 4
/-- The program's bench and the document's, in the same state. -/
structure Pair (w : World) (G H : Nat → Prop) (B : Bd) (bb hb qb : Nat) (tv : Value) (R : Rd) (rh rq : Nat) (ts : List (List I8)) (a : Hp × Ls) : Prop where
  b : BnF w G B bb hb qb tv a
  r : BsF w H R rh rq a
  dj : ∀ y, G y → ¬ H y
  j : Jb (insL ts) ts.length a
  ph : phA (insL ts) ts.length a ≤ 14
/-- What a play does, on both sides. -/
theorem pair_play {ts : List (List I8)} {a : Hp × Ls} (j : Jb (insL ts) ts.length a) (ph : phA (insL ts) ts.length a ≤ 14) (vs : List (Int × Int × Int)) :
    ∃ d a', Jb (insL ts) ts.length a' ∧ phA (insL ts) ts.length a' ≤ 14 ∧ ∀ l, 14 ≤ l → playP (pureM (insL ts) ts.length) vs l a = (true, l - d, a') := by
  obtain ⟨d, a', j', p, h⟩ := fine_play (budB (insL ts) ts.length) vs a j
  exact ⟨d, a', j', by omega, fun l hl => h l (by omega)⟩
theorem pair_le {ts : List (List I8)} {a : Hp × Ls} (j : Jb (insL ts) ts.length a) (ph : phA (insL ts) ts.length a ≤ 14) (vs : List (Int × Int × Int)) :
    ∃ d a', d ≤ 14 ∧ Jb (insL ts) ts.length a' ∧ phA (insL ts) ts.length a' ≤ 14 ∧ ∀ l, 14 ≤ l → playP (pureM (insL ts) ts.length) vs l a = (true, l - d, a') := by
  obtain ⟨d, a', j', p, h⟩ := fine_play (budB (insL ts) ts.length) vs a j
  exact ⟨d, a', by omega, j', by omega, fun l hl => h l (by omega)⟩
theorem PM_one {R : Rd} {ins : Nat → List I8} {n : Nat} (hi : R.ins = ins) (hn : R.n = n) (vs : List (Int × Int × Int)) (l : Nat) (a : Hp × Ls) : (playP (PM R) vs l a).1 = (playP (pureM ins n) vs l a).1 ∧ (playP (PM R) vs l a).2.1 = (playP (pureM ins n) vs l a).2.1 ∧ (playP (PM R) vs l a).2.2 = (playP (pureM ins n) vs l a).2.2 := by
  subst hi hn
  exact ⟨rfl, rfl, rfl⟩
theorem mcB_one {B : Bd} (hB : BdOk B) {ins : Nat → List I8} {n : Nat} (hi : B.ins = ins) (hn : B.n = n) (vs : List (Int × Int × Int)) (l : Nat) (a : Hp × Ls) : (playP (mcB B hB) vs l a).1 = (playP (pureM ins n) vs l a).1 ∧ (playP (mcB B hB) vs l a).2.1 = (playP (pureM ins n) vs l a).2.1 ∧ (playP (mcB B hB) vs l a).2.2 = (playP (pureM ins n) vs l a).2.2 := by
  subst hi hn
  obtain ⟨h1, h2, h3⟩ := pure_playP B hB vs l a
  exact ⟨h1.symm, h2.symm, h3.symm⟩
section
variable {w w' : World} {G H : Nat → Prop} {B : Bd} {bb hb qb : Nat} {tv : Value} {R : Rd} {rh rq : Nat} {ts : List (List I8)} {a : Hp × Ls} {wd : Nat}
theorem Pair.keeps {D : Nat → Prop} (p : Pair w G H B bb hb qb tv R rh rq ts a) (k : Keeps D w w') (h1 : ∀ y, D y → ¬ G y) (h2 : ∀ y, D y → ¬ H y) : Pair w' G H B bb hb qb tv R rh rq ts a := ⟨p.b.keeps k h1, p.r.keeps k h2, p.dj, p.j, p.ph⟩
theorem Pair.still (p : Pair w G H B bb hb qb tv R rh rq ts a) (k : Keeps (fun _ => False) w w') : Pair w' G H B bb hb qb tv R rh rq ts a := p.keeps k (fun _ e => e.elim) (fun _ e => e.elim)
end
/-- What one turn leaves. -/
def TurnP (w : World) (G H : Nat → Prop) (B : Bd) (bb hb qb : Nat) (tv : Value) (R : Rd) (rh rq : Nat) (ts : List (List I8)) (w' : World) : Prop :=
  ∃ G' H' a', Pair w' G' H' B bb hb qb tv R rh rq ts a' ∧ (∀ y, G' y → G y ∨ w.heap.size ≤ y) ∧ (∀ y, H' y → H y ∨ w.heap.size ≤ y) ∧ Keeps (fun y => G y ∨ H y) w w'
end Go.Proofs.YtdpebhdjcgiboaaGreat

namespace Go.Proofs.YtdpebhdjcgiboaaGreat
open Go.ChangeShapes Go.WideShapes Go.ChangeAt Go.RowKit Go.MuLone Go.RwLone
set_option linter.unusedVariables false
set_option maxRecDepth 100000
set_option maxHeartbeats 6400000
theorem boutX (w : World) (G : Nat → Prop) (B : Bd) (hB : BdOk B) (bb hb qb : Nat) (tv : Value) (a : Hp × Ls) (b : BnF w G B bb hb qb tv a) (hn4 : 1 ≤ B.n ∧ B.n ≤ 4) (X Y : List Int) (hX : X = wlL a.2.wo B.wd) (hY : Y = regsL a.2.rg B.n) :
    Calls Tryz.prog 80 #[.pointer (some ⟨bb, 0, none⟩)] w fun e w' => ∃ c1 k1 c2 k2, e = .returned (.tuple #[.agg #[.slice c1 X.length k1, .slice c2 Y.length k2], .bool (idleP a.1)]) ∧ OwW w' w.heap.size (.slice c1 X.length k1) X ∧ OwW w' w.heap.size (.slice c2 Y.length k2) Y ∧ BnF w' G B bb hb qb tv a ∧ Keeps G w w' := by
  refine (boutF w G B hB bb hb qb tv a b hn4).mono ?_
  rintro e w' ⟨g, rv, he, o1, o2, b1, k1⟩
  subst hX hY
  obtain ⟨ra, rc, rfl⟩ := o2.form
  have hl : (wlL a.2.wo B.wd).length = B.wd := by simp [wlL]
  rw [hl]
  exact ⟨_, _, _, _, he, o1, o2, b1, k1⟩
theorem routX (w : World) (R : Rd) (hR : RdOk R) (s : Ls) (h : RP R w s) (hc : R.wd ≤ R.cc) (hn : R.wd ≤ 100) (X Y : List Int) (hX : X = wlL s.wo R.wd) (hY : Y = regsL s.rg R.n) :
    Calls Tryz.prog 54 #[.pointer (some ⟨R.bk, 0, none⟩)] w fun e w' => ∃ c1 k1 c2 k2, e = .returned (.agg #[.slice c1 X.length k1, .slice c2 Y.length k2]) ∧ OwW w' w.heap.size (.slice c1 X.length k1) X ∧ OwW w' w.heap.size (.slice c2 Y.length k2) Y ∧ Keeps (fun _ => False) w w' := by
  subst hX hY
  refine (rout_any R hR w s h hc hn).mono ?_
  rintro e w' ⟨ca, cc, ra, rc, he, o1, o2, k1⟩
  exact ⟨_, _, _, _, he, o1, o2, Below.keeps k1 _⟩
end Go.Proofs.YtdpebhdjcgiboaaGreat
