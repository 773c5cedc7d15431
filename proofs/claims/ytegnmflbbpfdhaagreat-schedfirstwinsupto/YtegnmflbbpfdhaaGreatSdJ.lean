import Derived.Test.YtegnmflbbpfdhaaGreatSdI
namespace Go.Proofs.YtegnmflbbpfdhaaGreat
open Go.ChangeShapes Go.WideShapes Go.ChangeAt Go.RowKit Go.MuLone Go.RwLone
set_option linter.unusedVariables false
set_option maxRecDepth 100000
set_option maxHeartbeats 3200000
/-- The bench of swaps, whatever was played of it. -/
def Bn (w : World) (A : Ad) (x0 : Int) (dn : Nat → Bool) : Prop := ∃ S rg st ev en es ts, Fw w A x0 dn S rg st ev en es ts ∧ Won x0 dn A.n S rg
/-- What playing may touch. -/
structure Fm (A : Ad) (w w' : World) : Prop where
  k : Keeps (Tc A) w w'
  f : ∀ (k : Nat) (c : Array Value) (t : TypeId) (f : Nat × Nat), A.B ≤ k → w.heap[k]? = some (.cells c t f) → t ≠ 161 → t ≠ 75 → t ≠ 163 → w'.heap[k]? = w.heap[k]?
theorem Fm.refl (A : Ad) (w : World) : Fm A w w := ⟨Keeps.refl _ _, fun _ _ _ _ _ _ _ _ _ => rfl⟩
theorem Fm.trans {A : Ad} {a b c : World} (h : Fm A a b) (g : Fm A b c) : Fm A a c := ⟨h.k.trans g.k, fun k c t f hk hc h1 h2 h3 => (g.f k c t f hk ((h.f k c t f hk hc h1 h2 h3).trans hc) h1 h2 h3).trans (h.f k c t f hk hc h1 h2 h3)⟩
theorem Fm.still {A : Ad} {w w' : World} (k : Keeps (fun _ => False) w w') : Fm A w w' := ⟨k.mono (fun _ e => e.elim), fun g c t f hk hc _ _ _ => k.block g (Array.getElem?_eq_some_iff.1 hc).1 (fun e => e)⟩
theorem Fm.drew {A : Ad} {a w : World} (h : Fm A a w) : Fm A a w.drew := h.trans (Fm.still (Keeps.refl _ _).drew)
/-- A change that leaves all blocks below B, and the rows of events and threads. -/
theorem Bn.far {w w' : World} {A : Ad} {x0 : Int} {dn : Nat → Bool} (hA : Ly A) (h : Bn w A x0 dn) (k : Keeps (fun x => A.B ≤ x) w w') (oe : ∀ v xs, OwE w A.B v xs → OwE w' A.B v xs) (ot : ∀ v xs, OwT w A.B v xs → OwT w' A.B v xs) : Bn w' A x0 dn := by
  obtain ⟨S, rg, st, ev, en, es, ts, h, hW⟩ := h
  refine ⟨S, rg, st, ev, en, es, ts, ⟨h.hd.keeps k (fun g hg => by have := (hA.ap 0 hA.n4.1).lb g hg; omega), h.hr.keeps k (by have := (hA.ap 0 hA.n4.1).bh; omega) (by have := (hA.ap 0 hA.n4.1).bq; omega), fun i hi => (h.th i hi).keeps k (by have := (hA.ap i hi).bT; omega), fun i hi => (h.ins i hi).keeps k (by have := (hA.ap i hi).bi; omega), fun i hi hd => ?_, fun i hi hd j => ?_, oe _ _ h.oe, ot _ _ h.ot, Nat.le_trans h.bs k.size, h.s1, h.s2, h.s3, h.s4, h.s5, h.el, h.tl⟩, hW⟩
  · have lp : A.pb i < w.heap.size := Nat.lt_of_lt_of_le (hA.ap i hi).bp h.bs
    have nk : ¬ A.B ≤ A.pb i := by have := (hA.ap i hi).bp; omega
    obtain ⟨q0, q1, q2⟩ := h.pl i hi hd
    exact ⟨(k.cell (p := ⟨A.pb i, 0, none⟩) lp nk).trans q0, (k.cell (p := ⟨A.pb i, 1, none⟩) lp nk).trans q1, (k.cell (p := ⟨A.pb i, 2, none⟩) lp nk).trans q2⟩
  · have lp : A.pb i < w.heap.size := Nat.lt_of_lt_of_le (hA.ap i hi).bp h.bs
    have nk : ¬ A.B ≤ A.pb i := by have := (hA.ap i hi).bp; omega
    exact (k.frozen (p := ⟨A.pb i, j, none⟩) lp nk).trans (h.pf i hi hd j)
theorem Bn.still {w w' : World} {A : Ad} {x0 : Int} {dn : Nat → Bool} (hA : Ly A) (h : Bn w A x0 dn) (k : Keeps (fun _ => False) w w') : Bn w' A x0 dn :=
  h.far hA (k.mono (fun _ e => e.elim)) (fun v xs o => o.keeps k (fun _ e => e.elim)) (fun v xs o => o.keeps k (fun _ e => e.elim))
theorem Bn.size {w : World} {A : Ad} {x0 : Int} {dn : Nat → Bool} (h : Bn w A x0 dn) : A.B ≤ w.heap.size := by
  obtain ⟨S, rg, st, ev, en, es, ts, h, hW⟩ := h
  exact h.bs
theorem Bn.harness {w : World} {A : Ad} {x0 : Int} {dn : Nat → Bool} (h : Bn w A x0 dn) : ∃ st ev en, Hr w A.hb A.qb A.n A.pb (fun i => if dn i then 0 else 1) A.cp st ev en := by
  obtain ⟨S, rg, st, ev, en, es, ts, h, hW⟩ := h
  exact ⟨st, ev, en, h.hr⟩
/-- A play in its block g, with lf steps left. -/
structure Pl (w : World) (A : Ad) (x0 : Int) (g lf : Nat) (dn : Nat → Bool) : Prop where
  bn : Bn w A x0 dn
  gb : w.heap[g]? = some (.cells #[.pointer (some ⟨A.hb, 0, none⟩), .int .i64 (lf : Int)] 163)
  b : A.B ≤ g
  l : left dn A.n ≤ lf
  m : lf ≤ 1000000
theorem Pl.c0 {w : World} {A : Ad} {x0 : Int} {g lf : Nat} {dn : Nat → Bool} (h : Pl w A x0 g lf dn) : w.cell? ⟨g, 0, none⟩ = some (.pointer (some ⟨A.hb, 0, none⟩)) := (cell?_heap h.gb 0).trans rfl
theorem Pl.c1 {w : World} {A : Ad} {x0 : Int} {g lf : Nat} {dn : Nat → Bool} (h : Pl w A x0 g lf dn) : w.cell? ⟨g, 1, none⟩ = some (.int .i64 (lf : Int)) := (cell?_heap h.gb 1).trans rfl
theorem Pl.still {w w' : World} {A : Ad} {x0 : Int} {g lf : Nat} {dn : Nat → Bool} (hA : Ly A) (h : Pl w A x0 g lf dn) (k : Keeps (fun _ => False) w w') : Pl w' A x0 g lf dn :=
  ⟨h.bn.still hA k, (k.block g (Array.getElem?_eq_some_iff.1 h.gb).1 (fun e => e)).trans h.gb, h.b, h.l, h.m⟩
/-- A step is spent. -/
theorem Pl.spend {w : World} {A : Ad} {x0 : Int} {g lf : Nat} {dn : Nat → Bool} (hA : Ly A) (h : Pl w A x0 g lf dn) (x : Nat) : Bn (w.setCell ⟨g, 1, none⟩ (.int .i64 (x : Int))) A x0 dn ∧ (w.setCell ⟨g, 1, none⟩ (.int .i64 (x : Int))).heap[g]? = some (.cells #[.pointer (some ⟨A.hb, 0, none⟩), .int .i64 (x : Int)] 163) ∧ Fm A w (w.setCell ⟨g, 1, none⟩ (.int .i64 (x : Int))) := by
  have k : Keeps (fun y => A.B ≤ y) w (w.setCell ⟨g, 1, none⟩ (.int .i64 (x : Int))) := Keeps.setCell (B := fun y => A.B ≤ y) (Keeps.refl _ _) h.b _
  have kt : KpT 163 w (w.setCell ⟨g, 1, none⟩ (.int .i64 (x : Int))) := KpT.set h.gb _
  refine ⟨h.bn.far hA k (fun v xs o => OwG.kept o kt (by decide)) (fun v xs o => OwG.kept o kt (by decide)), ?_, ⟨k.mono (fun y e => ⟨0, hA.n4.1, .inr (.inr (.inr (.inr (.inr e))))⟩), fun y c t f hy hc _ _ h3 => kt y c t f hc h3⟩⟩
  have hg := h.gb
  simp [World.setCell, Array.getElem?_modify, hg]
/-- The play behind a step of thread i. -/
theorem pl_step (w : World) (A : Ad) (x0 : Int) (g lf : Nat) (dn : Nat → Bool) (hA : Ly A) (h : Bn w A x0 dn) (hg : w.heap[g]? = some (.cells #[.pointer (some ⟨A.hb, 0, none⟩), .int .i64 (lf : Int)] 163)) (hb : A.B ≤ g) (hl : left dn A.n ≤ lf + 1) (hm : lf ≤ 1000000) (h0 : 0 ≤ x0) (h1 : x0 < 18446744073709551616) (i : Nat) (hi : i < A.n) (hd : dn i = false) :
    Calls Tryz.prog 110 #[.pointer (some ⟨A.hb, 0, none⟩), .int .i64 (i : Int)] w fun e w' => e = .returned (.bool true) ∧ Pl w' A x0 g lf (upd dn i true) ∧ Fm A w w' := by
  obtain ⟨S, rg, st, ev, en, es, ts, h, hW⟩ := h
  refine (fw_step w A x0 dn S rg st ev en es ts hA h h0 h1 hW i hi hd).mono ?_
  rintro e w' ⟨rfl, ⟨S', rg', st', ev', en', es', ts', h', hW'⟩, k, fr⟩
  have := left_set hi hd
  exact ⟨rfl, ⟨⟨S', rg', st', ev', en', es', ts', h', hW'⟩, (fr g _ _ _ hb hg (by decide) (by decide)).trans hg, hb, by omega, hm⟩, k, fun k c t f hk hc h1 h2 _ => fr k c t f hk hc h1 h2⟩
end Go.Proofs.YtegnmflbbpfdhaaGreat
