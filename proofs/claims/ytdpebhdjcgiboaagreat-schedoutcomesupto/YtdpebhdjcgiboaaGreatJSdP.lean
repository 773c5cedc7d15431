import Derived.Test.YtdpebhdjcgiboaaGreatJSdH
namespace Go.Proofs.YtdpebhdjcgiboaaGreat
open Go.ChangeShapes Go.WideShapes Go.ChangeAt Go.RowKit Go.MuLone Go.RwLone
set_option linter.unusedVariables false
set_option maxRecDepth 100000
set_option maxHeartbeats 3200000
/-- Where a bench's things lie: blocks below B. -/
structure Ad where
  B : Nat
  L : Lay
  hb : Nat
  qb : Nat
  n : Nat
  pb : Nat → Nat
  T : Nat → Nat
  ib : Nat → Nat
  cp : Nat → Nat
  cap : Nat → Nat
structure Ly (A : Ad) : Prop where
  n4 : 1 ≤ A.n ∧ A.n ≤ 4
  ap : ∀ i, i < A.n → Ap A.L (A.T i) (A.ib i) A.hb A.qb (A.pb i) A.B
  TT : ∀ i k, i < A.n → k < A.n → i ≠ k → A.T i ≠ A.T k
  pp : ∀ i k, i < A.n → k < A.n → i ≠ k → A.pb i ≠ A.pb k
  Tp : ∀ i k, i < A.n → k < A.n → A.T i ≠ A.pb k
  ip : ∀ i k, i < A.n → k < A.n → A.ib i ≠ A.pb k
  iT : ∀ i k, i < A.n → k < A.n → A.ib i ≠ A.T k
  cp : ∀ i, i < A.n → 1 ≤ A.cp i ∧ A.cp i ≤ 9223372036854775807
/-- How many are not done. -/
def left (dn : Nat → Bool) (n : Nat) : Nat := (List.range n).countP (fun i => !dn i)
/-- The word that thread i swaps in. -/
def nw (x0 : Int) (i : Nat) : Int := (x0 + 1 + (i : Int)) % 18446744073709551616
theorem nw_ne {x0 : Int} {i : Nat} (h0 : 0 ≤ x0) (h1 : x0 < 18446744073709551616) (hi : i < 4) : ¬ nw x0 i = x0 := by unfold nw; omega
/-- The bench of swaps. -/
structure Fw (w : World) (A : Ad) (x0 : Int) (dn : Nat → Bool) (S : AS) (rg : Nat → Nat → Int) (st : Int) (ev en : Value) (es : List (Int × Int × Int × Int)) (ts : List Nat) : Prop where
  hd : Holds w A.L S
  hr : Hr w A.hb A.qb A.n A.pb (fun i => if dn i then 0 else 1) A.cp st ev en
  th : ∀ i, i < A.n → Th w (A.T i) A.L (A.ib i) 1 (A.cap i) (rg i) (if dn i then 1 else 0)
  ins : ∀ i, i < A.n → In8 w (A.ib i) 0 3 ((1 : Nat) : Int) ((2 : Nat) : Int) (-1) (nw x0 i) (-1) x0 0
  pl : ∀ i, i < A.n → dn i = false → w.cell? ⟨A.pb i, 0, none⟩ = some (.pointer (some ⟨A.T i, 0, none⟩)) ∧ w.cell? ⟨A.pb i, 1, none⟩ = some (.int .i64 (i : Int)) ∧ w.cell? ⟨A.pb i, 2, none⟩ = some (.bool false)
  pf : ∀ i, i < A.n → dn i = false → ∀ j, w.frozen? ⟨A.pb i, j, none⟩ = false
  oe : OwE w A.B ev es
  ot : OwT w A.B en ts
  bs : A.B ≤ w.heap.size
  s1 : S.rc = 0
  s2 : S.n = 1
  s3 : S.use 0 = true
  s4 : S.wd = 2
  s5 : S.g0 = 0
  el : es.length = 2 * ts.length
  tl : ts.length + left dn A.n = A.n
/-- Who won. -/
def Won (x0 : Int) (dn : Nat → Bool) (n : Nat) (S : AS) (rg : Nat → Nat → Int) : Prop :=
  S.word 0 = 7 ∧ (((∀ i, i < n → dn i = false) ∧ S.word 1 = x0 ∧ ∀ i, i < n → rg i 2 = 0) ∨ ∃ v, v < n ∧ dn v = true ∧ S.word 1 = nw x0 v ∧ ∀ i, i < n → rg i 2 = if i = v then 1 else 0)
theorem Won.step {x0 : Int} {dn : Nat → Bool} {n : Nat} {S : AS} {rg : Nat → Nat → Int} {i : Nat} {x : Int} (h0 : 0 ≤ x0) (h1 : x0 < 18446744073709551616) (hn : n ≤ 4) (h : Won x0 dn n S rg) (hi : i < n) (hd : dn i = false) :
    Won x0 (upd dn i true) n { S with rc := 0, acc := x, word := if S.word 1 = x0 then upd S.word 1 (nw x0 i) else S.word } (upd rg i (upd (rg i) 2 (bitI (decide (S.word 1 = x0))))) := by
  obtain ⟨hw, h⟩ := h
  rcases h with ⟨ha, hx, hr⟩ | ⟨v, hv, hdv, hx, hr⟩
  · refine ⟨?_, .inr ⟨i, hi, upd_same _ _ _, ?_, fun k hk => ?_⟩⟩
    · show (if S.word 1 = x0 then upd S.word 1 (nw x0 i) else S.word) 0 = 7
      rw [if_pos hx, upd_other _ _ (by decide)]; exact hw
    · show (if S.word 1 = x0 then upd S.word 1 (nw x0 i) else S.word) 1 = nw x0 i
      rw [if_pos hx, upd_same]
    · by_cases e : k = i
      · subst e
        rw [upd_same, upd_same, decide_eq_true hx, if_pos rfl]; rfl
      · rw [upd_other _ _ e, if_neg e]; exact hr k hk
  · have hne : ¬ S.word 1 = x0 := by rw [hx]; exact nw_ne h0 h1 (by omega)
    have hiv : i ≠ v := fun e => by subst e; rw [hd] at hdv; cases hdv
    refine ⟨?_, .inr ⟨v, hv, ?_, ?_, fun k hk => ?_⟩⟩
    · show (if S.word 1 = x0 then upd S.word 1 (nw x0 i) else S.word) 0 = 7
      rw [if_neg hne]; exact hw
    · rw [upd_other _ _ (fun e => hiv e.symm)]; exact hdv
    · show (if S.word 1 = x0 then upd S.word 1 (nw x0 i) else S.word) 1 = nw x0 v
      rw [if_neg hne]; exact hx
    · by_cases e : k = i
      · subst e
        rw [upd_same, upd_same, decide_eq_false hne, if_neg hiv]; rfl
      · rw [upd_other _ _ e]; exact hr k hk
/-- What a bench's steps may touch. -/
def Tc (A : Ad) (x : Nat) : Prop := ∃ i, i < A.n ∧ Mv A.L (A.T i) A.hb A.qb (A.pb i) A.B x
end Go.Proofs.YtdpebhdjcgiboaaGreat

namespace Go.Proofs.YtdpebhdjcgiboaaGreat
open Go.ChangeShapes Go.WideShapes Go.ChangeAt Go.RowKit Go.MuLone Go.RwLone
set_option linter.unusedVariables false
set_option maxRecDepth 100000
set_option maxHeartbeats 3200000
/-- The bench of swaps, whatever was played of it. -/
def Bn (w : World) (A : Ad) (x0 : Int) (dn : Nat → Bool) : Prop := ∃ S rg st ev en es ts, Fw w A x0 dn S rg st ev en es ts ∧ Won x0 dn A.n S rg
/-- What playing may touch. -/
structure Fm (A : Ad) (w w' : World) : Prop where
  k : Keeps (Tc A) w w'
  f : ∀ (k : Nat) (c : Array Value) (t : TypeId) (f : Nat × Nat), A.B ≤ k → w.heap[k]? = some (.cells c t f) → t ≠ 36 → t ≠ 31 → t ≠ 114 → w'.heap[k]? = w.heap[k]?
theorem Fm.refl (A : Ad) (w : World) : Fm A w w := ⟨Keeps.refl _ _, fun _ _ _ _ _ _ _ _ _ => rfl⟩
theorem Fm.trans {A : Ad} {a b c : World} (h : Fm A a b) (g : Fm A b c) : Fm A a c := ⟨h.k.trans g.k, fun k c t f hk hc h1 h2 h3 => (g.f k c t f hk ((h.f k c t f hk hc h1 h2 h3).trans hc) h1 h2 h3).trans (h.f k c t f hk hc h1 h2 h3)⟩
theorem Fm.still {A : Ad} {w w' : World} (k : Keeps (fun _ => False) w w') : Fm A w w' := ⟨k.mono (fun _ e => e.elim), fun g c t f hk hc _ _ _ => k.block g (Array.getElem?_eq_some_iff.1 hc).1 (fun e => e)⟩
theorem Fm.drew {A : Ad} {a w : World} (h : Fm A a w) : Fm A a w.drew := h.trans (Fm.still (Keeps.refl _ _).drew)
/-- A change that leaves all blocks below B, and the rows of events and threads. -/
theorem Bn.far {w w' : World} {A : Ad} {x0 : Int} {dn : Nat → Bool} (hA : Ly A) (h : Bn w A x0 dn) (k : Keeps (fun x => A.B ≤ x) w w') (oe : ∀ v xs, OwE w A.B v xs → OwE w' A.B v xs) (ot : ∀ v xs, OwT w A.B v xs → OwT w' A.B v xs) : Bn w' A x0 dn := by
  obtain ⟨S, rg, st, ev, en, es, ts, h, hW⟩ := h
  refine ⟨S, rg, st, ev, en, es, ts, ⟨h.hd.keeps k (fun g hg => by have := (hA.ap 0 hA.n4.1).lb g hg; omega), h.hr.keeps k (by have := (hA.ap 0 hA.n4.1).bh; omega) (by have := (hA.ap 0 hA.n4.1).bq; omega), fun i hi => (h.th i hi).keeps k (by have := (hA.ap i hi).bT; omega), fun i hi => (h.ins i hi).keeps k (by have := (hA.ap i hi).bi; omega), fun i hi hd => ?_, fun i hi hd j => ?_, oe _ _ h.oe, ot _ _ h.ot, Nat.le_trans h.bs k.size, h.s1, h.s2, h.s3, h.s4, h.s5, h.el, h.tl⟩, hW⟩
  · have lp : A.pb i < w.heap.size := Nat.lt_of_lt_of_le (hA.ap i hi).bp h.bs
    have nk : ¬ A.B ≤ A.pb i := by have := (hA.ap i hi).bp; omega
    obtain ⟨q0, q1, q2⟩ := h.pl i hi hd
    exact ⟨(k.cell (p := ⟨A.pb i, 0, none⟩) lp nk).trans q0, (k.cell (p := ⟨A.pb i, 1, none⟩) lp nk).trans q1, (k.cell (p := ⟨A.pb i, 2, none⟩) lp nk).trans q2⟩
  · have lp : A.pb i < w.heap.size := Nat.lt_of_lt_of_le (hA.ap i hi).bp h.bs
    have nk : ¬ A.B ≤ A.pb i := by have := (hA.ap i hi).bp; omega
    exact (k.frozen (p := ⟨A.pb i, j, none⟩) lp nk).trans (h.pf i hi hd j)
theorem Bn.still {w w' : World} {A : Ad} {x0 : Int} {dn : Nat → Bool} (hA : Ly A) (h : Bn w A x0 dn) (k : Keeps (fun _ => False) w w') : Bn w' A x0 dn :=
  h.far hA (k.mono (fun _ e => e.elim)) (fun v xs o => o.keeps k (fun _ e => e.elim)) (fun v xs o => o.keeps k (fun _ e => e.elim))
theorem Bn.size {w : World} {A : Ad} {x0 : Int} {dn : Nat → Bool} (h : Bn w A x0 dn) : A.B ≤ w.heap.size := by
  obtain ⟨S, rg, st, ev, en, es, ts, h, hW⟩ := h
  exact h.bs
theorem Bn.harness {w : World} {A : Ad} {x0 : Int} {dn : Nat → Bool} (h : Bn w A x0 dn) : ∃ st ev en, Hr w A.hb A.qb A.n A.pb (fun i => if dn i then 0 else 1) A.cp st ev en := by
  obtain ⟨S, rg, st, ev, en, es, ts, h, hW⟩ := h
  exact ⟨st, ev, en, h.hr⟩
/-- A play in its block g, with lf steps left. -/
structure Pl (w : World) (A : Ad) (x0 : Int) (g lf : Nat) (dn : Nat → Bool) : Prop where
  bn : Bn w A x0 dn
  gb : w.heap[g]? = some (.cells #[.pointer (some ⟨A.hb, 0, none⟩), .int .i64 (lf : Int)] 114)
  b : A.B ≤ g
  l : left dn A.n ≤ lf
  m : lf ≤ 1000000
theorem Pl.c0 {w : World} {A : Ad} {x0 : Int} {g lf : Nat} {dn : Nat → Bool} (h : Pl w A x0 g lf dn) : w.cell? ⟨g, 0, none⟩ = some (.pointer (some ⟨A.hb, 0, none⟩)) := (cell?_heap h.gb 0).trans rfl
theorem Pl.c1 {w : World} {A : Ad} {x0 : Int} {g lf : Nat} {dn : Nat → Bool} (h : Pl w A x0 g lf dn) : w.cell? ⟨g, 1, none⟩ = some (.int .i64 (lf : Int)) := (cell?_heap h.gb 1).trans rfl
theorem Pl.still {w w' : World} {A : Ad} {x0 : Int} {g lf : Nat} {dn : Nat → Bool} (hA : Ly A) (h : Pl w A x0 g lf dn) (k : Keeps (fun _ => False) w w') : Pl w' A x0 g lf dn :=
  ⟨h.bn.still hA k, (k.block g (Array.getElem?_eq_some_iff.1 h.gb).1 (fun e => e)).trans h.gb, h.b, h.l, h.m⟩
/-- A step is spent. -/
theorem Pl.spend {w : World} {A : Ad} {x0 : Int} {g lf : Nat} {dn : Nat → Bool} (hA : Ly A) (h : Pl w A x0 g lf dn) (x : Nat) : Bn (w.setCell ⟨g, 1, none⟩ (.int .i64 (x : Int))) A x0 dn ∧ (w.setCell ⟨g, 1, none⟩ (.int .i64 (x : Int))).heap[g]? = some (.cells #[.pointer (some ⟨A.hb, 0, none⟩), .int .i64 (x : Int)] 114) ∧ Fm A w (w.setCell ⟨g, 1, none⟩ (.int .i64 (x : Int))) := by
  have k : Keeps (fun y => A.B ≤ y) w (w.setCell ⟨g, 1, none⟩ (.int .i64 (x : Int))) := Keeps.setCell (B := fun y => A.B ≤ y) (Keeps.refl _ _) h.b _
  have kt : KpT 114 w (w.setCell ⟨g, 1, none⟩ (.int .i64 (x : Int))) := KpT.set h.gb _
  refine ⟨h.bn.far hA k (fun v xs o => OwG.kept o kt (by decide)) (fun v xs o => OwG.kept o kt (by decide)), ?_, ⟨k.mono (fun y e => ⟨0, hA.n4.1, .inr (.inr (.inr (.inr (.inr e))))⟩), fun y c t f hy hc _ _ h3 => kt y c t f hc h3⟩⟩
  have hg := h.gb
  simp [World.setCell, Array.getElem?_modify, hg]
end Go.Proofs.YtdpebhdjcgiboaaGreat

namespace Go.Proofs.YtdpebhdjcgiboaaGreat
open Go.ChangeShapes Go.WideShapes Go.ChangeAt Go.RowKit Go.MuLone Go.RwLone
set_option linter.unusedVariables false
set_option maxRecDepth 100000
set_option maxHeartbeats 3200000
end Go.Proofs.YtdpebhdjcgiboaaGreat

namespace Go.Proofs.YtdpebhdjcgiboaaGreat
open Go.ChangeShapes Go.WideShapes Go.ChangeAt Go.RowKit Go.MuLone Go.RwLone
set_option linter.unusedVariables false
set_option maxRecDepth 100000
set_option maxHeartbeats 3200000
/-- Some of a bench was played. -/
def Went (A : Ad) (x0 : Int) (g : Nat) (dn : Nat → Bool) (w w' : World) : Prop := ∃ dn' lf', Pl w' A x0 g lf' dn' ∧ Fm A w w' ∧ ∀ k, dn k = true → dn' k = true
theorem Went.refl {A : Ad} {x0 : Int} {g lf : Nat} {dn : Nat → Bool} {w : World} (h : Pl w A x0 g lf dn) : Went A x0 g dn w w := ⟨dn, lf, h, Fm.refl _ _, fun _ h => h⟩
end Go.Proofs.YtdpebhdjcgiboaaGreat

namespace Go.Proofs.YtdpebhdjcgiboaaGreat
open Go.ChangeShapes Go.WideShapes Go.ChangeAt Go.RowKit Go.MuLone Go.RwLone
set_option linter.unusedVariables false
set_option maxRecDepth 100000
set_option maxHeartbeats 3200000
end Go.Proofs.YtdpebhdjcgiboaaGreat

namespace Go.Proofs.YtdpebhdjcgiboaaGreat
open Go.ChangeShapes Go.WideShapes Go.ChangeAt Go.RowKit Go.MuLone Go.RwLone
set_option linter.unusedVariables false
set_option maxRecDepth 100000
set_option maxHeartbeats 3200000
/-- The world behind the box of a pick. -/
abbrev pkW (w : World) (k x n : Int) : World := w.alloc (.cells #[.int .i64 k, .int .i64 x, .int .i64 n] 110)
/-- What a pick leaves. -/
def Picked (A : Ad) (x0 : Int) (g : Nat) (dn : Nat → Bool) (k : Int) (w w' : World) : Prop := ∃ dn' lf', Pl w' A x0 g lf' dn' ∧ Fm A w w' ∧ (∀ i, dn i = true → dn' i = true) ∧ (k = 6 → ∀ i, i < A.n → dn' i = true)
end Go.Proofs.YtdpebhdjcgiboaaGreat

namespace Go.Proofs.YtdpebhdjcgiboaaGreat
open Go.ChangeShapes Go.WideShapes Go.ChangeAt Go.RowKit Go.MuLone Go.RwLone
set_option linter.unusedVariables false
set_option maxRecDepth 100000
set_option maxHeartbeats 3200000
/-- A row of picks in a block from B on. -/
def PkS (w : World) (A : Ad) (v : Value) (vs : List (Int × Int × Int)) : Prop :=
  ∃ ao cap, v = .slice ao vs.length cap ∧ vs.length ≤ 140737488355328 ∧ (∀ p ∈ vs, p.2.2 ≤ 9223372036854775807) ∧ ∀ i (hi : i < vs.length), ∃ b off c f, ao = some ⟨b, off, none⟩ ∧ A.B ≤ b ∧ w.heap[b]? = some (.cells c 110 f) ∧ c[off + i * 3]? = some (.int .i64 vs[i].1) ∧ c[off + i * 3 + 1]? = some (.int .i64 vs[i].2.1) ∧ c[off + i * 3 + 2]? = some (.int .i64 vs[i].2.2)
abbrev plW (w : World) (A : Ad) (bd : Nat) : World := w.alloc (.cells #[.pointer (some ⟨A.hb, 0, none⟩), .int .i64 (bd : Int)] 114)
end Go.Proofs.YtdpebhdjcgiboaaGreat

namespace Go.Proofs.YtdpebhdjcgiboaaGreat
open Go.ChangeShapes Go.WideShapes Go.ChangeAt Go.RowKit Go.MuLone Go.RwLone
set_option linter.unusedVariables false
set_option maxRecDepth 100000
set_option maxHeartbeats 3200000
end Go.Proofs.YtdpebhdjcgiboaaGreat
