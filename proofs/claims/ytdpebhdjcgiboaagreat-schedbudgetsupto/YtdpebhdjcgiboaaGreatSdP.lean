import Derived.Test.YtdpebhdjcgiboaaGreatSdH
namespace Go.Proofs.YtdpebhdjcgiboaaGreat
open Go.ChangeShapes Go.WideShapes Go.ChangeAt Go.RowKit Go.MuLone Go.RwLone
set_option linter.unusedVariables false
set_option maxRecDepth 100000
set_option maxHeartbeats 3200000
/-- Where a bench's things lie: blocks below B. -/
structure Ad where
  B : Nat
  L : Lay
  hb : Nat
  qb : Nat
  n : Nat
  pb : Nat → Nat
  T : Nat → Nat
  ib : Nat → Nat
  cp : Nat → Nat
  cap : Nat → Nat
structure Ly (A : Ad) : Prop where
  n4 : 1 ≤ A.n ∧ A.n ≤ 4
  ap : ∀ i, i < A.n → Ap A.L (A.T i) (A.ib i) A.hb A.qb (A.pb i) A.B
  TT : ∀ i k, i < A.n → k < A.n → i ≠ k → A.T i ≠ A.T k
  pp : ∀ i k, i < A.n → k < A.n → i ≠ k → A.pb i ≠ A.pb k
  Tp : ∀ i k, i < A.n → k < A.n → A.T i ≠ A.pb k
  ip : ∀ i k, i < A.n → k < A.n → A.ib i ≠ A.pb k
  iT : ∀ i k, i < A.n → k < A.n → A.ib i ≠ A.T k
  cp : ∀ i, i < A.n → 1 ≤ A.cp i ∧ A.cp i ≤ 9223372036854775807
/-- How many are not done. -/
def left (dn : Nat → Bool) (n : Nat) : Nat := (List.range n).countP (fun i => !dn i)
theorem left_succ (dn : Nat → Bool) (n : Nat) : left dn (n + 1) = left dn n + (if dn n then 0 else 1) := by
  unfold left
  rw [List.range_succ, List.countP_append]
  cases e : dn n <;> simp [e]
theorem left_same {dn dm : Nat → Bool} {n : Nat} (h : ∀ i, i < n → dn i = dm i) : left dn n = left dm n := by
  induction n with
  | zero => rfl
  | succ n ih => rw [left_succ, left_succ, ih (fun i hi => h i (by omega)), h n (by omega)]
theorem left_set {dn : Nat → Bool} {n i : Nat} (hi : i < n) (hd : dn i = false) : left (upd dn i true) n + 1 = left dn n := by
  induction n with
  | zero => omega
  | succ n ih =>
    rw [left_succ, left_succ]
    by_cases e : i = n
    · subst e
      rw [left_same (dn := upd dn i true) (dm := dn) (fun k hk => upd_other _ _ (by omega)), upd_same, hd]
      simp
    · rw [upd_other _ _ (show n ≠ i from fun h => e h.symm)]
      have := ih (by omega)
      omega
/-- The word that thread i swaps in. -/
def nw (x0 : Int) (i : Nat) : Int := (x0 + 1 + (i : Int)) % 18446744073709551616
theorem nw_ne {x0 : Int} {i : Nat} (h0 : 0 ≤ x0) (h1 : x0 < 18446744073709551616) (hi : i < 4) : ¬ nw x0 i = x0 := by unfold nw; omega
/-- The bench of swaps. -/
structure Fw (w : World) (A : Ad) (x0 : Int) (dn : Nat → Bool) (S : AS) (rg : Nat → Nat → Int) (st : Int) (ev en : Value) (es : List (Int × Int × Int × Int)) (ts : List Nat) : Prop where
  hd : Holds w A.L S
  hr : Hr w A.hb A.qb A.n A.pb (fun i => if dn i then 0 else 1) A.cp st ev en
  th : ∀ i, i < A.n → Th w (A.T i) A.L (A.ib i) 1 (A.cap i) (rg i) (if dn i then 1 else 0)
  ins : ∀ i, i < A.n → In8 w (A.ib i) 0 3 ((1 : Nat) : Int) ((2 : Nat) : Int) (-1) (nw x0 i) (-1) x0 0
  pl : ∀ i, i < A.n → dn i = false → w.cell? ⟨A.pb i, 0, none⟩ = some (.pointer (some ⟨A.T i, 0, none⟩)) ∧ w.cell? ⟨A.pb i, 1, none⟩ = some (.int .i64 (i : Int)) ∧ w.cell? ⟨A.pb i, 2, none⟩ = some (.bool false)
  pf : ∀ i, i < A.n → dn i = false → ∀ j, w.frozen? ⟨A.pb i, j, none⟩ = false
  oe : OwE w A.B ev es
  ot : OwT w A.B en ts
  bs : A.B ≤ w.heap.size
  s1 : S.rc = 0
  s2 : S.n = 1
  s3 : S.use 0 = true
  s4 : S.wd = 2
  s5 : S.g0 = 0
  el : es.length = 2 * ts.length
  tl : ts.length + left dn A.n = A.n
/-- Who won. -/
def Won (x0 : Int) (dn : Nat → Bool) (n : Nat) (S : AS) (rg : Nat → Nat → Int) : Prop :=
  S.word 0 = 7 ∧ (((∀ i, i < n → dn i = false) ∧ S.word 1 = x0 ∧ ∀ i, i < n → rg i 2 = 0) ∨ ∃ v, v < n ∧ dn v = true ∧ S.word 1 = nw x0 v ∧ ∀ i, i < n → rg i 2 = if i = v then 1 else 0)
theorem Won.step {x0 : Int} {dn : Nat → Bool} {n : Nat} {S : AS} {rg : Nat → Nat → Int} {i : Nat} {x : Int} (h0 : 0 ≤ x0) (h1 : x0 < 18446744073709551616) (hn : n ≤ 4) (h : Won x0 dn n S rg) (hi : i < n) (hd : dn i = false) :
    Won x0 (upd dn i true) n { S with rc := 0, acc := x, word := if S.word 1 = x0 then upd S.word 1 (nw x0 i) else S.word } (upd rg i (upd (rg i) 2 (bitI (decide (S.word 1 = x0))))) := by
  obtain ⟨hw, h⟩ := h
  rcases h with ⟨ha, hx, hr⟩ | ⟨v, hv, hdv, hx, hr⟩
  · refine ⟨?_, .inr ⟨i, hi, upd_same _ _ _, ?_, fun k hk => ?_⟩⟩
    · show (if S.word 1 = x0 then upd S.word 1 (nw x0 i) else S.word) 0 = 7
      rw [if_pos hx, upd_other _ _ (by decide)]; exact hw
    · show (if S.word 1 = x0 then upd S.word 1 (nw x0 i) else S.word) 1 = nw x0 i
      rw [if_pos hx, upd_same]
    · by_cases e : k = i
      · subst e
        rw [upd_same, upd_same, decide_eq_true hx, if_pos rfl]; rfl
      · rw [upd_other _ _ e, if_neg e]; exact hr k hk
  · have hne : ¬ S.word 1 = x0 := by rw [hx]; exact nw_ne h0 h1 (by omega)
    have hiv : i ≠ v := fun e => by subst e; rw [hd] at hdv; cases hdv
    refine ⟨?_, .inr ⟨v, hv, ?_, ?_, fun k hk => ?_⟩⟩
    · show (if S.word 1 = x0 then upd S.word 1 (nw x0 i) else S.word) 0 = 7
      rw [if_neg hne]; exact hw
    · rw [upd_other _ _ (fun e => hiv e.symm)]; exact hdv
    · show (if S.word 1 = x0 then upd S.word 1 (nw x0 i) else S.word) 1 = nw x0 v
      rw [if_neg hne]; exact hx
    · by_cases e : k = i
      · subst e
        rw [upd_same, upd_same, decide_eq_false hne, if_neg hiv]; rfl
      · rw [upd_other _ _ e]; exact hr k hk
/-- What a bench's steps may touch. -/
def Tc (A : Ad) (x : Nat) : Prop := ∃ i, i < A.n ∧ Mv A.L (A.T i) A.hb A.qb (A.pb i) A.B x
theorem fw_step (w : World) (A : Ad) (x0 : Int) (dn : Nat → Bool) (S : AS) (rg : Nat → Nat → Int) (st : Int) (ev en : Value) (es : List (Int × Int × Int × Int)) (ts : List Nat) (hA : Ly A) (h : Fw w A x0 dn S rg st ev en es ts) (h0 : 0 ≤ x0) (h1 : x0 < 18446744073709551616) (hW : Won x0 dn A.n S rg) (i : Nat) (hi : i < A.n) (hd : dn i = false) :
    Calls Tryz.prog 113 #[.pointer (some ⟨A.hb, 0, none⟩), .int .i64 (i : Int)] w fun e w' => e = .returned (.bool true) ∧ (∃ S' rg' st' ev' en' es' ts', Fw w' A x0 (upd dn i true) S' rg' st' ev' en' es' ts' ∧ Won x0 (upd dn i true) A.n S' rg') ∧ Keeps (Tc A) w w' ∧ ∀ (k : Nat) (c : Array Value) (t : TypeId) (f : Nat × Nat), A.B ≤ k → w.heap[k]? = some (.cells c t f) → t ≠ 36 → t ≠ 31 → w'.heap[k]? = w.heap[k]? := by
  have a := hA.ap i hi
  have hp := h.pl i hi hd
  have hth := h.th i hi
  rw [hd] at hth
  have hM : Md w w A.B A.L S A.hb A.qb A.n A.pb (fun i => if dn i then 0 else 1) A.cp st ev en i (A.T i) (A.ib i) 1 (A.cap i) (rg i) 0 (i : Int) false es ts :=
    ⟨Keeps.refl _ _, h.hd, h.hr, hth, hp.1, hp.2.1, hp.2.2, h.pf i hi hd, h.oe, h.ot, h.bs, fun _ _ _ _ _ _ _ _ => rfl⟩
  have hn4 := hA.n4
  have htl := h.tl
  have hel := h.el
  refine (hstep_swap w A.B A.L S A.hb A.qb A.n A.pb _ A.cp st ev en i (A.T i) (A.ib i) (A.cap i) (rg i) 1 2 (nw x0 i) x0 0 (i : Int) es ts (decide (S.word 1 = x0)) (if S.word 1 = x0 then upd S.word 1 (nw x0 i) else S.word) ⟨rfl, rfl⟩ a hM (h.ins i hi) hi (by simp [hd]) (hA.cp i hi) h.s1 h.s2 h.s3 (by rw [h.s4]; decide) (by decide) (by omega) (by omega)).mono ?_
  rintro e w' ⟨rfl, ev', en', k, hd', hr', th', oe', ot', bs', fr⟩
  refine ⟨rfl, ⟨_, upd rg i (upd (rg i) 2 (bitI (decide (S.word 1 = x0)))), wrap64 (st + 1), ev', en', _, _, ⟨hd', ?_, fun m hm => ?_, fun m hm => ?_, fun m hm hdm => ?_, fun m hm hdm j => ?_, oe', ot', bs', rfl, h.s2, h.s3, h.s4, h.s5, by simp; omega, ?_⟩, hW.step h0 h1 hn4.2 hi hd⟩, k.mono (fun x e => ⟨i, hi, e⟩), fr⟩
  · rw [show (fun k => if upd dn i true k = true then 0 else 1) = upd (fun k => if dn k = true then 0 else 1) i 0 from by
      funext k
      by_cases e : k = i
      · subst e; rw [upd_same, upd_same]; rfl
      · rw [upd_other _ _ e, upd_other _ _ e]]
    exact hr'
  · by_cases e : m = i
    · subst e
      rw [upd_same, upd_same]
      exact th'
    · rw [upd_other _ _ e, upd_other _ _ e]
      refine (h.th m hm).keeps k ?_
      have b := hA.ap m hm
      rintro (x | x | x | x | x | x)
      · exact b.lT x
      · exact hA.TT m i hm hi e x
      · exact b.Th x.symm
      · exact b.Tq x.symm
      · exact hA.Tp m i hm hi x
      · exact absurd b.bT (by omega)
  · refine (h.ins m hm).keeps k ?_
    have b := hA.ap m hm
    rintro (x | x | x | x | x | x)
    · exact b.li x
    · exact hA.iT m i hm hi x
    · exact b.ih x
    · exact b.iq x
    · exact hA.ip m i hm hi x
    · exact absurd b.bi (by omega)
  · have e : m ≠ i := fun e => by subst e; rw [upd_same] at hdm; cases hdm
    rw [upd_other _ _ e] at hdm
    have b := hA.ap m hm
    have nk : ¬ Mv A.L (A.T i) A.hb A.qb (A.pb i) A.B (A.pb m) := by
      rintro (x | x | x | x | x | x)
      · exact b.lp x
      · exact hA.Tp i m hi hm x.symm
      · exact b.hp x.symm
      · exact b.qp x.symm
      · exact hA.pp m i hm hi e x
      · exact absurd b.bp (by omega)
    have lp : A.pb m < w.heap.size := Nat.lt_of_lt_of_le b.bp h.bs
    obtain ⟨q0, q1, q2⟩ := h.pl m hm hdm
    exact ⟨(k.cell (p := ⟨A.pb m, 0, none⟩) lp nk).trans q0, (k.cell (p := ⟨A.pb m, 1, none⟩) lp nk).trans q1, (k.cell (p := ⟨A.pb m, 2, none⟩) lp nk).trans q2⟩
  · have e : m ≠ i := fun e => by subst e; rw [upd_same] at hdm; cases hdm
    rw [upd_other _ _ e] at hdm
    have b := hA.ap m hm
    have nk : ¬ Mv A.L (A.T i) A.hb A.qb (A.pb i) A.B (A.pb m) := by
      rintro (x | x | x | x | x | x)
      · exact b.lp x
      · exact hA.Tp i m hi hm x.symm
      · exact b.hp x.symm
      · exact b.qp x.symm
      · exact hA.pp m i hm hi e x
      · exact absurd b.bp (by omega)
    have lp : A.pb m < w.heap.size := Nat.lt_of_lt_of_le b.bp h.bs
    exact (k.frozen (p := ⟨A.pb m, j, none⟩) lp nk).trans (h.pf m hm hdm j)
  · have := left_set hi hd
    simp
    omega
end Go.Proofs.YtdpebhdjcgiboaaGreat

namespace Go.Proofs.YtdpebhdjcgiboaaGreat
open Go.ChangeShapes Go.WideShapes Go.ChangeAt Go.RowKit Go.MuLone Go.RwLone
set_option linter.unusedVariables false
set_option maxRecDepth 100000
set_option maxHeartbeats 3200000
/-- The bench of swaps, whatever was played of it. -/
def Bn (w : World) (A : Ad) (x0 : Int) (dn : Nat → Bool) : Prop := ∃ S rg st ev en es ts, Fw w A x0 dn S rg st ev en es ts ∧ Won x0 dn A.n S rg
/-- What playing may touch. -/
structure Fm (A : Ad) (w w' : World) : Prop where
  k : Keeps (Tc A) w w'
  f : ∀ (k : Nat) (c : Array Value) (t : TypeId) (f : Nat × Nat), A.B ≤ k → w.heap[k]? = some (.cells c t f) → t ≠ 36 → t ≠ 31 → t ≠ 114 → w'.heap[k]? = w.heap[k]?
theorem Fm.refl (A : Ad) (w : World) : Fm A w w := ⟨Keeps.refl _ _, fun _ _ _ _ _ _ _ _ _ => rfl⟩
theorem Fm.trans {A : Ad} {a b c : World} (h : Fm A a b) (g : Fm A b c) : Fm A a c := ⟨h.k.trans g.k, fun k c t f hk hc h1 h2 h3 => (g.f k c t f hk ((h.f k c t f hk hc h1 h2 h3).trans hc) h1 h2 h3).trans (h.f k c t f hk hc h1 h2 h3)⟩
theorem Fm.still {A : Ad} {w w' : World} (k : Keeps (fun _ => False) w w') : Fm A w w' := ⟨k.mono (fun _ e => e.elim), fun g c t f hk hc _ _ _ => k.block g (Array.getElem?_eq_some_iff.1 hc).1 (fun e => e)⟩
theorem Fm.drew {A : Ad} {a w : World} (h : Fm A a w) : Fm A a w.drew := h.trans (Fm.still (Keeps.refl _ _).drew)
/-- A change that leaves all blocks below B, and the rows of events and threads. -/
theorem Bn.far {w w' : World} {A : Ad} {x0 : Int} {dn : Nat → Bool} (hA : Ly A) (h : Bn w A x0 dn) (k : Keeps (fun x => A.B ≤ x) w w') (oe : ∀ v xs, OwE w A.B v xs → OwE w' A.B v xs) (ot : ∀ v xs, OwT w A.B v xs → OwT w' A.B v xs) : Bn w' A x0 dn := by
  obtain ⟨S, rg, st, ev, en, es, ts, h, hW⟩ := h
  refine ⟨S, rg, st, ev, en, es, ts, ⟨h.hd.keeps k (fun g hg => by have := (hA.ap 0 hA.n4.1).lb g hg; omega), h.hr.keeps k (by have := (hA.ap 0 hA.n4.1).bh; omega) (by have := (hA.ap 0 hA.n4.1).bq; omega), fun i hi => (h.th i hi).keeps k (by have := (hA.ap i hi).bT; omega), fun i hi => (h.ins i hi).keeps k (by have := (hA.ap i hi).bi; omega), fun i hi hd => ?_, fun i hi hd j => ?_, oe _ _ h.oe, ot _ _ h.ot, Nat.le_trans h.bs k.size, h.s1, h.s2, h.s3, h.s4, h.s5, h.el, h.tl⟩, hW⟩
  · have lp : A.pb i < w.heap.size := Nat.lt_of_lt_of_le (hA.ap i hi).bp h.bs
    have nk : ¬ A.B ≤ A.pb i := by have := (hA.ap i hi).bp; omega
    obtain ⟨q0, q1, q2⟩ := h.pl i hi hd
    exact ⟨(k.cell (p := ⟨A.pb i, 0, none⟩) lp nk).trans q0, (k.cell (p := ⟨A.pb i, 1, none⟩) lp nk).trans q1, (k.cell (p := ⟨A.pb i, 2, none⟩) lp nk).trans q2⟩
  · have lp : A.pb i < w.heap.size := Nat.lt_of_lt_of_le (hA.ap i hi).bp h.bs
    have nk : ¬ A.B ≤ A.pb i := by have := (hA.ap i hi).bp; omega
    exact (k.frozen (p := ⟨A.pb i, j, none⟩) lp nk).trans (h.pf i hi hd j)
theorem Bn.still {w w' : World} {A : Ad} {x0 : Int} {dn : Nat → Bool} (hA : Ly A) (h : Bn w A x0 dn) (k : Keeps (fun _ => False) w w') : Bn w' A x0 dn :=
  h.far hA (k.mono (fun _ e => e.elim)) (fun v xs o => o.keeps k (fun _ e => e.elim)) (fun v xs o => o.keeps k (fun _ e => e.elim))
theorem Bn.size {w : World} {A : Ad} {x0 : Int} {dn : Nat → Bool} (h : Bn w A x0 dn) : A.B ≤ w.heap.size := by
  obtain ⟨S, rg, st, ev, en, es, ts, h, hW⟩ := h
  exact h.bs
theorem Bn.harness {w : World} {A : Ad} {x0 : Int} {dn : Nat → Bool} (h : Bn w A x0 dn) : ∃ st ev en, Hr w A.hb A.qb A.n A.pb (fun i => if dn i then 0 else 1) A.cp st ev en := by
  obtain ⟨S, rg, st, ev, en, es, ts, h, hW⟩ := h
  exact ⟨st, ev, en, h.hr⟩
/-- A play in its block g, with lf steps left. -/
structure Pl (w : World) (A : Ad) (x0 : Int) (g lf : Nat) (dn : Nat → Bool) : Prop where
  bn : Bn w A x0 dn
  gb : w.heap[g]? = some (.cells #[.pointer (some ⟨A.hb, 0, none⟩), .int .i64 (lf : Int)] 114)
  b : A.B ≤ g
  l : left dn A.n ≤ lf
  m : lf ≤ 1000000
theorem Pl.c0 {w : World} {A : Ad} {x0 : Int} {g lf : Nat} {dn : Nat → Bool} (h : Pl w A x0 g lf dn) : w.cell? ⟨g, 0, none⟩ = some (.pointer (some ⟨A.hb, 0, none⟩)) := (cell?_heap h.gb 0).trans rfl
theorem Pl.c1 {w : World} {A : Ad} {x0 : Int} {g lf : Nat} {dn : Nat → Bool} (h : Pl w A x0 g lf dn) : w.cell? ⟨g, 1, none⟩ = some (.int .i64 (lf : Int)) := (cell?_heap h.gb 1).trans rfl
theorem Pl.still {w w' : World} {A : Ad} {x0 : Int} {g lf : Nat} {dn : Nat → Bool} (hA : Ly A) (h : Pl w A x0 g lf dn) (k : Keeps (fun _ => False) w w') : Pl w' A x0 g lf dn :=
  ⟨h.bn.still hA k, (k.block g (Array.getElem?_eq_some_iff.1 h.gb).1 (fun e => e)).trans h.gb, h.b, h.l, h.m⟩
/-- A step is spent. -/
theorem Pl.spend {w : World} {A : Ad} {x0 : Int} {g lf : Nat} {dn : Nat → Bool} (hA : Ly A) (h : Pl w A x0 g lf dn) (x : Nat) : Bn (w.setCell ⟨g, 1, none⟩ (.int .i64 (x : Int))) A x0 dn ∧ (w.setCell ⟨g, 1, none⟩ (.int .i64 (x : Int))).heap[g]? = some (.cells #[.pointer (some ⟨A.hb, 0, none⟩), .int .i64 (x : Int)] 114) ∧ Fm A w (w.setCell ⟨g, 1, none⟩ (.int .i64 (x : Int))) := by
  have k : Keeps (fun y => A.B ≤ y) w (w.setCell ⟨g, 1, none⟩ (.int .i64 (x : Int))) := Keeps.setCell (B := fun y => A.B ≤ y) (Keeps.refl _ _) h.b _
  have kt : KpT 114 w (w.setCell ⟨g, 1, none⟩ (.int .i64 (x : Int))) := KpT.set h.gb _
  refine ⟨h.bn.far hA k (fun v xs o => OwG.kept o kt (by decide)) (fun v xs o => OwG.kept o kt (by decide)), ?_, ⟨k.mono (fun y e => ⟨0, hA.n4.1, .inr (.inr (.inr (.inr (.inr e))))⟩), fun y c t f hy hc _ _ h3 => kt y c t f hc h3⟩⟩
  have hg := h.gb
  simp [World.setCell, Array.getElem?_modify, hg]
/-- The play behind a step of thread i. -/
theorem pl_step (w : World) (A : Ad) (x0 : Int) (g lf : Nat) (dn : Nat → Bool) (hA : Ly A) (h : Bn w A x0 dn) (hg : w.heap[g]? = some (.cells #[.pointer (some ⟨A.hb, 0, none⟩), .int .i64 (lf : Int)] 114)) (hb : A.B ≤ g) (hl : left dn A.n ≤ lf + 1) (hm : lf ≤ 1000000) (h0 : 0 ≤ x0) (h1 : x0 < 18446744073709551616) (i : Nat) (hi : i < A.n) (hd : dn i = false) :
    Calls Tryz.prog 113 #[.pointer (some ⟨A.hb, 0, none⟩), .int .i64 (i : Int)] w fun e w' => e = .returned (.bool true) ∧ Pl w' A x0 g lf (upd dn i true) ∧ Fm A w w' := by
  obtain ⟨S, rg, st, ev, en, es, ts, h, hW⟩ := h
  refine (fw_step w A x0 dn S rg st ev en es ts hA h h0 h1 hW i hi hd).mono ?_
  rintro e w' ⟨rfl, ⟨S', rg', st', ev', en', es', ts', h', hW'⟩, k, fr⟩
  have := left_set hi hd
  exact ⟨rfl, ⟨⟨S', rg', st', ev', en', es', ts', h', hW'⟩, (fr g _ _ _ hb hg (by decide) (by decide)).trans hg, hb, by omega, hm⟩, k, fun k c t f hk hc h1 h2 _ => fr k c t f hk hc h1 h2⟩
end Go.Proofs.YtdpebhdjcgiboaaGreat

namespace Go.Proofs.YtdpebhdjcgiboaaGreat
open Go.ChangeShapes Go.WideShapes Go.ChangeAt Go.RowKit Go.MuLone Go.RwLone
set_option linter.unusedVariables false
set_option maxRecDepth 100000
set_option maxHeartbeats 3200000
theorem spend_ok (w : World) (A : Ad) (x0 : Int) (g lf : Nat) (dn : Nat → Bool) (hA : Ly A) (h : Pl w A x0 g lf dn) (h1 : 1 ≤ lf) :
    Calls Tryz.prog 120 #[.pointer (some ⟨g, 0, none⟩)] w fun e w' => e = .returned (.bool true) ∧ Bn w' A x0 dn ∧ w'.heap[g]? = some (.cells #[.pointer (some ⟨A.hb, 0, none⟩), .int .i64 ((lf - 1 : Nat) : Int)] 114) ∧ Fm A w w' := by
  have HS : Hid _ := h.spend hA (lf - 1)
  have c1 := h.c1
  have z1 : w.frozen? ⟨g, 1, none⟩ = false := frozen?_heap h.gb 1
  have hm := h.m
  have hx : ¬ (lf : Int) = 0 := by omega
  have hw : IntKind.i64.wrap ((lf : Int) - 1) = ((lf - 1 : Nat) : Int) := by rw [IntKind.wrap_i64]; omega
  clear h
  go_enter Tryz.func120, Tryz.ntmps120
  go_wp2
  go_ret
  exact ⟨rfl, HS.out⟩
theorem run_in (w : World) (A : Ad) (x0 : Int) (g lf : Nat) (dn : Nat → Bool) (hA : Ly A) (h : Pl w A x0 g lf dn) (h0 : 0 ≤ x0) (h1 : x0 < 18446744073709551616) (i : Nat) (hi : i < A.n) (nn : Int) (hn : nn ≤ 9223372036854775807) :
    Calls Tryz.prog 82 #[.pointer (some ⟨g, 0, none⟩), .int .i64 (i : Int), .int .i64 nn] w fun e w' => e = .returned (.bool true) ∧ ∃ dn' lf', Pl w' A x0 g lf' dn' ∧ Fm A w w' ∧ (∀ k, dn k = true → dn' k = true) ∧ (0 < nn → dn' i = true) := by
  have HA : Hid (Ly A) := hA
  have HP : Hid (Pl w A x0 g lf dn) := h
  clear h hA
  go_enter Tryz.func82, Tryz.ntmps82
  go_wp2_with fail
  go_loopw [2] (fun c wr => ∃ (y : Int) (dn' : Nat → Bool) (lf' : Nat), c = .int .i64 y ∧ y ≤ nn ∧ Pl wr A x0 g lf' dn' ∧ Fm A w wr ∧ (∀ k, dn k = true → dn' k = true) ∧ (y = nn ∨ dn' i = true)) (fun c _ => (intOf c).toNat)
  case atStart => exact ⟨nn, dn, lf, rfl, Int.le_refl _, HP.out, Fm.refl _ _, fun _ h => h, .inl rfl⟩
  case round =>
    obtain ⟨y, dn', lf', rfl, hy, hpl, hfm, hmo, hor⟩ := hrel
    have HR : Hid (Pl wr A x0 g lf' dn' ∧ Fm A w wr ∧ (∀ k, dn k = true → dn' k = true) ∧ (y = nn ∨ dn' i = true)) := ⟨hpl, hfm, hmo, hor⟩
    have c0 := hpl.c0
    clear hpl hfm hmo hor HP
    by_cases hy0 : 0 < y
    · obtain ⟨st, ev, en, hh⟩ := HR.out.1.bn.harness
      have HH : Hid (Hr wr A.hb A.qb A.n A.pb (fun i => if dn' i then 0 else 1) A.cp st ev en) := hh
      clear hh
      go_wp2_with fail
      refine (pend_in wr A.hb A.qb A.n A.pb _ A.cp st ev en i hi HH.out).mono ?_
      rintro e w1 ⟨rfl, rfl⟩
      clear HH
      by_cases hd : dn' i = true
      · simp only [hd, if_true]
        go_wp2
        go_ret
        exact ⟨rfl, dn', lf', HR.out.1, HR.out.2.1, HR.out.2.2.1, fun _ => hd⟩
      · have hd' : dn' i = false := by simpa using hd
        simp only [hd', Bool.false_eq_true, if_false]
        have hls := left_set hi hd'
        have hll := HR.out.1.l
        have hlm := HR.out.1.m
        go_wp2_with fail
        refine (spend_ok w1 A x0 g lf' dn' HA.out HR.out.1 (by omega)).mono ?_
        rintro e w2 ⟨rfl, b2, g2, f2⟩
        have H2 : Hid (Bn w2 A x0 dn' ∧ w2.heap[g]? = some (.cells #[.pointer (some ⟨A.hb, 0, none⟩), .int .i64 ((lf' - 1 : Nat) : Int)] 114) ∧ Fm A w w2) := ⟨b2, g2, HR.out.2.1.trans f2⟩
        have c2 : w2.cell? ⟨g, 0, none⟩ = some (.pointer (some ⟨A.hb, 0, none⟩)) := (cell?_heap g2 0).trans rfl
        clear b2 g2 f2
        go_wp2_with fail
        refine (pl_step w2 A x0 g (lf' - 1) dn' HA.out H2.out.1 H2.out.2.1 HR.out.1.b (by omega) (by omega) h0 h1 i hi hd').mono ?_
        rintro e w3 ⟨rfl, p3, f3⟩
        have H3 : Hid (Pl w3 A x0 g (lf' - 1) (upd dn' i true) ∧ Fm A w w3) := ⟨p3, H2.out.2.2.trans f3⟩
        clear p3 f3 H2 c2
        go_wp2
        go_roundw
        case rel =>
          refine ⟨y - 1, upd dn' i true, lf' - 1, by go_num, by omega, H3.out.1, H3.out.2, fun k hk => ?_, .inr (upd_same _ _ _)⟩
          by_cases e : k = i
          · subst e; exact upd_same _ _ _
          · rw [upd_other _ _ e]; exact HR.out.2.2.1 k hk
        case measure => simp [intOf]; omega
    · go_wp2
      go_ret
      exact ⟨rfl, dn', ⟨lf', HR.out.1⟩, HR.out.2.1, HR.out.2.2.1, fun hp => HR.out.2.2.2.elim (fun e => by omega) (fun e => e)⟩
end Go.Proofs.YtdpebhdjcgiboaaGreat

namespace Go.Proofs.YtdpebhdjcgiboaaGreat
open Go.ChangeShapes Go.WideShapes Go.ChangeAt Go.RowKit Go.MuLone Go.RwLone
set_option linter.unusedVariables false
set_option maxRecDepth 100000
set_option maxHeartbeats 3200000
/-- Some of a bench was played. -/
def Went (A : Ad) (x0 : Int) (g : Nat) (dn : Nat → Bool) (w w' : World) : Prop := ∃ dn' lf', Pl w' A x0 g lf' dn' ∧ Fm A w w' ∧ ∀ k, dn k = true → dn' k = true
theorem Went.refl {A : Ad} {x0 : Int} {g lf : Nat} {dn : Nat → Bool} {w : World} (h : Pl w A x0 g lf dn) : Went A x0 g dn w w := ⟨dn, lf, h, Fm.refl _ _, fun _ h => h⟩
theorem run_out (w : World) (A : Ad) (x0 : Int) (g lf : Nat) (dn : Nat → Bool) (h : Pl w A x0 g lf dn) (x nn : Int) (hx : ¬ (0 ≤ x ∧ x < (A.n : Int))) :
    Calls Tryz.prog 82 #[.pointer (some ⟨g, 0, none⟩), .int .i64 x, .int .i64 nn] w fun e w' => e = .returned (.bool true) ∧ w' = w := by
  have HX : Hid (¬ (0 ≤ x ∧ x < (A.n : Int))) := hx
  have c0 := h.c0
  obtain ⟨st, ev, en, hh⟩ := h.bn.harness
  have HH : Hid (Hr w A.hb A.qb A.n A.pb (fun i => if dn i then 0 else 1) A.cp st ev en) := hh
  clear h hh hx
  go_enter Tryz.func82, Tryz.ntmps82
  go_wp2_with fail
  go_loopw [2] (fun c wr => wr = w ∧ ∃ y : Int, c = .int .i64 y) (fun c _ => 0)
  case atStart => exact ⟨rfl, nn, rfl⟩
  case round =>
    obtain ⟨rfl, y, rfl⟩ := hrel
    by_cases hy0 : 0 < y
    · go_wp2_with fail
      refine (pend_out wr A.hb A.qb A.n A.pb _ A.cp st ev en x HX.out HH.out).mono ?_
      rintro e w1 ⟨rfl, rfl⟩
      go_wp2
      go_ret
      exact ⟨rfl, rfl⟩
    · go_wp2
      go_ret
      exact ⟨rfl, rfl⟩
theorem run_any (w : World) (A : Ad) (x0 : Int) (g lf : Nat) (dn : Nat → Bool) (hA : Ly A) (h : Pl w A x0 g lf dn) (h0 : 0 ≤ x0) (h1 : x0 < 18446744073709551616) (x nn : Int) (hn : nn ≤ 9223372036854775807) :
    Calls Tryz.prog 82 #[.pointer (some ⟨g, 0, none⟩), .int .i64 x, .int .i64 nn] w fun e w' => e = .returned (.bool true) ∧ Went A x0 g dn w w' := by
  by_cases hx : 0 ≤ x ∧ x < (A.n : Int)
  · obtain ⟨i, rfl⟩ := Int.eq_ofNat_of_zero_le hx.1
    refine (run_in w A x0 g lf dn hA h h0 h1 i (by have := hx.2; omega) nn hn).mono ?_
    rintro e w' ⟨rfl, dn', lf', a, b, c, _⟩
    exact ⟨rfl, dn', lf', a, b, c⟩
  · refine (run_out w A x0 g lf dn h x nn hx).mono ?_
    rintro e w' ⟨rfl, rfl⟩
    exact ⟨rfl, Went.refl h⟩
theorem finish_any (w : World) (A : Ad) (x0 : Int) (g lf : Nat) (dn : Nat → Bool) (hA : Ly A) (h : Pl w A x0 g lf dn) (h0 : 0 ≤ x0) (h1 : x0 < 18446744073709551616) (x : Int) :
    Calls Tryz.prog 83 #[.pointer (some ⟨g, 0, none⟩), .int .i64 x] w fun e w' => e = .returned (.bool true) ∧ Went A x0 g dn w w' := by
  have c0 := h.c0
  obtain ⟨st, ev, en, hh⟩ := h.bn.harness
  have HH : Hid (Hr w A.hb A.qb A.n A.pb (fun i => if dn i then 0 else 1) A.cp st ev en) := hh
  have HA : Hid (Ly A) := hA
  have HP : Hid (Pl w A x0 g lf dn) := h
  clear h hh hA
  by_cases hx : 0 ≤ x ∧ x < (A.n : Int)
  · obtain ⟨i, rfl⟩ := Int.eq_ofNat_of_zero_le hx.1
    have hi : i < A.n := by have := hx.2; omega
    clear hx
    by_cases hd : dn i = true
    · go_enter Tryz.func83, Tryz.ntmps83
      go_wp2_with fail
      refine (pend_in w A.hb A.qb A.n A.pb _ A.cp st ev en i hi HH.out).mono ?_
      rintro e w1 ⟨rfl, rfl⟩
      simp only [hd, if_true]
      go_wp2
      go_ret
      exact ⟨rfl, Went.refl HP.out⟩
    · have hd' : dn i = false := by simpa using hd
      have hls := left_set hi hd'
      have hll := HP.out.l
      have hlm := HP.out.m
      go_enter Tryz.func83, Tryz.ntmps83
      go_wp2_with fail
      refine (pend_in w A.hb A.qb A.n A.pb _ A.cp st ev en i hi HH.out).mono ?_
      rintro e w1 ⟨rfl, rfl⟩
      simp only [hd', Bool.false_eq_true, if_false]
      go_wp2_with fail
      go_loopw [] (fun wr => wr = w1) (fun _ => 0)
      case atStart => rfl
      case round =>
        subst hrel
        go_wp2_with fail
        refine (spend_ok wr A x0 g lf dn HA.out HP.out (by omega)).mono ?_
        rintro e w2 ⟨rfl, b2, g2, f2⟩
        have H2 : Hid (Bn w2 A x0 dn ∧ w2.heap[g]? = some (.cells #[.pointer (some ⟨A.hb, 0, none⟩), .int .i64 ((lf - 1 : Nat) : Int)] 114) ∧ Fm A wr w2) := ⟨b2, g2, f2⟩
        have c2 : w2.cell? ⟨g, 0, none⟩ = some (.pointer (some ⟨A.hb, 0, none⟩)) := (cell?_heap g2 0).trans rfl
        clear b2 g2 f2
        go_wp2_with fail
        refine (pl_step w2 A x0 g (lf - 1) dn HA.out H2.out.1 H2.out.2.1 HP.out.b (by omega) (by omega) h0 h1 i hi hd').mono ?_
        rintro e w3 ⟨rfl, p3, f3⟩
        have H3 : Hid (Went A x0 g dn wr w3) := ⟨upd dn i true, lf - 1, p3, H2.out.2.2.trans f3, fun k hk => by
          by_cases e : k = i
          · subst e; exact upd_same _ _ _
          · rw [upd_other _ _ e]; exact hk⟩
        clear p3 f3 H2 c2
        go_wp2
        go_ret
        exact ⟨rfl, H3.out⟩
  · go_enter Tryz.func83, Tryz.ntmps83
    go_wp2_with fail
    refine (pend_out w A.hb A.qb A.n A.pb _ A.cp st ev en x hx HH.out).mono ?_
    rintro e w1 ⟨rfl, rfl⟩
    go_wp2
    go_ret
    exact ⟨rfl, Went.refl HP.out⟩
theorem idle_any (w : World) (A : Ad) (hn4 : A.n ≤ 4) (dn : Nat → Bool) (st : Int) (ev en : Value) (h : Hr w A.hb A.qb A.n A.pb (fun i => if dn i then 0 else 1) A.cp st ev en) :
    Calls Tryz.prog 16 #[.pointer (some ⟨A.hb, 0, none⟩)] w fun e w' => w' = w ∧ ∃ b, e = .returned (.bool b) ∧ (b = true → ∀ i, i < A.n → dn i = true) := by
  have HH : Hid (Hr w A.hb A.qb A.n A.pb (fun i => if dn i then 0 else 1) A.cp st ev en) := h
  have cq := h.q
  clear h
  go_enter Tryz.func16, Tryz.ntmps16
  go_wp2_with fail
  go_loopw [12] (fun c wr => wr = w ∧ ∃ t : Nat, c = .int .i64 t ∧ t ≤ A.n ∧ ∀ k, k < t → dn k = true) (fun c _ => A.n - (intOf c).toNat)
  case atStart => exact ⟨rfl, 0, rfl, by omega, fun k hk => by omega⟩
  case round =>
    obtain ⟨rfl, t, rfl, ht, hall⟩ := hrel
    have HD : Hid (∀ k, k < t → dn k = true) := hall
    clear hall cq
    by_cases h4 : t < A.n
    · have cr := HH.out.r t h4
      have t0 : (0 : Int) ≤ (t : Int) := Int.natCast_nonneg _
      have t1 : (t : Int) < (A.n : Int) := by omega
      by_cases hd : dn t = true
      · simp only [hd, if_true] at cr
        go_wp2
        go_roundw
        case rel =>
          refine ⟨trivial, t + 1, by go_num, by omega, fun k hk => ?_⟩
          by_cases e : k = t
          · subst e; exact hd
          · exact HD.out k (by omega)
        case measure => simp [intOf]; omega
      · have hd' : dn t = false := by simpa using hd
        simp only [hd', Bool.false_eq_true, if_false] at cr
        go_wp2
        go_ret
        exact ⟨rfl, false, rfl, fun h => by cases h⟩
    · go_wp2
      go_ret
      exact ⟨rfl, true, rfl, fun _ i hi => HD.out i (by omega)⟩
end Go.Proofs.YtdpebhdjcgiboaaGreat

namespace Go.Proofs.YtdpebhdjcgiboaaGreat
open Go.ChangeShapes Go.WideShapes Go.ChangeAt Go.RowKit Go.MuLone Go.RwLone
set_option linter.unusedVariables false
set_option maxRecDepth 100000
set_option maxHeartbeats 3200000
theorem rounds_any (w : World) (A : Ad) (x0 : Int) (g lf : Nat) (dn : Nat → Bool) (hA : Ly A) (h : Pl w A x0 g lf dn) (h0 : 0 ≤ x0) (h1 : x0 < 18446744073709551616) (nn : Int) (hn : nn ≤ 9223372036854775807) :
    Calls Tryz.prog 84 #[.pointer (some ⟨g, 0, none⟩), .int .i64 nn] w fun e w' => e = .returned (.bool true) ∧ ∃ dn' lf', Pl w' A x0 g lf' dn' ∧ Fm A w w' ∧ (∀ k, dn k = true → dn' k = true) ∧ (0 < nn → ∀ i, i < A.n → dn' i = true) := by
  have HA : Hid (Ly A) := hA
  have hn4 := hA.n4.2
  have HP : Hid (Pl w A x0 g lf dn) := h
  clear h hA
  go_enter Tryz.func84, Tryz.ntmps84
  go_wp2_with fail
  go_loopw [1] (fun c wr => ∃ (y : Int) (dn' : Nat → Bool) (lf' : Nat), c = .int .i64 y ∧ y ≤ nn ∧ Pl wr A x0 g lf' dn' ∧ Fm A w wr ∧ (∀ k, dn k = true → dn' k = true) ∧ (y = nn ∨ ∀ i, i < A.n → dn' i = true)) (fun c _ => (intOf c).toNat)
  case atStart => exact ⟨nn, dn, lf, rfl, Int.le_refl _, HP.out, Fm.refl _ _, fun _ h => h, .inl rfl⟩
  case round =>
    obtain ⟨y, dn', lf', rfl, hy, hpl, hfm, hmo, hor⟩ := hrel
    have HR : Hid (Pl wr A x0 g lf' dn' ∧ Fm A w wr ∧ (∀ k, dn k = true → dn' k = true) ∧ (y = nn ∨ ∀ i, i < A.n → dn' i = true)) := ⟨hpl, hfm, hmo, hor⟩
    have c0 := hpl.c0
    clear hpl hfm hmo hor HP
    by_cases hy0 : 0 < y
    · obtain ⟨st, ev, en, hh⟩ := HR.out.1.bn.harness
      have HH : Hid (Hr wr A.hb A.qb A.n A.pb (fun i => if dn' i then 0 else 1) A.cp st ev en) := hh
      have cq := hh.q
      clear hh
      go_wp2_with fail
      refine (idle_any wr A hn4 dn' st ev en HH.out).mono ?_
      rintro e w1 ⟨rfl, b, rfl, hb⟩
      have HB : Hid (b = true → ∀ i, i < A.n → dn' i = true) := hb
      clear HH hb
      cases b with
      | true =>
        go_wp2
        go_ret
        exact ⟨rfl, dn', lf', HR.out.1, HR.out.2.1, HR.out.2.2.1, fun _ => HB.out trivial⟩
      | false =>
        clear HB
        go_wp2_with fail
        go_loopw [26] (fun c wq => ∃ (t : Nat) (d2 : Nat → Bool) (l2 : Nat), c = .int .i64 t ∧ t ≤ A.n ∧ Pl wq A x0 g l2 d2 ∧ Fm A w wq ∧ (∀ k, dn k = true → d2 k = true) ∧ ∀ k, k < t → d2 k = true) (fun c _ => A.n - (intOf c).toNat)
        case atStart => exact ⟨0, dn', lf', rfl, by omega, HR.out.1, HR.out.2.1, HR.out.2.2.1, fun k hk => by omega⟩
        case round =>
          obtain ⟨t, d2, l2, rfl, ht, hpl, hfm, hmo, hall⟩ := hrel
          have HQ : Hid (Pl wr A x0 g l2 d2 ∧ Fm A w wr ∧ (∀ k, dn k = true → d2 k = true) ∧ ∀ k, k < t → d2 k = true) := ⟨hpl, hfm, hmo, hall⟩
          clear hpl hfm hmo hall HR c0 cq
          by_cases h4 : t < A.n
          · have t1 : (t : Int) < (A.n : Int) := by omega
            go_wp2_with fail
            refine (run_in wr A x0 g l2 d2 HA.out HQ.out.1 h0 h1 t h4 1 (by omega)).mono ?_
            rintro e w3 ⟨rfl, d3, l3, p3, f3, m3, r3⟩
            have H3 : Hid (Pl w3 A x0 g l3 d3 ∧ Fm A w w3 ∧ (∀ k, dn k = true → d3 k = true) ∧ ∀ k, k < t + 1 → d3 k = true) := ⟨p3, HQ.out.2.1.trans f3, fun k hk => m3 k (HQ.out.2.2.1 k hk), fun k hk => by
              by_cases e : k = t
              · subst e; exact r3 (by decide)
              · exact m3 k (HQ.out.2.2.2 k (by omega))⟩
            clear p3 f3 m3 r3 HQ
            go_wp2
            go_roundw
            case rel => exact ⟨t + 1, d3, l3, by go_num, by omega, H3.out.1, H3.out.2.1, H3.out.2.2.1, H3.out.2.2.2⟩
            case measure => simp [intOf]; omega
          · go_wp2
            go_roundw
            case rel => exact ⟨y - 1, d2, l2, by go_num, by omega, HQ.out.1, HQ.out.2.1, HQ.out.2.2.1, .inr (fun i hi => HQ.out.2.2.2 i (by omega))⟩
            case measure => simp [intOf]; omega
    · go_wp2
      go_ret
      exact ⟨rfl, dn', ⟨lf', HR.out.1⟩, HR.out.2.1, HR.out.2.2.1, fun hp => HR.out.2.2.2.elim (fun e => by omega) (fun e => e)⟩
end Go.Proofs.YtdpebhdjcgiboaaGreat

namespace Go.Proofs.YtdpebhdjcgiboaaGreat
open Go.ChangeShapes Go.WideShapes Go.ChangeAt Go.RowKit Go.MuLone Go.RwLone
set_option linter.unusedVariables false
set_option maxRecDepth 100000
set_option maxHeartbeats 3200000
/-- The world behind the box of a pick. -/
abbrev pkW (w : World) (k x n : Int) : World := w.alloc (.cells #[.int .i64 k, .int .i64 x, .int .i64 n] 110)
/-- What a pick leaves. -/
def Picked (A : Ad) (x0 : Int) (g : Nat) (dn : Nat → Bool) (k : Int) (w w' : World) : Prop := ∃ dn' lf', Pl w' A x0 g lf' dn' ∧ Fm A w w' ∧ (∀ i, dn i = true → dn' i = true) ∧ (k = 6 → ∀ i, i < A.n → dn' i = true)
theorem Went.picked {A : Ad} {x0 : Int} {g : Nat} {dn : Nat → Bool} {w w1 w' : World} {k : Int} (h : Went A x0 g dn w1 w') (f : Fm A w w1) (hk : k ≠ 6) : Picked A x0 g dn k w w' := by
  obtain ⟨d, l, p, f2, m⟩ := h
  exact ⟨d, l, p, f.trans f2, m, fun e => absurd e hk⟩
theorem pick_any (w : World) (A : Ad) (x0 : Int) (g lf : Nat) (dn : Nat → Bool) (hA : Ly A) (h : Pl w A x0 g lf dn) (h0 : 0 ≤ x0) (h1 : x0 < 18446744073709551616) (k x nn : Int) (hn : nn ≤ 9223372036854775807) :
    Calls Tryz.prog 41 #[.pointer (some ⟨g, 0, none⟩), .agg #[.int .i64 k, .int .i64 x, .int .i64 nn]] w fun e w' => e = .returned (.bool true) ∧ Picked A x0 g dn k w w' := by
  have HP : Hid (Pl (pkW w k x nn) A x0 g lf dn ∧ Fm A w (pkW w k x nn)) := ⟨h.still hA ((Keeps.refl _ _).alloc _), Fm.still ((Keeps.refl _ _).alloc _)⟩
  have HA : Hid (Ly A) := hA
  clear h hA
  by_cases k1 : k = 1
  · subst k1
    go_enter Tryz.func41, Tryz.ntmps41
    go_wp2_with fail
    refine (run_any _ A x0 g lf dn HA.out HP.out.1 h0 h1 x 1 (by omega)).mono ?_
    rintro e w1 ⟨rfl, hw⟩
    have HW : Hid (Picked A x0 g dn 1 w w1) := hw.picked HP.out.2 (by decide)
    clear hw HP
    go_wp2
    go_ret
    exact ⟨rfl, HW.out⟩
  by_cases k2 : k = 2
  · subst k2
    go_enter Tryz.func41, Tryz.ntmps41
    go_wp2_with fail
    refine (run_any _ A x0 g lf dn HA.out HP.out.1 h0 h1 x nn hn).mono ?_
    rintro e w1 ⟨rfl, hw⟩
    have HW : Hid (Picked A x0 g dn 2 w w1) := hw.picked HP.out.2 (by decide)
    clear hw HP
    go_wp2
    go_ret
    exact ⟨rfl, HW.out⟩
  by_cases k5 : k = 5
  · subst k5
    go_enter Tryz.func41, Tryz.ntmps41
    go_wp2_with fail
    refine (finish_any _ A x0 g lf dn HA.out HP.out.1 h0 h1 x).mono ?_
    rintro e w1 ⟨rfl, hw⟩
    have HW : Hid (Picked A x0 g dn 5 w w1) := hw.picked HP.out.2 (by decide)
    clear hw HP
    go_wp2
    go_ret
    exact ⟨rfl, HW.out⟩
  by_cases k4 : k = 4
  · subst k4
    go_enter Tryz.func41, Tryz.ntmps41
    go_wp2_with fail
    refine (rounds_any _ A x0 g lf dn HA.out HP.out.1 h0 h1 nn hn).mono ?_
    rintro e w1 ⟨rfl, d, l, p, f, m, a⟩
    have HW : Hid (Picked A x0 g dn 4 w w1) := ⟨d, l, p, HP.out.2.trans f, m, fun e => absurd e (by decide)⟩
    clear p f m a HP
    go_wp2
    go_ret
    exact ⟨rfl, HW.out⟩
  by_cases k6 : k = 6
  · subst k6
    go_enter Tryz.func41, Tryz.ntmps41
    go_wp2_with fail
    refine (rounds_any _ A x0 g lf dn HA.out HP.out.1 h0 h1 9223372036854775807 (by decide)).mono ?_
    rintro e w1 ⟨rfl, d, l, p, f, m, a⟩
    have HW : Hid (Picked A x0 g dn 6 w w1) := ⟨d, l, p, HP.out.2.trans f, m, fun _ => a (by decide)⟩
    clear p f m a HP
    go_wp2
    go_ret
    exact ⟨rfl, HW.out⟩
  go_enter Tryz.func41, Tryz.ntmps41
  go_wp2
  go_ret
  exact ⟨rfl, dn, lf, HP.out.1, HP.out.2, fun _ h => h, fun e => absurd e k6⟩
end Go.Proofs.YtdpebhdjcgiboaaGreat

namespace Go.Proofs.YtdpebhdjcgiboaaGreat
open Go.ChangeShapes Go.WideShapes Go.ChangeAt Go.RowKit Go.MuLone Go.RwLone
set_option linter.unusedVariables false
set_option maxRecDepth 100000
set_option maxHeartbeats 3200000
/-- A row of picks in a block from B on. -/
def PkS (w : World) (A : Ad) (v : Value) (vs : List (Int × Int × Int)) : Prop :=
  ∃ ao cap, v = .slice ao vs.length cap ∧ vs.length ≤ 140737488355328 ∧ (∀ p ∈ vs, p.2.2 ≤ 9223372036854775807) ∧ ∀ i (hi : i < vs.length), ∃ b off c f, ao = some ⟨b, off, none⟩ ∧ A.B ≤ b ∧ w.heap[b]? = some (.cells c 110 f) ∧ c[off + i * 3]? = some (.int .i64 vs[i].1) ∧ c[off + i * 3 + 1]? = some (.int .i64 vs[i].2.1) ∧ c[off + i * 3 + 2]? = some (.int .i64 vs[i].2.2)
theorem PkS.fm {w w' : World} {A : Ad} {v : Value} {vs : List (Int × Int × Int)} (h : PkS w A v vs) (k : Fm A w w') : PkS w' A v vs := by
  obtain ⟨ao, cap, e, h1, h2, h3⟩ := h
  refine ⟨ao, cap, e, h1, h2, fun i hi => ?_⟩
  obtain ⟨b, off, c, f, e1, e2, e3, e4⟩ := h3 i hi
  exact ⟨b, off, c, f, e1, e2, (k.f b c _ f e2 e3 (by decide) (by decide) (by decide)).trans e3, e4⟩
theorem cell?_heapF {w : World} {k : Nat} {c : Array Value} {t : TypeId} {f : Nat × Nat} (h : w.heap[k]? = some (.cells c t f)) (j : Nat) : w.cell? ⟨k, j, none⟩ = c[j]? := by simp [World.cell?, h]
abbrev plW (w : World) (A : Ad) (bd : Nat) : World := w.alloc (.cells #[.pointer (some ⟨A.hb, 0, none⟩), .int .i64 (bd : Int)] 114)
theorem play_any (w : World) (A : Ad) (x0 : Int) (dn : Nat → Bool) (hA : Ly A) (h : Bn w A x0 dn) (h0 : 0 ≤ x0) (h1 : x0 < 18446744073709551616) (bd : Nat) (hl : left dn A.n ≤ bd) (hm : bd ≤ 1000000) (v : Value) (vs : List (Int × Int × Int)) (hv : PkS w A v vs) :
    Calls Tryz.prog 11 #[.pointer (some ⟨A.hb, 0, none⟩), .int .i64 (bd : Int), v] w fun e w' => ∃ r dn', e = .returned (.tuple #[.int .i64 r, .int .i64 0]) ∧ Bn w' A x0 dn' ∧ Fm A w w' ∧ (∀ i, dn i = true → dn' i = true) ∧ ((∃ p ∈ vs, p.1 = 6) → ∀ i, i < A.n → dn' i = true) := by
  have HP : Hid (Pl (plW w A bd) A x0 w.heap.size bd dn ∧ Fm A w (plW w A bd)) := ⟨⟨h.still hA ((Keeps.refl _ _).alloc _), heap_alloc_last _ _ _ rfl, h.size, hl, hm⟩, Fm.still ((Keeps.refl _ _).alloc _)⟩
  have HA : Hid (Ly A) := hA
  have HV : Hid (PkS w A v vs) := hv
  obtain ⟨ao, cap, rfl, hlen, hnn, -⟩ := hv
  have HN : Hid (∀ p ∈ vs, p.2.2 ≤ 9223372036854775807) := hnn
  have hb0 : ¬ (bd : Int) < 0 := by omega
  clear h hA hnn
  go_enter Tryz.func11, Tryz.ntmps11
  go_wp2_with fail
  go_loopw [20] (fun c wr => ∃ (t : Nat) (d2 : Nat → Bool) (l2 : Nat), c = .int .i64 t ∧ t ≤ vs.length ∧ Pl wr A x0 w.heap.size l2 d2 ∧ Fm A w wr ∧ (∀ k, dn k = true → d2 k = true) ∧ ∀ j (hj : j < vs.length), j < t → vs[j].1 = 6 → ∀ i, i < A.n → d2 i = true) (fun c _ => vs.length - (intOf c).toNat)
  case atStart => exact ⟨0, dn, bd, rfl, by omega, HP.out.1, HP.out.2, fun _ h => h, fun j _ hj => by omega⟩
  case round =>
    obtain ⟨t, d2, l2, rfl, ht, hpl, hfm, hmo, hall⟩ := hrel
    have HQ : Hid (Pl wr A x0 w.heap.size l2 d2 ∧ Fm A w wr ∧ (∀ k, dn k = true → d2 k = true) ∧ ∀ j (hj : j < vs.length), j < t → vs[j].1 = 6 → ∀ i, i < A.n → d2 i = true) := ⟨hpl, hfm, hmo, hall⟩
    clear hpl hfm hmo hall HP
    by_cases h4 : t < vs.length
    · obtain ⟨ao', cap', e1, -, -, h3⟩ := HV.out.fm HQ.out.2.1
      injection e1 with e1 e2 e3
      subst e1 e3
      obtain ⟨b, off, c, f, rfl, e5, e6, q0, q1, q2⟩ := h3 t h4
      have c0 := (cell?_heapF e6 (off + t * 3)).trans q0
      have c1 := (cell?_heapF e6 (off + t * 3 + 1)).trans q1
      have c2 := (cell?_heapF e6 (off + t * 3 + 2)).trans q2
      have t0 : (0 : Int) ≤ (t : Int) := Int.natCast_nonneg _
      have t1 : (t : Int) < (vs.length : Int) := by omega
      have HK : Hid (vs[t].2.2 ≤ 9223372036854775807) := HN.out _ (List.getElem_mem h4)
      have HE : Hid (∀ p, p = vs[t] → ∀ j (hj : j < vs.length), j < t + 1 → vs[j].1 = 6 → j < t ∨ p.1 = 6) := fun p hp j hj h5 h6 => by
        by_cases e : j < t
        · exact .inl e
        · have : j = t := by omega
          subst this; rw [hp]; exact .inr h6
      clear h3 e2 q0 q1 q2 e6
      obtain ⟨k, hk⟩ : ∃ k, k = vs[t].1 := ⟨_, rfl⟩
      obtain ⟨x, hx⟩ : ∃ x, x = vs[t].2.1 := ⟨_, rfl⟩
      obtain ⟨nn, hn⟩ : ∃ nn, nn = vs[t].2.2 := ⟨_, rfl⟩
      rw [← hk] at c0
      rw [← hx] at c1
      rw [← hn] at c2
      have HKn : Hid (nn ≤ 9223372036854775807) := by show nn ≤ _; rw [hn]; exact HK.out
      have HE2 : Hid (∀ j (hj : j < vs.length), j < t + 1 → vs[j].1 = 6 → j < t ∨ k = 6) := by
        have := HE.out vs[t] rfl
        rw [← hk] at this
        exact this
      clear hk hx hn HK HE
      go_wp2_with fail
      have HQ2 : Hid (Pl (pkW wr k x nn) A x0 w.heap.size l2 d2 ∧ Fm A w (pkW wr k x nn)) := ⟨HQ.out.1.still HA.out ((Keeps.refl _ _).alloc _), HQ.out.2.1.trans (Fm.still ((Keeps.refl _ _).alloc _))⟩
      refine (pick_any (pkW wr k x nn) A x0 w.heap.size l2 d2 HA.out HQ2.out.1 h0 h1 k x nn HKn.out).mono ?_
      rintro e w5 ⟨rfl, d5, l5, p5, f5, m5, a5⟩
      have H5 : Hid (Pl w5 A x0 w.heap.size l5 d5 ∧ Fm A w w5 ∧ (∀ k, dn k = true → d5 k = true) ∧ ∀ j (hj : j < vs.length), j < t + 1 → vs[j].1 = 6 → ∀ i, i < A.n → d5 i = true) := ⟨p5, HQ2.out.2.trans f5, fun i hi => m5 i (HQ.out.2.2.1 i hi), fun j hj h5 h6 i hi => (HE2.out j hj h5 h6).elim (fun e => m5 i (HQ.out.2.2.2 j hj e h6 i hi)) (fun e => a5 e i hi)⟩
      clear p5 f5 m5 a5 HQ HQ2 HE2 HKn c0 c1 c2
      go_wp2
      go_roundw
      case rel => exact ⟨t + 1, d5, l5, by go_num, by omega, H5.out.1, H5.out.2.1, H5.out.2.2.1, H5.out.2.2.2⟩
      case measure => simp [intOf]; omega
    · have c1 := HQ.out.1.c1
      go_wp2
      go_ret2
      exact ⟨_, d2, rfl, HQ.out.1.bn, HQ.out.2.1, HQ.out.2.2.1, fun ⟨p, hp, h6⟩ i hi => by
        obtain ⟨j, hj, rfl⟩ := List.getElem_of_mem hp
        exact HQ.out.2.2.2 j hj (by omega) h6 i hi⟩
end Go.Proofs.YtdpebhdjcgiboaaGreat

namespace Go.Proofs.YtdpebhdjcgiboaaGreat
open Go.ChangeShapes Go.WideShapes Go.ChangeAt Go.RowKit Go.MuLone Go.RwLone
set_option linter.unusedVariables false
set_option maxRecDepth 100000
set_option maxHeartbeats 3200000
theorem drain_any (w : World) (A : Ad) (x0 : Int) (dn : Nat → Bool) (hA : Ly A) (h : Bn w A x0 dn) (h0 : 0 ≤ x0) (h1 : x0 < 18446744073709551616) (bd : Nat) (hl : left dn A.n ≤ bd) (hm : bd ≤ 1000000) :
    Calls Tryz.prog 15 #[.pointer (some ⟨A.hb, 0, none⟩), .int .i64 (bd : Int)] w fun e w' => ∃ r dn', e = .returned (.tuple #[.int .i64 r, .int .i64 0]) ∧ Bn w' A x0 dn' ∧ Fm A w w' ∧ ∀ i, i < A.n → dn' i = true := by
  have HP : Hid (Bn (pkW w 6 0 0) A x0 dn ∧ Fm A w (pkW w 6 0 0)) := ⟨h.still hA ((Keeps.refl _ _).alloc _), Fm.still ((Keeps.refl _ _).alloc _)⟩
  have HV : Hid (PkS (pkW w 6 0 0) A (.slice (some ⟨w.heap.size, 0, none⟩) 1 1) [(6, 0, 0)]) :=
    ⟨some ⟨w.heap.size, 0, none⟩, 1, rfl, by simp, by simp, fun i hi => by
      have : i = 0 := by simpa using hi
      subst this
      exact ⟨w.heap.size, 0, _, (0, 0), rfl, h.size, heap_alloc_last _ _ _ rfl, rfl, rfl, rfl⟩⟩
  have HA : Hid (Ly A) := hA
  clear h hA
  go_enter Tryz.func15, Tryz.ntmps15
  go_wp2_with fail
  refine (play_any (pkW w 6 0 0) A x0 dn HA.out HP.out.1 h0 h1 bd hl hm _ [(6, 0, 0)] HV.out).mono ?_
  rintro e w1 ⟨r, d, rfl, b, f, m, a⟩
  have HR : Hid (Bn w1 A x0 d ∧ Fm A w w1 ∧ ∀ i, i < A.n → d i = true) := ⟨b, HP.out.2.trans f, a ⟨_, List.mem_singleton.2 rfl, rfl⟩⟩
  clear b f m a HP HV
  go_wp2
  go_ret2
  exact ⟨r, d, rfl, HR.out⟩
end Go.Proofs.YtdpebhdjcgiboaaGreat
