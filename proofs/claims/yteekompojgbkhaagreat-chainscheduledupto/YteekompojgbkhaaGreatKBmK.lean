import Derived.Test.YteekompojgbkhaaGreatKRefNewE
import Derived.Test.YteekompojgbkhaaGreatKBqA
import Derived.Test.YteekompojgbkhaaGreatKReG
import Derived.Test.YteekompojgbkhaaGreatKRcA
import Derived.Test.YteekompojgbkhaaGreatKReJ
import Derived.Deep.DeepCutAuto
namespace Go.Proofs.YteekompojgbkhaaGreat
open Go.ChangeShapes Go.WideShapes Go.ChangeAt Go.RowKit
set_option linter.unusedVariables false
def rzC (_ : Nat) : List Value := zSlot
def rzS (m : Nat) : List Value := (List.range m).flatMap rzC
def rqL (t : Nat) : List Int := (List.range t).map (fun k : Nat => (k : Int) + 1)
theorem rzS_succ (m : Nat) : rzS (m + 1) = rzS m ++ zSlot := by
  unfold rzS
  rw [List.range_succ, List.flatMap_append]
  simp [rzC]
theorem rzS_at (m i j : Nat) (hi : i < m) (hj : j < 6) : (rzS m)[i * 6 + j]? = zSlot[j]? := by
  unfold rzS
  exact flat_get rzC 6 (fun _ => rfl) (List.range m) i (by simpa using hi) j hj
theorem rqL_succ (t : Nat) : rqL (t + 1) = rqL t ++ [(t : Int) + 1] := by
  unfold rqL
  rw [List.range_succ, List.map_append]
  rfl
/-- The document's arena while it is made: it has m slots (the first is none), the numbers 1 to t in its queue. -/
structure RefM (w : World) (rb wd m t : Nat) (vS vQ : Value) (W : World) : Prop where
  c0 : W.cell? ⟨rb, 0, none⟩ = some (.int .i64 (wd : Int))
  c1 : W.cell? ⟨rb, 1, none⟩ = some vS
  c2 : W.cell? ⟨rb, 2, none⟩ = some vQ
  c3 : W.cell? ⟨rb, 3, none⟩ = some (.int .i64 0)
  c4 : W.cell? ⟨rb, 4, none⟩ = some (.int .i64 0)
  fz : ∀ j, W.frozen? ⟨rb, j, none⟩ = false
  oS : ownSl W (rb + 1) vS m (rzS m)
  oQ : ownI W (rb + 1) vQ (rqL t)
  low : Below w.heap.size w W
  hb : w.heap.size ≤ rb
  lt : rb + 1 ≤ W.heap.size
theorem RefM.at {w W w2 : World} {rb wd m t : Nat} {vS vQ : Value} (h : RefM w rb wd m t vS vQ W) (hb : Below (rb + 1) W w2) : (∀ j, w2.cell? ⟨rb, j, none⟩ = W.cell? ⟨rb, j, none⟩) ∧ (∀ j, w2.frozen? ⟨rb, j, none⟩ = false) :=
  ⟨fun j => hb.cell (p := ⟨rb, j, none⟩) (by show rb < rb + 1; omega), fun j => (hb.frozen (p := ⟨rb, j, none⟩) (by show rb < rb + 1; omega)).trans (h.fz j)⟩
theorem RefM.slot {w W w2 : World} {rb wd m t : Nat} {vS vQ v' : Value} (h : RefM w rb wd m t vS vQ W) (ho : ownSl w2 (rb + 1) v' (m + 1) (rzS m ++ zSlot)) (hb : Below (rb + 1) W w2) (hq : ∀ vQ qs, ownI W (rb + 1) vQ qs → ownI w2 (rb + 1) vQ qs) : RefM w rb wd (m + 1) t v' vQ (w2.setCell ⟨rb, 1, none⟩ v') := by
  obtain ⟨cc, cf⟩ := h.at hb
  have hne : ∀ j, j ≠ 1 → (w2.setCell ⟨rb, 1, none⟩ v').cell? ⟨rb, j, none⟩ = w2.cell? ⟨rb, j, none⟩ := fun j hj => World.cell?_setCell_other _ _ _ _ (fun e => hj (congrArg Addr.off e).symm)
  refine ⟨(hne 0 (by decide)).trans ((cc 0).trans h.c0), World.cell?_setCell_same _ _ _ ((cc 1).trans h.c1), (hne 2 (by decide)).trans ((cc 2).trans h.c2), (hne 3 (by decide)).trans ((cc 3).trans h.c3), (hne 4 (by decide)).trans ((cc 4).trans h.c4), fun j => by simpa using cf j, ?_, ownsRow_setCell_below (hq vQ _ h.oQ) (a := ⟨rb, 1, none⟩) (by show rb < rb + 1; omega) _, (h.low.trans (hb.mono (by have := h.hb; omega))).setCell (p := ⟨rb, 1, none⟩) h.hb _, h.hb, ?_⟩
  · rw [rzS_succ]
    exact ownsRow_setCell_below ho (a := ⟨rb, 1, none⟩) (by show rb < rb + 1; omega) _
  · have := hb.size
    have := h.lt
    simp
    omega
theorem RefM.que {w W w2 : World} {rb wd m t : Nat} {vS vQ v' : Value} (h : RefM w rb wd m t vS vQ W) (ho : ownI w2 (rb + 1) v' (rqL t ++ [(t : Int) + 1])) (hb : Below (rb + 1) W w2) (hq : ∀ vS m ss, ownSl W (rb + 1) vS m ss → ownSl w2 (rb + 1) vS m ss) : RefM w rb wd m (t + 1) vS v' (w2.setCell ⟨rb, 2, none⟩ v') := by
  obtain ⟨cc, cf⟩ := h.at hb
  have hne : ∀ j, j ≠ 2 → (w2.setCell ⟨rb, 2, none⟩ v').cell? ⟨rb, j, none⟩ = w2.cell? ⟨rb, j, none⟩ := fun j hj => World.cell?_setCell_other _ _ _ _ (fun e => hj (congrArg Addr.off e).symm)
  refine ⟨(hne 0 (by decide)).trans ((cc 0).trans h.c0), (hne 1 (by decide)).trans ((cc 1).trans h.c1), World.cell?_setCell_same _ _ _ ((cc 2).trans h.c2), (hne 3 (by decide)).trans ((cc 3).trans h.c3), (hne 4 (by decide)).trans ((cc 4).trans h.c4), fun j => by simpa using cf j, ownsRow_setCell_below (hq vS m _ h.oS) (a := ⟨rb, 2, none⟩) (by show rb < rb + 1; omega) _, ?_, (h.low.trans (hb.mono (by have := h.hb; omega))).setCell (p := ⟨rb, 2, none⟩) h.hb _, h.hb, ?_⟩
  · rw [rqL_succ]
    exact ownsRow_setCell_below ho (a := ⟨rb, 2, none⟩) (by show rb < rb + 1; omega) _
  · have := hb.size
    have := h.lt
    simp
    omega
theorem RefM.start (w : World) (wd : Nat) : RefM w w.heap.size wd 0 0 (.slice none 0 0) (.slice none 0 0) (w.alloc (.cells #[.int .i64 (wd : Int), .slice none 0 0, .slice none 0 0, .int .i64 0, .int .i64 0] 228)) := by
  have hg := heap_alloc_new w (.cells #[.int .i64 (wd : Int), .slice none 0 0, .slice none 0 0, .int .i64 0, .int .i64 0] 228)
  exact ⟨(cell?_heap hg 0).trans rfl, (cell?_heap hg 1).trans rfl, (cell?_heap hg 2).trans rfl, (cell?_heap hg 3).trans rfl, (cell?_heap hg 4).trans rfl, fun j => frozen?_heap hg j, World.ownsRow_nil _ _ _ _, ownI_nil _ _, (Below.refl _ _).alloc (Nat.le_refl _) _, Nat.le_refl _, by simp⟩
theorem map_inZ (xs : List Int) : xs.map (Value.int .i64) = xs.flatMap inZ := by
  induction xs with
  | nil => rfl
  | cons x xs ih => rw [List.map_cons, List.flatMap_cons, ih]; rfl
theorem ownI.owG {w : World} {B : Nat} {v : Value} {xs : List Int} (h : ownI w B v xs) : OwG inZ 3 1 w B v xs := by
  unfold OwG
  rw [← map_inZ]
  exact h
/-- The document's arena, just made. -/
theorem RefM.ra {w W : World} {rb wd n : Nat} {vS vQ : Value} (h : RefM w rb wd (n + 1) n vS vQ W) (h1 : 1 ≤ n) (h2 : n ≤ 4096) (h3 : 1 ≤ wd) (h4 : wd ≤ 16) : ∃ s cap, rb + 1 ≤ s ∧ RAr W ⟨rb, s, fun _ => 0⟩ cap vQ (List.range n) (.fresh n wd) ∧ ∀ g, raF ⟨rb, s, fun _ => 0⟩ vQ (.fresh n wd) g → w.heap.size ≤ g := by
  have hS := h.oS
  have hQ := h.oQ
  have hb := h.hb
  have hne : vQ.ownBlock = none ∨ vQ.ownBlock ≠ vS.ownBlock := rows_ne hQ hS (by decide)
  obtain ⟨s, cap, rfl⟩ := hS.form
  have hlt := World.ownsRow.lt hS s rfl
  have hc : ∀ k j, k < n + 1 → j < 6 → W.cell? ⟨s, k * 6 + j, none⟩ = zSlot[j]? := fun k j hk hj => by
    have e := World.ownsRow.cellAt hS (k * 6 + j) (by omega)
    rw [e, rzS_at _ _ _ hk hj]
  have oq : OwG inZ 3 1 W 0 vQ ((List.range n).map qZ) := hQ.owG.down (Nat.zero_le _)
  have hn1 : ∀ k, k < (AS.fresh n wd).n → k + 1 < n + 1 := fun k hk => by have hk : k < n := hk; omega
  refine ⟨s, cap, hlt.1, ⟨h.c0, h.c1, h.c2, h.c3, h.c4, fun k hk => hc (k + 1) 0 (hn1 k hk) (by decide), fun k hk => hc (k + 1) 1 (hn1 k hk) (by decide), fun k hk => hc (k + 1) 2 (hn1 k hk) (by decide), fun k hk => hc (k + 1) 3 (hn1 k hk) (by decide), fun k _ hu => (by cases hu), fun k hk _ => hc (k + 1) 4 (hn1 k hk) (by decide), fun k hk => hc (k + 1) 5 (hn1 k hk) (by decide), fun k _ hu => (by cases hu), oq, h.fz, fun j => ?_, fun k _ hu => (by cases hu), by have := h.lt; exact this, hlt.2, fun k _ hu => (by cases hu), by show rb ≠ s; omega, fun k _ hu => (by cases hu), fun k k' _ _ hu => (by cases hu), fun g hg => ⟨?_, ?_, fun e => ?_⟩, ⟨h1, h2⟩, ⟨h3, h4⟩⟩, fun g hg => ?_⟩
  · obtain ⟨cur, hcur⟩ := blk (cs := rzC) (xs := List.range (n + 1)) (by unfold OwG; rw [List.length_range]; exact hS) (g := s) rfl
    exact frozen?_heap hcur j
  · have := (World.ownsRow.lt hQ g hg).1
    show g ≠ rb
    omega
  · rcases hne with e | e
    · rw [e] at hg; cases hg
    · rw [hg] at e
      exact fun e2 => e (congrArg some e2)
  · obtain ⟨k, _, hu, _⟩ := e
    cases hu
  · rcases hg with e | e | ⟨k, _, hu, _⟩ | e
    · have e : g = rb := e
      omega
    · have e : g = s := e
      omega
    · cases hu
    · have := (World.ownsRow.lt hQ g e).1
      omega
end Go.Proofs.YteekompojgbkhaaGreat

namespace Go.Proofs.YteekompojgbkhaaGreat
open Go.ChangeShapes Go.WideShapes Go.ChangeAt Go.RowKit Go.MuLone Go.RwLone
set_option linter.unusedVariables false
set_option maxRecDepth 100000
set_option maxHeartbeats 6400000
theorem Bo.dj2 {w : World} {l : WL} {qv : Value} {s : WS} (h : Bo w l qv s) {m : PM} (hm : m ∈ s.ms) (g : Nat) (hg : chF l.L (l.X m.ix) g) : ¬ mrF l.R qv s.S (l.Y m.ix) m.rb g := by
  obtain ⟨m1, mi, m3, m4, m5, m6, m7, m8⟩ := h.m m hm
  have hp : pF l g := hg.elim .inl (fun e => .inr ⟨_, mi, e⟩)
  rintro ((e | e) | e)
  · exact h.pd g hp (.inl e)
  · exact h.pd g hp (.inr ⟨_, mi, e⟩)
  · exact m6 (by rw [← e]; exact hp)
/-- Both have stepped. -/
theorem Bo.both {w w2 w3 : World} {l : WL} {qv : Value} {s : WS} (h : Bo w l qv s) (k : Nat) (m m' : PM) (hk : s.ms[k]? = some m) (c : CS) (e : m'.ix = m.ix ∧ m'.pb = m.pb ∧ m'.rb = m.rb)
    (c2 : CH w2 l.L s.Q c.S (l.X m.ix) c.x) (k2 : Keeps (mkF l.L (l.X m.ix) m.pb) w w2) (r3 : RC w3 l.R l.cap qv s.Q c.S (l.Y m.ix) (l.hc m.ix) c.x) (k3 : Keeps (mrF l.R qv s.S (l.Y m.ix) m.rb) w2 w3) (hm : m'.H w3 l) (hs : Same s.S (s.x m.ix) c) (hw : WdOk c.S c.x) (hok : m'.ok c.x) : Bo w3 l qv (s.step c m.ix k m') ∧ Keeps (fun g => mkF l.L (l.X m.ix) m.pb g ∨ mrF l.R qv s.S (l.Y m.ix) m.rb g) w w3 := by
  have hmem := List.mem_of_getElem? hk
  have c3 := c2.keeps k3 (fun g hg => h.dj2 hmem g hg)
  have kk : Keeps (fun g => mkF l.L (l.X m.ix) m.pb g ∨ mrF l.R qv s.S (l.Y m.ix) m.rb g) w w3 := (k2.mono (fun _ e => .inl e)).trans (k3.mono (fun _ e => .inr e))
  exact ⟨h.step k m m' hk c e c3.a c3.i r3.a r3.i hm kk hs hw hok, kk⟩
theorem set_pmC {ms : List PM} {k : Nat} {m m' : PM} (hk : ms[k]? = some m) (e : pmC m' = pmC m) (i : Nat) : ((ms.set k m')[i]?).map pmC = (ms[i]?).map pmC := by
  rw [List.getElem?_set]
  by_cases h : k = i
  · subst h
    rw [if_pos rfl, hk, if_pos (List.getElem?_eq_some_iff.1 hk).1]
    show some (pmC m') = some (pmC m)
    rw [e]
  · rw [if_neg h]
/-- The law's world behind a step of machine k. -/
theorem St4.both {w w2 w3 : World} {B wb : Nat} {hold : Int} {l : WL} {qv av : Value} {s : WS} (h : St4 w B wb hold l qv av s) (k : Nat) (m m' : PM) (hk : s.ms[k]? = some m) (c : CS) (e : m'.ix = m.ix ∧ m'.pb = m.pb ∧ m'.rb = m.rb) (ek : m'.kd = m.kd)
    (c2 : CH w2 l.L s.Q c.S (l.X m.ix) c.x) (k2 : Keeps (mkF l.L (l.X m.ix) m.pb) w w2) (r3 : RC w3 l.R l.cap qv s.Q c.S (l.Y m.ix) (l.hc m.ix) c.x) (k3 : Keeps (mrF l.R qv s.S (l.Y m.ix) m.rb) w2 w3) (hm : m'.H w3 l) (hs : Same s.S (s.x m.ix) c) (hw : WdOk c.S c.x) (hok : m'.ok c.x) (hB : B ≤ w.heap.size) : St4 w3 B wb hold l qv av (s.step c m.ix k m') ∧ Below B w w3 := by
  obtain ⟨b3, kk⟩ := h.b.both k m m' hk c e c2 k2 r3 k3 hm hs hw hok
  have hmem := List.mem_of_getElem? hk
  have mi := (h.b.m m hmem).2.1
  refine h.go b3 kk (fun g hg => ?_) (fun g hg => .inl (step_aF hk e.2 hs.1 hs.2.2.1 g hg)) rfl rfl rfl rfl (.inr (fun i => set_pmC hk ?_ i)) hB
  · rcases hg with ((e | e) | e) | ((e | e) | e)
    · exact .inl (.inl e)
    · exact .inl (.inr ⟨_, mi, e⟩)
    · exact .inr (.inr ⟨m, hmem, .inl e⟩)
    · exact .inr (.inl (.inl e))
    · exact .inr (.inl (.inr ⟨_, mi, e⟩))
    · exact .inr (.inr ⟨m, hmem, .inr e⟩)
  · unfold pmC
    rw [ek, e.2.1, e.2.2]
end Go.Proofs.YteekompojgbkhaaGreat

namespace Go.Proofs.YteekompojgbkhaaGreat
open Go.ChangeShapes Go.WideShapes Go.ChangeAt Go.RowKit Go.MuLone Go.RwLone
set_option linter.unusedVariables false
set_option maxRecDepth 100000
set_option maxHeartbeats 6400000
/-- A pair in the law's row. -/
theorem St4.pair {w : World} {B wb : Nat} {hold : Int} {l : WL} {qv : Value} {g n cap : Nat} {s : WS} (h : St4 w B wb hold l qv (.slice (some ⟨g, 0, none⟩) n cap) s) (k : Nat) (m : PM) (hk : s.ms[k]? = some m) (j : Nat) (hj : j < 7) : w.cell? ⟨g, k * 7 + j, none⟩ = (pmC m)[j]? := by
  obtain ⟨h1, h2⟩ := List.getElem?_eq_some_iff.1 hk
  have ho := h.o
  have hn := (owG_cap ho).1
  subst hn
  have c0 := flat_get pmC 7 (fun _ => rfl) s.ms k h1 j hj
  rw [World.ownsRow.cellAt ho (k * 7 + j) (by omega), c0, h2]
end Go.Proofs.YteekompojgbkhaaGreat

namespace Go.Proofs.YteekompojgbkhaaGreat
set_option linter.unusedSimpArgs false
open Go.ChangeShapes Go.WideShapes Go.ChangeAt Go.RowKit Go.MuLone Go.RwLone
set_option linter.unusedVariables false
set_option maxRecDepth 100000
set_option maxHeartbeats 6400000
/-- The program's arena was looked at. -/
theorem St4.arn {w w' : World} {B wb : Nat} {hold : Int} {l : WL} {qv av : Value} {s : WS} (h : St4 w B wb hold l qv av s) (ha : Arn w' l.L s.Q s.S) (k : Keeps l.L.has w w') (hB : B ≤ w.heap.size) : St4 w' B wb hold l qv av s :=
  (h.go (h.b.arn ha k) k (fun g hg => .inl (.inl hg)) (fun g hg => .inl hg) rfl rfl rfl rfl (.inl rfl) hB).1
end Go.Proofs.YteekompojgbkhaaGreat

namespace Go.Proofs.YteekompojgbkhaaGreat
set_option linter.unusedSimpArgs false
open Go.ChangeShapes Go.WideShapes Go.ChangeAt Go.RowKit Go.MuLone Go.RwLone
set_option linter.unusedVariables false
set_option maxRecDepth 100000
set_option maxHeartbeats 6400000
section
variable {w w' : World} {B bb : Nat} {l : BkL} {s : BkS}
theorem BkM.bel {D : Nat → Prop} (h : BkM w B bb l s) (k : Keeps D w w') (hD : ∀ g, D g → s.T g ≠ 0 ∨ w.heap.size ≤ g) : Below B w w' := by
  have hB : B ≤ w.heap.size := by
    have := h.tl bb (by rw [h.t2]; decide)
    omega
  exact k.below hB (fun g hg e => by
    rcases hD g e with e | e
    · have := (h.tl g e).1
      omega
    · omega)
/-- Arena and index alone are changed. -/
theorem BkM.ar (h : BkM w B bb l s) {S' : AS} {x' : XS} (hc : CH w' l.L l.Q S' l.X x') (k : Keeps (chF l.L l.X) w w') : BkM w' B bb l { s with S := S', x := x' } := by
  have o := h.but 1 (k.mono (fun g hg => h.t1 g hg))
  exact ⟨hc, o.b (by decide), o.i (by decide), o.r (by decide), o.k (by decide), o.z (by decide), fun j hj => o.v j hj (by omega), o.a (by decide), fun j q hq => ⟨(o.m j q hq).1 (by omega), (o.m j q hq).2.1 (by omega), (o.m j q hq).2.2 (by omega)⟩, h.t1, h.t2, h.t3, h.t4, h.t5, h.t6, h.t7, h.t8, h.t9, o.tl, o.pp (by decide), h.tp⟩
theorem BkM.same (h : BkM w B bb l s) (hc : CH w' l.L l.Q s.S l.X s.x) (k : Keeps (chF l.L l.X) w w') : BkM w' B bb l s := h.ar hc k
theorem BkM.c (h : BkM w B bb l s) (j : Nat) : w.cell? ⟨bb, j, none⟩ = (bkC l s)[j]? := cell?_heap h.b j
theorem BkM.fz (h : BkM w B bb l s) (j : Nat) : w.frozen? ⟨bb, j, none⟩ = false := frozen?_heap h.b j
end
end Go.Proofs.YteekompojgbkhaaGreat

namespace Go.Proofs.YteekompojgbkhaaGreat
open Go.ChangeShapes Go.WideShapes Go.ChangeAt Go.RowKit Go.MuLone Go.RwLone
set_option linter.unusedVariables false
set_option maxRecDepth 100000
set_option maxHeartbeats 6400000
section
variable {w w' : World} {B bb : Nat} {l : BkL} {s : BkS}
end
/-- What is known of a machine's cells. -/
theorem BkM.cells {w : World} {B bb : Nat} {l : BkL} {s : BkS} {g m cap : Nat} (h : BkM w B bb l s) (hv : s.av = .slice (some ⟨g, 0, none⟩) m cap) (i : Nat) (q : OL) (hi : s.all[i]? = some q) (p : Nat) (hp : i * 12 = p) : ∀ j, j < 12 → w.cell? ⟨g, p + j, none⟩ = (olC q)[j]? := fun j hj => by
  rw [← hp]
  exact h.one hv i q hi j hj
end Go.Proofs.YteekompojgbkhaaGreat

namespace Go.Proofs.YteekompojgbkhaaGreat
set_option linter.unusedSimpArgs false
open Go.ChangeShapes Go.WideShapes Go.ChangeAt Go.RowKit Go.MuLone Go.RwLone
set_option linter.unusedVariables false
set_option maxRecDepth 100000
set_option maxHeartbeats 6400000
/-- What is read of the book and of the machine in its row. -/
structure RdI (W : World) (l : BkL) (bb g p N nb mb sn : Nat) (ranks : Int) (j : Nat) : Prop where
  b3 : W.cell? ⟨bb, 3, none⟩ = some (.int .i64 (nb : Int))
  b4 : W.cell? ⟨bb, 4, none⟩ = some (.slice (some ⟨l.ib, 0, none⟩) (N + 1) l.ic)
  b5 : W.cell? ⟨bb, 5, none⟩ = some (.slice (some ⟨l.rb, 0, none⟩) (N + 1) l.rc)
  b6 : W.cell? ⟨bb, 6, none⟩ = some (.slice (some ⟨l.kb, 0, none⟩) (N + 1) l.kc)
  b7 : W.cell? ⟨bb, 7, none⟩ = some (.int .i64 ranks)
  b8 : W.cell? ⟨bb, 8, none⟩ = some (.slice (some ⟨l.wb, 0, none⟩) nb l.wc)
  g1 : W.cell? ⟨g, p + 1, none⟩ = some (.int .i64 (sn : Int))
  g2 : W.cell? ⟨g, p + j, none⟩ = some (.pointer (some ⟨mb, 0, none⟩))
  fb : ∀ i, W.frozen? ⟨bb, i, none⟩ = false
  fg : ∀ i, W.frozen? ⟨g, i, none⟩ = false
  fi : ∀ i, W.frozen? ⟨l.ib, i, none⟩ = false
  fr : ∀ i, W.frozen? ⟨l.rb, i, none⟩ = false
  fk : ∀ i, W.frozen? ⟨l.kb, i, none⟩ = false
  fw : ∀ i, W.frozen? ⟨l.wb, i, none⟩ = false
  ne : bb ≠ g ∧ bb ≠ l.ib ∧ bb ≠ l.rb ∧ bb ≠ l.kb ∧ bb ≠ l.wb ∧ g ≠ l.ib ∧ g ≠ l.rb ∧ g ≠ l.kb ∧ g ≠ l.wb
  ci : ∃ y, W.cell? ⟨l.ib, sn, none⟩ = some (.int .i64 y)
  cr : ∃ y, W.cell? ⟨l.rb, sn, none⟩ = some (.int .i64 y)
  ck : ∃ y, W.cell? ⟨l.kb, sn, none⟩ = some (.int .i64 y)
theorem RdI.drew {W : World} {l : BkL} {bb g p N nb mb sn j : Nat} {ranks : Int} (h : RdI W l bb g p N nb mb sn ranks j) : RdI W.drew l bb g p N nb mb sn ranks j := ⟨h.b3, h.b4, h.b5, h.b6, h.b7, h.b8, h.g1, h.g2, h.fb, h.fg, h.fi, h.fr, h.fk, h.fw, h.ne, h.ci, h.cr, h.ck⟩
theorem BkM.rd {W : World} {B bb : Nat} {l : BkL} {s : BkS} {g m cap : Nat} (h : BkM W B bb l s) (hv : s.av = .slice (some ⟨g, 0, none⟩) m cap) (i : Nat) (q : OL) (hi : s.all[i]? = some q) (p : Nat) (hp : i * 12 = p) (sn : Nat) (hs : q.o.sl = (sn : Int)) (hN : sn ≤ s.N) (j : Nat) (hj : j < 12) (hm : (olC q)[j]? = some (.pointer (some ⟨q.mb, 0, none⟩))) : RdI W l bb g p s.N s.nb q.mb sn s.ranks j := by
  have hc := h.cells hv i q hi p hp
  obtain ⟨g', cap', e1, e2, e3, e4, e5⟩ := h.ones i q hi
  have eg : g' = g := by
    rw [hv] at e1
    injection e1 with e1 _ _
    injection e1 with e1
    injection e1 with e1
    exact e1.symm
  subst eg
  have t3 := h.t3
  have t4 := h.t4
  have t5 := h.t5
  have t6 := h.t6
  have t2 := h.t2
  refine ⟨(h.c 3).trans rfl, (h.c 4).trans rfl, (h.c 5).trans rfl, (h.c 6).trans rfl, (h.c 7).trans rfl, (h.c 8).trans rfl, (hc 1 (by decide)).trans (by rw [← hs]; rfl), (hc j hj).trans hm, h.fz, e5, h.i.f, h.r.f, h.k.f, h.z.f, ⟨fun e => ?_, fun e => ?_, fun e => ?_, fun e => ?_, fun e => ?_, fun e => ?_, fun e => ?_, fun e => ?_, fun e => ?_⟩, ⟨_, h.i.c sn (by omega)⟩, ⟨_, h.r.c sn (by omega)⟩, ⟨_, h.k.c sn (by omega)⟩⟩
  · rw [e] at t2; omega
  · rw [e] at t2; omega
  · rw [e] at t2; omega
  · rw [e] at t2; omega
  · rw [e] at t2; omega
  · rw [e] at e4; omega
  · rw [e] at e4; omega
  · rw [e] at e4; omega
  · rw [e] at e4; omega
end Go.Proofs.YteekompojgbkhaaGreat

namespace Go.Proofs.YteekompojgbkhaaGreat
open Go.ChangeShapes Go.WideShapes Go.ChangeAt Go.RowKit Go.MuLone Go.RwLone
set_option linter.unusedVariables false
set_option maxRecDepth 100000
set_option maxHeartbeats 3200000
theorem owG_hi {α : Type} {cs : α → List Value} {e : TypeId} {n : Nat} {w : World} {v : Value} {xs : List α} (h : OwG cs e n w 0 v xs) (B : Nat) (hb : ∀ g, v.ownBlock = some g → B ≤ g) : OwG cs e n w B v xs := by
  refine ⟨h.1, ?_⟩
  rcases h.2 with h0 | ⟨g, cap, cur, rfl, _, r⟩
  · exact .inl h0
  · exact .inr ⟨g, cap, cur, rfl, hb g rfl, r⟩
section
variable {w w' : World} {B bb : Nat} {l : BkL} {s : BkS}
theorem BkM.hB (h : BkM w B bb l s) : B ≤ w.heap.size := by
  have := h.tl bb (by rw [h.t2]; decide)
  omega
end
/-- What is left of the book when an Insert is linked. -/
def InsNx (s : BkS) (i : Nat) (q : OL) (r : Bool × CS × MI) (s' : BkS) : Prop := (r.1 = q.o.dn ∧ s' = { s with S := r.2.1.S, x := r.2.1.x, all := s.all.set i { q with o := { q.o with mi := r.2.2 } } }) ∨ (r.1 = true ∧ q.o.dn = false ∧ ∃ rv' T', s' = { s with S := r.2.1.S, x := r.2.1.x, all := s.all.set i { q with o := { q.o with mi := r.2.2, dn := true } }, ins := updI s.ins q.o.sl 2, rank := updI s.rank q.o.sl s.ranks, ranks := s.ranks + 1, rows := (fun c => if c = q.o.sl % (s.nb : Int) then q.o.sl :: s.rows (q.o.sl % (s.nb : Int)) else s.rows c), rv := rv', T := T' })
end Go.Proofs.YteekompojgbkhaaGreat

namespace Go.Proofs.YteekompojgbkhaaGreat
open Go.ChangeShapes Go.WideShapes Go.ChangeAt Go.RowKit Go.MuLone Go.RwLone
set_option linter.unusedVariables false
set_option maxRecDepth 100000
set_option maxHeartbeats 3200000
/-- What is left of the book when a Remove steps. -/
def RemNx (s : BkS) (i : Nat) (q : OL) (r : Bool × CS × MR) (s' : BkS) : Prop := (r.2.2.ma = q.o.mq ∧ s' = { s with S := r.2.1.S, x := r.2.1.x, all := s.all.set i { q with o := { q.o with mr := r.2.2, dn := r.1 } } }) ∨ (q.o.mq = false ∧ r.2.2.ma = true ∧ r.1 = false ∧ q.o.dn = false ∧ ∃ rv' T', s' = { s with S := r.2.1.S, x := r.2.1.x, all := s.all.set i { q with o := { q.o with mr := r.2.2, mq := true } }, rem := updI s.rem q.o.sl 2, rows := (fun c => if c = q.o.sl % (s.nb : Int) then (s.rows (q.o.sl % (s.nb : Int))).filter (fun u => !(u == q.o.sl)) else s.rows c), rv := rv', T := T' })
end Go.Proofs.YteekompojgbkhaaGreat

namespace Go.Proofs.YteekompojgbkhaaGreat
set_option linter.unusedSimpArgs false
open Go.ChangeShapes Go.WideShapes Go.ChangeAt Go.RowKit Go.MuLone Go.RwLone
set_option linter.unusedVariables false
set_option maxRecDepth 100000
set_option maxHeartbeats 6400000
/-- What a walk's step reads of the book and of the machine in its row. -/
structure RdW (W : World) (l : BkL) (bb g p N nb mb : Nat) (dn : Bool) (rk : Int) (dv mv : Value) (xs ys : List Int) (rem rank : Int → Int) : Prop where
  b2 : W.cell? ⟨bb, 2, none⟩ = some (.int .i64 (N : Int))
  b5 : W.cell? ⟨bb, 5, none⟩ = some (.slice (some ⟨l.rb, 0, none⟩) (N + 1) l.rc)
  b6 : W.cell? ⟨bb, 6, none⟩ = some (.slice (some ⟨l.kb, 0, none⟩) (N + 1) l.kc)
  g3 : W.cell? ⟨g, p + 3, none⟩ = some (.pointer (some ⟨mb, 0, none⟩))
  g5 : W.cell? ⟨g, p + 5, none⟩ = some (.bool dn)
  g9 : W.cell? ⟨g, p + 9, none⟩ = some (.int .i64 rk)
  g10 : W.cell? ⟨g, p + 10, none⟩ = some dv
  g11 : W.cell? ⟨g, p + 11, none⟩ = some mv
  cr : ∀ j, j ≤ N → W.cell? ⟨l.rb, j, none⟩ = some (.int .i64 (rem (j : Int)))
  ck : ∀ j, j ≤ N → W.cell? ⟨l.kb, j, none⟩ = some (.int .i64 (rank (j : Int)))
  od : OwI W 0 dv xs
  om : OwI W 0 mv ys
  fg : ∀ i, W.frozen? ⟨g, i, none⟩ = false
end Go.Proofs.YteekompojgbkhaaGreat

namespace Go.Proofs.YteekompojgbkhaaGreat
open Go.ChangeShapes Go.WideShapes Go.ChangeAt Go.RowKit Go.MuLone Go.RwLone
set_option linter.unusedVariables false
set_option maxRecDepth 100000
set_option maxHeartbeats 3200000
section
variable {w w' : World} {B bb : Nat} {l : BkL} {s : BkS}
end
def trS (s : BkS) (o : On) : TrP := if o.bg = true then o.t else { o.t with rk := s.ranks, due := s.rows o.t.k }
/-- What is left of the book when a walk steps. -/
def WlkNx (s : BkS) (i : Nat) (q : OL) (r : Bool × CS × MW) (s' : BkS) : Prop := ∃ dv' mv' T', s' = { s with S := r.2.1.S, x := r.2.1.x, all := s.all.set i ⟨{ q.o with mw := r.2.2, bg := true, t := { trS s q.o with met := met1 (trS s q.o) r.2.2 }, dn := r.2.2.ended }, q.mb, dv', mv'⟩, T := T' }
end Go.Proofs.YteekompojgbkhaaGreat
