import Derived.Test.YtdpebhdjcgiboaaGreatJSdD
import Derived.Lib.SliceRun
import Derived.Handy
namespace Go.Proofs.YtdpebhdjcgiboaaGreat
set_option linter.unusedSimpArgs false
open Go.ChangeShapes Go.WideShapes Go.ChangeAt Go.RowKit Go.MuLone Go.RwLone
set_option linter.unusedVariables false
set_option maxRecDepth 100000
set_option maxHeartbeats 3200000
/-- An event's cells; a thread's. -/
def evC (x : Int × Int × Int × Int) : List Value := [.int .i64 x.1, .int .i64 x.2.1, .int .i64 x.2.2.1, .int .i64 x.2.2.2]
def thC (t : Nat) : List Value := [.pointer (some ⟨t, 0, none⟩)]
theorem infoEv : (Tryz.prog.info? 36).map (fun i => (i.zero, i.size, i.bytes)) = some (some (.agg #[.int .i64 0, .int .i64 0, .int .i64 0, .int .i64 0]), 4, 32) := by kernel_rfl
theorem infoTh : (Tryz.prog.info? 31).map (fun i => (i.zero, i.size, i.bytes)) = some (some (.pointer none), 1, 8) := by kernel_rfl
abbrev OwE (w : World) (B : Nat) (v : Value) (xs : List (Int × Int × Int × Int)) : Prop := OwG evC 36 4 w B v xs
abbrev OwT (w : World) (B : Nat) (v : Value) (xs : List Nat) : Prop := OwG thC 31 1 w B v xs
end Go.Proofs.YtdpebhdjcgiboaaGreat

namespace Go.Proofs.YtdpebhdjcgiboaaGreat
set_option linter.unusedSimpArgs false
open Go.ChangeShapes Go.WideShapes Go.ChangeAt Go.RowKit Go.MuLone Go.RwLone
set_option linter.unusedVariables false
set_option maxRecDepth 100000
set_option maxHeartbeats 3200000
theorem infoPl : (Tryz.prog.info? 174).map (fun i => (i.zero, i.size, i.bytes)) = some (some (.agg #[.pointer none, .int .i64 0, .bool false]), 3, 24) := by kernel_rfl
theorem clear_pl (w : World) (P cap : Nat) (u0 u1 u2 : Value) (h0 : w.cell? ⟨P, 0, none⟩ = some u0) (h1 : w.cell? ⟨P, 1, none⟩ = some u1) (h2 : w.cell? ⟨P, 2, none⟩ = some u2) (hz : ∀ j, w.frozen? ⟨P, j, none⟩ = false) :
    Sem.run Tryz.prog (Builtin.clear_ #[120] 0 #[.slice (some ⟨P, 0, none⟩) 1 cap]) w = .ok (.tuple #[]) (w.setCells P 0 [.pointer none, .int .i64 0, .bool false]) := by
  obtain ⟨i0, hi, hz0, hz1, hz2⟩ := info_parts infoPl
  have hst := run_storeCells_cells (P := Tryz.prog) P 0 [.pointer none, .int .i64 0, .bool false] 0 w (by intro j hj; simp at hj; match j, hj with | 0, _ => simp [h0] | 1, _ => simp [h1] | 2, _ => simp [h2]) (by intro j hj; exact hz _) (by intro v hv; simp at hv; rcases hv with rfl | rfl | rfl <;> rfl)
  simp only [Nat.add_zero] at hst
  have hzc : (Builtin.zeroCells #[.pointer none, .int .i64 0, .bool false] 1).toList = [.pointer none, .int .i64 0, .bool false] := by simp [Builtin.zeroCells, Array.range, Array.ofFn]; rfl
  simp [Builtin.clear_, run_underlying Tryz.underlying120, zeroValue, typeInfo, hi, hz0, hzc, hst, Value.cells]
theorem Keeps.setCells {B : Nat → Prop} {a w : World} (h : Keeps B a w) {b : Nat} (hp : B b) (o : Nat) (us : List Value) : Keeps B a (w.setCells b o us) := by
  induction us generalizing w o with
  | nil => exact h
  | cons u us ih => exact ih (h.setCell (p := ⟨b, o, none⟩) hp u) (o + 1)
end Go.Proofs.YtdpebhdjcgiboaaGreat

namespace Go.Proofs.YtdpebhdjcgiboaaGreat
set_option linter.unusedSimpArgs false
open Go.ChangeShapes Go.WideShapes Go.ChangeAt Go.RowKit Go.MuLone Go.RwLone
set_option linter.unusedVariables false
set_option maxRecDepth 100000
set_option maxHeartbeats 3200000
/-- What a step of one thread may touch. -/
def Mv (L : Lay) (T hb qb p B : Nat) (x : Nat) : Prop := L.has x ∨ x = T ∨ x = hb ∨ x = qb ∨ x = p ∨ B ≤ x
/-- The blocks of one queue's thread lie apart. -/
structure Ap (L : Lay) (T ib hb qb p B : Nat) : Prop where
  lb : ∀ k, L.has k → k < B
  bT : T < B
  bi : ib < B
  bh : hb < B
  bq : qb < B
  bp : p < B
  lT : ¬ L.has T
  li : ¬ L.has ib
  lh : ¬ L.has hb
  lq : ¬ L.has qb
  lp : ¬ L.has p
  Ti : ib ≠ T
  Th : hb ≠ T
  Tq : qb ≠ T
  Tp : p ≠ T
  hq : hb ≠ qb
  hp : hb ≠ p
  qp : qb ≠ p
  ih : ib ≠ hb
  iq : ib ≠ qb
  ip : ib ≠ p
theorem Ap.ins {L : Lay} {T ib hb qb p B : Nat} (a : Ap L T ib hb qb p B) : ¬ Mv L T hb qb p B ib := by
  rintro (h | h | h | h | h | h)
  · exact a.li h
  · exact a.Ti h
  · exact a.ih h
  · exact a.iq h
  · exact a.ip h
  · exact absurd a.bi (by omega)
/-- In the midst of a step of the thread T, which stands first in the queue i. -/
structure Md (w W : World) (B : Nat) (L : Lay) (S : AS) (hb qb n : Nat) (pb ln cp : Nat → Nat) (st : Int) (ev en : Value) (i T ib m cap : Nat) (rg : Nat → Int) (pl : Nat) (tg : Int) (cl : Bool) (es : List (Int × Int × Int × Int)) (ts : List Nat) : Prop where
  k : Keeps (Mv L T hb qb (pb i) B) w W
  hd : Holds W L S
  hr : Hr W hb qb n pb ln cp st ev en
  th : Th W T L ib m cap rg pl
  c0 : W.cell? ⟨pb i, 0, none⟩ = some (.pointer (some ⟨T, 0, none⟩))
  c1 : W.cell? ⟨pb i, 1, none⟩ = some (.int .i64 tg)
  c2 : W.cell? ⟨pb i, 2, none⟩ = some (.bool cl)
  pf : ∀ j, W.frozen? ⟨pb i, j, none⟩ = false
  oe : OwE W B ev es
  ot : OwT W B en ts
  bs : B ≤ W.heap.size
  fr : ∀ (k : Nat) (c : Array Value) (t : TypeId) (f : Nat × Nat), B ≤ k → w.heap[k]? = some (.cells c t f) → t ≠ 36 → t ≠ 31 → W.heap[k]? = w.heap[k]?
section
variable {w W : World} {B : Nat} {L : Lay} {S : AS} {hb qb n : Nat} {pb ln cp : Nat → Nat} {st : Int} {ev en : Value} {i T ib m cap : Nat} {rg : Nat → Int} {pl : Nat} {tg : Int} {cl : Bool} {es : List (Int × Int × Int × Int)} {ts : List Nat}
theorem OwG.keeps {α : Type} {cs : α → List Value} {e : TypeId} {c : Nat} {W W' : World} {B : Nat} {v : Value} {xs : List α} {D : Nat → Prop} (h : OwG cs e c W B v xs) (k : Keeps D W W') (hn : ∀ x, D x → x < B) : OwG cs e c W' B v xs := by
  refine ⟨h.1, ?_⟩
  rcases h.2 with h1 | ⟨g, cap, cur, rfl, h1, h2, h3⟩
  · exact .inl h1
  · exact .inr ⟨g, cap, cur, rfl, h1, (k.block g (Array.getElem?_eq_some_iff.1 h2).1 (fun e => by have := hn g e; omega)).trans h2, h3⟩
theorem Md.fr' {W' : World} {D : Nat → Prop} (h : Md w W B L S hb qb n pb ln cp st ev en i T ib m cap rg pl tg cl es ts) (k : Keeps D W W') (hD : ∀ x, D x → x < B) : ∀ (k : Nat) (c : Array Value) (t : TypeId) (f : Nat × Nat), B ≤ k → w.heap[k]? = some (.cells c t f) → t ≠ 36 → t ≠ 31 → W'.heap[k]? = w.heap[k]? := fun g c t f hg hc h1 h2 => by
  have e := h.fr g c t f hg hc h1 h2
  exact (k.block g (Array.getElem?_eq_some_iff.1 (e.trans hc)).1 (fun x => by have := hD g x; omega)).trans e
/-- A world in which nothing of it was touched. -/
theorem Md.still {W' : World} (a : Ap L T ib hb qb (pb i) B) (h : Md w W B L S hb qb n pb ln cp st ev en i T ib m cap rg pl tg cl es ts) (k : Keeps (fun _ => False) W W') : Md w W' B L S hb qb n pb ln cp st ev en i T ib m cap rg pl tg cl es ts := by
  have lp : pb i < W.heap.size := Nat.lt_of_lt_of_le a.bp h.bs
  exact ⟨h.k.trans (k.mono (fun _ e => e.elim)), h.hd.keeps k (fun _ _ e => e), h.hr.keeps k (fun e => e) (fun e => e), h.th.keeps k (fun e => e), (k.cell (p := ⟨pb i, 0, none⟩) lp (fun e => e)).trans h.c0, (k.cell (p := ⟨pb i, 1, none⟩) lp (fun e => e)).trans h.c1, (k.cell (p := ⟨pb i, 2, none⟩) lp (fun e => e)).trans h.c2, fun j => (k.frozen (p := ⟨pb i, j, none⟩) lp (fun e => e)).trans (h.pf j), h.oe.keeps k (fun _ e => e.elim), h.ot.keeps k (fun _ e => e.elim), Nat.le_trans h.bs k.size, h.fr' k (fun _ e => e.elim)⟩
theorem Md.drew (a : Ap L T ib hb qb (pb i) B) (h : Md w W B L S hb qb n pb ln cp st ev en i T ib m cap rg pl tg cl es ts) : Md w W.drew B L S hb qb n pb ln cp st ev en i T ib m cap rg pl tg cl es ts := h.still a (Keeps.refl _ _).drew
/-- The place is called. -/
theorem Md.call (a : Ap L T ib hb qb (pb i) B) (h : Md w W B L S hb qb n pb ln cp st ev en i T ib m cap rg pl tg cl es ts) : Md w (W.setCell ⟨pb i, 2, none⟩ (.bool true)) B L S hb qb n pb ln cp st ev en i T ib m cap rg pl tg true es ts := by
  have k : Keeps (fun x => x = pb i) W (W.setCell ⟨pb i, 2, none⟩ (.bool true)) := Keeps.setCell (B := fun x => x = pb i) (Keeps.refl _ _) rfl _
  have ne : ∀ j, j ≠ 2 → (W.setCell ⟨pb i, 2, none⟩ (.bool true)).cell? ⟨pb i, j, none⟩ = W.cell? ⟨pb i, j, none⟩ := fun j hj => World.cell?_setCell_other _ _ _ _ (fun e => hj (congrArg Addr.off e).symm)
  exact ⟨h.k.trans (k.mono (fun _ e => .inr (.inr (.inr (.inr (.inl e)))))), h.hd.far (p := ⟨pb i, 2, none⟩) a.lp _, h.hr.keeps k a.hp a.qp, h.th.keeps k (fun e => a.Tp e.symm), (ne 0 (by decide)).trans h.c0, (ne 1 (by decide)).trans h.c1, World.cell?_setCell_same _ _ _ h.c2, fun j => by simpa using h.pf j, h.oe.keeps k (fun x e => by rw [e]; exact a.bp), h.ot.keeps k (fun x e => by rw [e]; exact a.bp), by simpa using h.bs, h.fr' k (fun x e => by rw [e]; exact a.bp)⟩
/-- An event is recorded. -/
theorem Md.event {W' : World} {v : Value} {es' : List (Int × Int × Int × Int)} (a : Ap L T ib hb qb (pb i) B) (h : Md w W B L S hb qb n pb ln cp st ev en i T ib m cap rg pl tg cl es ts) (hr : Hr W' hb qb n pb ln cp st v en) (oe : OwE W' B v es') (k : Keeps (fun x => x = hb ∨ B ≤ x) W W') (ot : ∀ u xs, OwT W B u xs → OwT W' B u xs) (fr : ∀ (k : Nat) (c : Array Value) (t : TypeId) (f : Nat × Nat), B ≤ k → W.heap[k]? = some (.cells c t f) → t ≠ 36 → W'.heap[k]? = W.heap[k]?) : Md w W' B L S hb qb n pb ln cp st v en i T ib m cap rg pl tg cl es' ts := by
  have lp : pb i < W.heap.size := Nat.lt_of_lt_of_le a.bp h.bs
  have np : ¬ (pb i = hb ∨ B ≤ pb i) := by have := a.hp; have := a.bp; omega
  exact ⟨h.k.trans (k.mono (fun _ e => e.elim (fun e => .inr (.inr (.inl e))) (fun e => .inr (.inr (.inr (.inr (.inr e))))))), h.hd.keeps k (fun g hg e => e.elim (fun e => a.lh (e ▸ hg)) (fun e => by have := a.lb g hg; omega)), hr, h.th.keeps k (by have := a.Th; have := a.bT; omega), (k.cell (p := ⟨pb i, 0, none⟩) lp np).trans h.c0, (k.cell (p := ⟨pb i, 1, none⟩) lp np).trans h.c1, (k.cell (p := ⟨pb i, 2, none⟩) lp np).trans h.c2, fun j => (k.frozen (p := ⟨pb i, j, none⟩) lp np).trans (h.pf j), oe, ot _ _ h.ot, Nat.le_trans h.bs k.size, fun g c t f hg hc h1 h2 => (fr g c t f hg ((h.fr g c t f hg hc h1 h2).trans hc) h1).trans (h.fr g c t f hg hc h1 h2)⟩
/-- A cell of the harness is set. -/
theorem Md.steps (a : Ap L T ib hb qb (pb i) B) (h : Md w W B L S hb qb n pb ln cp st ev en i T ib m cap rg pl tg cl es ts) (x : Int) : Md w (W.setCell ⟨hb, 1, none⟩ (.int .i64 x)) B L S hb qb n pb ln cp x ev en i T ib m cap rg pl tg cl es ts := by
  have k : Keeps (fun y => y = hb) W (W.setCell ⟨hb, 1, none⟩ (.int .i64 x)) := Keeps.setCell (B := fun y => y = hb) (Keeps.refl _ _) rfl _
  have lp : pb i < W.heap.size := Nat.lt_of_lt_of_le a.bp h.bs
  have np : ¬ pb i = hb := fun e => a.hp e.symm
  exact ⟨h.k.trans (k.mono (fun _ e => .inr (.inr (.inl e)))), h.hd.far (p := ⟨hb, 1, none⟩) a.lh _, h.hr.setS x, h.th.keeps k (fun e => a.Th e.symm), (k.cell (p := ⟨pb i, 0, none⟩) lp np).trans h.c0, (k.cell (p := ⟨pb i, 1, none⟩) lp np).trans h.c1, (k.cell (p := ⟨pb i, 2, none⟩) lp np).trans h.c2, fun j => by simpa using h.pf j, h.oe.keeps k (fun y e => by rw [e]; exact a.bh), h.ot.keeps k (fun y e => by rw [e]; exact a.bh), by simpa using h.bs, h.fr' k (fun y e => by rw [e]; exact a.bh)⟩
/-- The thread has made its step. -/
theorem Md.work {W' : World} {S' : AS} {rg' : Nat → Int} {pl' : Nat} (a : Ap L T ib hb qb (pb i) B) (h : Md w W B L S hb qb n pb ln cp st ev en i T ib m cap rg pl tg cl es ts) (hd : Holds W' L S') (th : Th W' T L ib m cap rg' pl') (k : Keeps (fun x => L.has x ∨ x = T) W W') : Md w W' B L S' hb qb n pb ln cp st ev en i T ib m cap rg' pl' tg cl es ts := by
  have lp : pb i < W.heap.size := Nat.lt_of_lt_of_le a.bp h.bs
  have np : ¬ (L.has (pb i) ∨ pb i = T) := fun e => e.elim a.lp a.Tp
  have hB : ∀ x, (L.has x ∨ x = T) → x < B := fun x e => e.elim (a.lb x) (fun e => by rw [e]; exact a.bT)
  exact ⟨h.k.trans (k.mono (fun _ e => e.elim .inl (fun e => .inr (.inl e)))), hd, h.hr.keeps k (fun e => e.elim a.lh a.Th) (fun e => e.elim a.lq a.Tq), th, (k.cell (p := ⟨pb i, 0, none⟩) lp np).trans h.c0, (k.cell (p := ⟨pb i, 1, none⟩) lp np).trans h.c1, (k.cell (p := ⟨pb i, 2, none⟩) lp np).trans h.c2, fun j => (k.frozen (p := ⟨pb i, j, none⟩) lp np).trans (h.pf j), h.oe.keeps k hB, h.ot.keeps k hB, Nat.le_trans h.bs k.size, h.fr' k hB⟩
/-- The thread stands among those that have ended. -/
theorem Md.ended {W' : World} {v : Value} {ts' : List Nat} (a : Ap L T ib hb qb (pb i) B) (h : Md w W B L S hb qb n pb ln cp st ev en i T ib m cap rg pl tg cl es ts) (ot : OwT W' B v ts') (hbl : Below B W W') (kp : KpT 31 W W') : Md w (W'.setCell ⟨hb, 3, none⟩ v) B L S hb qb n pb ln cp st ev v i T ib m cap rg pl tg cl es ts' := by
  have K : Keeps (fun x => B ≤ x) W W' := ⟨hbl.os, hbl.tape, hbl.output, hbl.size, fun k hk hn => hbl.block k (by omega)⟩
  have k2 : Keeps (fun x => x = hb ∨ B ≤ x) W (W'.setCell ⟨hb, 3, none⟩ v) := Keeps.setCell (B := fun x => x = hb ∨ B ≤ x) (K.mono (fun _ e => .inr e)) (.inl rfl) _
  have lp : pb i < W.heap.size := Nat.lt_of_lt_of_le a.bp h.bs
  have np : ¬ (pb i = hb ∨ B ≤ pb i) := by have := a.hp; have := a.bp; omega
  exact ⟨h.k.trans (k2.mono (fun _ e => e.elim (fun e => .inr (.inr (.inl e))) (fun e => .inr (.inr (.inr (.inr (.inr e))))))), h.hd.keeps k2 (fun g hg e => e.elim (fun e => a.lh (e ▸ hg)) (fun e => by have := a.lb g hg; omega)), (h.hr.keeps K (by have := a.bh; omega) (by have := a.bq; omega)).setD v, h.th.keeps k2 (by have := a.Th; have := a.bT; omega), (k2.cell (p := ⟨pb i, 0, none⟩) lp np).trans h.c0, (k2.cell (p := ⟨pb i, 1, none⟩) lp np).trans h.c1, (k2.cell (p := ⟨pb i, 2, none⟩) lp np).trans h.c2, fun j => (k2.frozen (p := ⟨pb i, j, none⟩) lp np).trans (h.pf j), (OwG.kept h.oe kp (by decide)).set (p := ⟨hb, 3, none⟩) a.bh _, ot.set (p := ⟨hb, 3, none⟩) a.bh _, Nat.le_trans h.bs k2.size, fun g c t f hg hc h1 h2 => (Below.heap_setCell _ _ _ _ (by show g ≠ hb; have := a.bh; omega)).trans ((kp g c t f ((h.fr g c t f hg hc h1 h2).trans hc) h2).trans (h.fr g c t f hg hc h1 h2))⟩
end
end Go.Proofs.YtdpebhdjcgiboaaGreat

namespace Go.Proofs.YtdpebhdjcgiboaaGreat
set_option linter.unusedSimpArgs false
open Go.ChangeShapes Go.WideShapes Go.ChangeAt Go.RowKit Go.MuLone Go.RwLone
set_option linter.unusedVariables false
set_option maxRecDepth 100000
set_option maxHeartbeats 3200000
end Go.Proofs.YtdpebhdjcgiboaaGreat
