import Derived.Test.YtdpebhdjcgiboaaGreatKSdD
import Derived.Lib.SliceRun
import Derived.Handy
namespace Go.Proofs.YtdpebhdjcgiboaaGreat
set_option linter.unusedSimpArgs false
open Go.ChangeShapes Go.WideShapes Go.ChangeAt Go.RowKit Go.MuLone Go.RwLone
set_option linter.unusedVariables false
set_option maxRecDepth 100000
set_option maxHeartbeats 3200000
/-- An event's cells; a thread's. -/
def evC (x : Int × Int × Int × Int) : List Value := [.int .i64 x.1, .int .i64 x.2.1, .int .i64 x.2.2.1, .int .i64 x.2.2.2]
def thC (t : Nat) : List Value := [.pointer (some ⟨t, 0, none⟩)]
theorem infoEv : (Tryz.prog.info? 36).map (fun i => (i.zero, i.size, i.bytes)) = some (some (.agg #[.int .i64 0, .int .i64 0, .int .i64 0, .int .i64 0]), 4, 32) := by kernel_rfl
theorem infoTh : (Tryz.prog.info? 31).map (fun i => (i.zero, i.size, i.bytes)) = some (some (.pointer none), 1, 8) := by kernel_rfl
abbrev OwE (w : World) (B : Nat) (v : Value) (xs : List (Int × Int × Int × Int)) : Prop := OwG evC 36 4 w B v xs
abbrev OwT (w : World) (B : Nat) (v : Value) (xs : List Nat) : Prop := OwG thC 31 1 w B v xs
end Go.Proofs.YtdpebhdjcgiboaaGreat

namespace Go.Proofs.YtdpebhdjcgiboaaGreat
set_option linter.unusedSimpArgs false
open Go.ChangeShapes Go.WideShapes Go.ChangeAt Go.RowKit Go.MuLone Go.RwLone
set_option linter.unusedVariables false
set_option maxRecDepth 100000
set_option maxHeartbeats 3200000
theorem infoPl : (Tryz.prog.info? 174).map (fun i => (i.zero, i.size, i.bytes)) = some (some (.agg #[.pointer none, .int .i64 0, .bool false]), 3, 24) := by kernel_rfl
theorem clear_pl (w : World) (P cap : Nat) (u0 u1 u2 : Value) (h0 : w.cell? ⟨P, 0, none⟩ = some u0) (h1 : w.cell? ⟨P, 1, none⟩ = some u1) (h2 : w.cell? ⟨P, 2, none⟩ = some u2) (hz : ∀ j, w.frozen? ⟨P, j, none⟩ = false) :
    Sem.run Tryz.prog (Builtin.clear_ #[120] 0 #[.slice (some ⟨P, 0, none⟩) 1 cap]) w = .ok (.tuple #[]) (w.setCells P 0 [.pointer none, .int .i64 0, .bool false]) := by
  obtain ⟨i0, hi, hz0, hz1, hz2⟩ := info_parts infoPl
  have hst := run_storeCells_cells (P := Tryz.prog) P 0 [.pointer none, .int .i64 0, .bool false] 0 w (by intro j hj; simp at hj; match j, hj with | 0, _ => simp [h0] | 1, _ => simp [h1] | 2, _ => simp [h2]) (by intro j hj; exact hz _) (by intro v hv; simp at hv; rcases hv with rfl | rfl | rfl <;> rfl)
  simp only [Nat.add_zero] at hst
  have hzc : (Builtin.zeroCells #[.pointer none, .int .i64 0, .bool false] 1).toList = [.pointer none, .int .i64 0, .bool false] := by simp [Builtin.zeroCells, Array.range, Array.ofFn]; rfl
  simp [Builtin.clear_, run_underlying Tryz.underlying120, zeroValue, typeInfo, hi, hz0, hzc, hst, Value.cells]
theorem Keeps.setCells {B : Nat → Prop} {a w : World} (h : Keeps B a w) {b : Nat} (hp : B b) (o : Nat) (us : List Value) : Keeps B a (w.setCells b o us) := by
  induction us generalizing w o with
  | nil => exact h
  | cons u us ih => exact ih (h.setCell (p := ⟨b, o, none⟩) hp u) (o + 1)
end Go.Proofs.YtdpebhdjcgiboaaGreat

namespace Go.Proofs.YtdpebhdjcgiboaaGreat
set_option linter.unusedSimpArgs false
open Go.ChangeShapes Go.WideShapes Go.ChangeAt Go.RowKit Go.MuLone Go.RwLone
set_option linter.unusedVariables false
set_option maxRecDepth 100000
set_option maxHeartbeats 3200000
/-- What a step of one thread may touch. -/
def Mv (L : Lay) (T hb qb p B : Nat) (x : Nat) : Prop := L.has x ∨ x = T ∨ x = hb ∨ x = qb ∨ x = p ∨ B ≤ x
/-- The blocks of one queue's thread lie apart. -/
structure Ap (L : Lay) (T ib hb qb p B : Nat) : Prop where
  lb : ∀ k, L.has k → k < B
  bT : T < B
  bi : ib < B
  bh : hb < B
  bq : qb < B
  bp : p < B
  lT : ¬ L.has T
  li : ¬ L.has ib
  lh : ¬ L.has hb
  lq : ¬ L.has qb
  lp : ¬ L.has p
  Ti : ib ≠ T
  Th : hb ≠ T
  Tq : qb ≠ T
  Tp : p ≠ T
  hq : hb ≠ qb
  hp : hb ≠ p
  qp : qb ≠ p
  ih : ib ≠ hb
  iq : ib ≠ qb
  ip : ib ≠ p
/-- In the midst of a step of the thread T, which stands first in the queue i. -/
structure Md (w W : World) (B : Nat) (L : Lay) (S : AS) (hb qb n : Nat) (pb ln cp : Nat → Nat) (st : Int) (ev en : Value) (i T ib m cap : Nat) (rg : Nat → Int) (pl : Nat) (tg : Int) (cl : Bool) (es : List (Int × Int × Int × Int)) (ts : List Nat) : Prop where
  k : Keeps (Mv L T hb qb (pb i) B) w W
  hd : Holds W L S
  hr : Hr W hb qb n pb ln cp st ev en
  th : Th W T L ib m cap rg pl
  c0 : W.cell? ⟨pb i, 0, none⟩ = some (.pointer (some ⟨T, 0, none⟩))
  c1 : W.cell? ⟨pb i, 1, none⟩ = some (.int .i64 tg)
  c2 : W.cell? ⟨pb i, 2, none⟩ = some (.bool cl)
  pf : ∀ j, W.frozen? ⟨pb i, j, none⟩ = false
  oe : OwE W B ev es
  ot : OwT W B en ts
  bs : B ≤ W.heap.size
  fr : ∀ (k : Nat) (c : Array Value) (t : TypeId) (f : Nat × Nat), B ≤ k → w.heap[k]? = some (.cells c t f) → t ≠ 36 → t ≠ 31 → W.heap[k]? = w.heap[k]?
section
variable {w W : World} {B : Nat} {L : Lay} {S : AS} {hb qb n : Nat} {pb ln cp : Nat → Nat} {st : Int} {ev en : Value} {i T ib m cap : Nat} {rg : Nat → Int} {pl : Nat} {tg : Int} {cl : Bool} {es : List (Int × Int × Int × Int)} {ts : List Nat}
theorem OwG.keeps {α : Type} {cs : α → List Value} {e : TypeId} {c : Nat} {W W' : World} {B : Nat} {v : Value} {xs : List α} {D : Nat → Prop} (h : OwG cs e c W B v xs) (k : Keeps D W W') (hn : ∀ x, D x → x < B) : OwG cs e c W' B v xs := by
  refine ⟨h.1, ?_⟩
  rcases h.2 with h1 | ⟨g, cap, cur, rfl, h1, h2, h3⟩
  · exact .inl h1
  · exact .inr ⟨g, cap, cur, rfl, h1, (k.block g (Array.getElem?_eq_some_iff.1 h2).1 (fun e => by have := hn g e; omega)).trans h2, h3⟩
end
end Go.Proofs.YtdpebhdjcgiboaaGreat

namespace Go.Proofs.YtdpebhdjcgiboaaGreat
set_option linter.unusedSimpArgs false
open Go.ChangeShapes Go.WideShapes Go.ChangeAt Go.RowKit Go.MuLone Go.RwLone
set_option linter.unusedVariables false
set_option maxRecDepth 100000
set_option maxHeartbeats 3200000
end Go.Proofs.YtdpebhdjcgiboaaGreat
