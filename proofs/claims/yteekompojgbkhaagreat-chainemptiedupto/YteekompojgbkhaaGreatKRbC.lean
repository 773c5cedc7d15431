import Derived.Test.YteekompojgbkhaaGreatKRaB
import Derived.Test.YteekompojgbkhaaGreatKChH
namespace Go.Proofs.YteekompojgbkhaaGreat
open Go.ChangeShapes Go.WideShapes Go.ChangeAt Go.RowKit Go.MuLone Go.RwLone
set_option linter.unusedVariables false
set_option maxRecDepth 100000
set_option maxHeartbeats 3200000
/-- The document's index. -/
structure RxH (w : World) (ab : Nat) (X : XL) (hc : Nat) (x : XS) : Prop where
  c0 : w.cell? ⟨X.x, 0, none⟩ = some (.pointer (some ⟨ab, 0, none⟩))
  c1 : w.cell? ⟨X.x, 1, none⟩ = some (.int .i64 (x.cell : Int))
  c2 : w.cell? ⟨X.x, 2, none⟩ = some (.slice (some ⟨X.h, 0, none⟩) x.nb hc)
  c3 : w.cell? ⟨X.x, 3, none⟩ = some (.int .i64 x.cn)
  hd : ∀ b, b < x.nb → w.cell? ⟨X.h, b, none⟩ = some (.int .u64 (x.hd b))
  f : ∀ g j, X.has g → w.frozen? ⟨g, j, none⟩ = false
  lx : X.x < w.heap.size
  lh : X.h < w.heap.size
  ne : X.x ≠ X.h
  nb : 1 ≤ x.nb ∧ x.nb ≤ 256
theorem RxH.keeps {w w' : World} {ab : Nat} {X : XL} {hc : Nat} {x : XS} {D : Nat → Prop} (h : RxH w ab X hc x) (k : Keeps D w w') (hn : ∀ g, X.has g → ¬ D g) : RxH w' ab X hc x := by
  have e1 : ∀ j, w'.cell? ⟨X.x, j, none⟩ = w.cell? ⟨X.x, j, none⟩ := fun j => k.cell (p := ⟨X.x, j, none⟩) h.lx (hn _ (.inl rfl))
  have e2 : ∀ j, w'.cell? ⟨X.h, j, none⟩ = w.cell? ⟨X.h, j, none⟩ := fun j => k.cell (p := ⟨X.h, j, none⟩) h.lh (hn _ (.inr rfl))
  refine ⟨(e1 0).trans h.c0, (e1 1).trans h.c1, (e1 2).trans h.c2, (e1 3).trans h.c3, fun b hb => (e2 b).trans (h.hd b hb), fun g j hg => ?_, Nat.lt_of_lt_of_le h.lx k.size, Nat.lt_of_lt_of_le h.lh k.size, h.ne, h.nb⟩
  rcases hg with rfl | rfl
  · exact (World.frozen?_of_block (w := w) (a := ⟨X.x, j, none⟩) (k.block X.x h.lx (hn _ (.inl rfl)))).trans (h.f _ j (.inl rfl))
  · exact (World.frozen?_of_block (w := w) (a := ⟨X.h, j, none⟩) (k.block X.h h.lh (hn _ (.inr rfl)))).trans (h.f _ j (.inr rfl))
theorem RxH.setCn {w : World} {ab : Nat} {X : XL} {hc : Nat} {x : XS} (h : RxH w ab X hc x) (v : Int) : RxH (w.setCell ⟨X.x, 3, none⟩ (.int .i64 v)) ab X hc { x with cn := v } := by
  have o : ∀ j, j ≠ 3 → (w.setCell ⟨X.x, 3, none⟩ (.int .i64 v)).cell? ⟨X.x, j, none⟩ = w.cell? ⟨X.x, j, none⟩ := fun j hj => World.cell?_setCell_other _ _ _ _ (fun e => hj (congrArg Addr.off e).symm)
  have o2 : ∀ j, (w.setCell ⟨X.x, 3, none⟩ (.int .i64 v)).cell? ⟨X.h, j, none⟩ = w.cell? ⟨X.h, j, none⟩ := fun j => World.cell?_setCell_other _ _ _ _ (fun e => h.ne (congrArg Addr.block e))
  exact ⟨(o 0 (by decide)).trans h.c0, (o 1 (by decide)).trans h.c1, (o 2 (by decide)).trans h.c2, World.cell?_setCell_same _ _ _ h.c3, fun b hb => (o2 b).trans (h.hd b hb), fun g j hg => by simpa using h.f g j hg, by simpa using h.lx, by simpa using h.lh, h.ne, h.nb⟩
theorem RxH.setHd {w : World} {ab : Nat} {X : XL} {hc : Nat} {x : XS} (h : RxH w ab X hc x) (b : Nat) (hb : b < x.nb) (v : Int) : RxH (w.setCell ⟨X.h, b, none⟩ (.int .u64 v)) ab X hc { x with hd := upd x.hd b v } := by
  have o : ∀ j, (w.setCell ⟨X.h, b, none⟩ (.int .u64 v)).cell? ⟨X.x, j, none⟩ = w.cell? ⟨X.x, j, none⟩ := fun j => World.cell?_setCell_other _ _ _ _ (fun e => h.ne (congrArg Addr.block e).symm)
  refine ⟨(o 0).trans h.c0, (o 1).trans h.c1, (o 2).trans h.c2, (o 3).trans h.c3, fun i hi => ?_, fun g j hg => by simpa using h.f g j hg, by simpa using h.lx, by simpa using h.lh, h.ne, h.nb⟩
  by_cases e : i = b
  · subst e
    show _ = some (Value.int _ (upd x.hd i v i))
    rw [upd_same]
    exact World.cell?_setCell_same _ _ _ (h.hd i hb)
  · show _ = some (Value.int _ (upd x.hd b v i))
    rw [upd_other _ _ e, World.cell?_setCell_other _ _ _ _ (fun e' => e (congrArg Addr.off e').symm)]
    exact h.hd i hi
/-- The document's arena and an index over it. -/
structure RC (w : World) (R : RL) (cap : Nat) (qv : Value) (Q : List Nat) (S : AS) (X : XL) (hc : Nat) (x : XS) : Prop where
  a : RAr w R cap qv Q S
  i : RxH w R.b X hc x
  d : ∀ g, X.has g → ¬ raF R qv S g
  c : x.cell < S.wd
def rcF (R : RL) (qv : Value) (S : AS) (X : XL) (g : Nat) : Prop := raF R qv S g ∨ X.has g
theorem RC.keeps {w w' : World} {R : RL} {cap : Nat} {qv : Value} {Q : List Nat} {S : AS} {X : XL} {hc : Nat} {x : XS} {D : Nat → Prop} (h : RC w R cap qv Q S X hc x) (k : Keeps D w w') (hn : ∀ g, rcF R qv S X g → ¬ D g) : RC w' R cap qv Q S X hc x :=
  ⟨h.a.keeps k (fun g hg => hn g (.inl hg)), h.i.keeps k (fun g hg => hn g (.inr hg)), h.d, h.c⟩
theorem RC.arn {w w' : World} {R : RL} {cap : Nat} {qv : Value} {Q : List Nat} {S S' : AS} {X : XL} {hc : Nat} {x : XS} (h : RC w R cap qv Q S X hc x) (ha : RAr w' R cap qv Q S') (k : Keeps (raF R qv S) w w') (hw : S'.wd = S.wd) (hs : ∀ g, raF R qv S' g → raF R qv S g) : RC w' R cap qv Q S' X hc x :=
  ⟨ha, h.i.keeps k (fun g hg => h.d g hg), fun g hg e => h.d g hg (hs g e), by rw [hw]; exact h.c⟩
theorem RC.ix {w w' : World} {R : RL} {cap : Nat} {qv : Value} {Q : List Nat} {S : AS} {X : XL} {hc : Nat} {x x' : XS} (h : RC w R cap qv Q S X hc x) (hx : RxH w' R.b X hc x') (k : Keeps X.has w w') (hcl : x'.cell = x.cell) : RC w' R cap qv Q S X hc x' :=
  ⟨h.a.keeps k (fun g hg e => h.d g e hg), hx, h.d, by rw [hcl]; exact h.c⟩
/-- The document's machine in its block, and the others. -/
structure RM (w : World) (R : RL) (cap : Nat) (qv : Value) (Q : List Nat) (S : AS) (X : XL) (hc : Nat) (x : XS) (mb : Nat) (c : Array Value) (t : TypeId) : Prop where
  h : RC w R cap qv Q S X hc x
  m : w.heap[mb]? = some (.cells c t)
  n : ¬ rcF R qv S X mb
section
variable {w w' : World} {R : RL} {cap : Nat} {qv : Value} {Q : List Nat} {S S' : AS} {X : XL} {hc : Nat} {x x' : XS} {mb : Nat} {c c' : Array Value} {t : TypeId}
theorem RM.cell (h : RM w R cap qv Q S X hc x mb c t) (j : Nat) : w.cell? ⟨mb, j, none⟩ = c[j]? := cell?_heap h.m j
theorem RM.fz (h : RM w R cap qv Q S X hc x mb c t) (j : Nat) : w.frozen? ⟨mb, j, none⟩ = false := frozen?_heap h.m j
/-- A call of the index. -/
theorem RM.callX (h : RM w R cap qv Q S X hc x mb c t) (hx : RxH w' R.b X hc x') (k : Keeps X.has w w') (hcl : x'.cell = x.cell) : RM w' R cap qv Q S X hc x' mb c t := ⟨h.h.ix hx k hcl, (k.block mb (Array.getElem?_eq_some_iff.1 h.m).1 (fun e => h.n (.inr e))).trans h.m, h.n⟩
theorem RM.own (h : RM w R cap qv Q S X hc x mb c t) (hm : w'.heap[mb]? = some (.cells c' t)) (k : Keeps (fun g => g = mb) w w') : RM w' R cap qv Q S X hc x mb c' t := ⟨h.h.keeps k (fun g hg e => h.n (by rw [← e]; exact hg)), hm, h.n⟩
theorem RM.set (h : RM w R cap qv Q S X hc x mb c t) (j : Nat) (v : Value) : RM (w.setCell ⟨mb, j, none⟩ v) R cap qv Q S X hc x mb (c.setIfInBounds j v) t ∧ Keeps (fun g => g = mb) w (w.setCell ⟨mb, j, none⟩ v) := ⟨h.own (heapSetC h.m j v) setB, setB⟩
end
abbrev mrF (R : RL) (qv : Value) (S : AS) (X : XL) (mb g : Nat) : Prop := rcF R qv S X g ∨ g = mb
end Go.Proofs.YteekompojgbkhaaGreat

namespace Go.Proofs.YteekompojgbkhaaGreat
open Go.ChangeShapes Go.WideShapes Go.ChangeAt Go.RowKit Go.MuLone Go.RwLone
set_option linter.unusedVariables false
set_option maxRecDepth 100000
set_option maxHeartbeats 3200000
abbrev rwlA (xb : Nat) (bk fr : Int) (wh lo : Bool) (nx sl : Int) (ov : Bool) (co : Int) : Array Value := #[.pointer (some ⟨xb, 0, none⟩), .int .i64 bk, .int .i64 fr, .bool wh, .bool lo, .int .i64 nx, .int .i64 sl, .bool ov, .int .i64 co]
/-- The document's Walk in its block. -/
def RwlH (w : World) (mb xb : Nat) (m : MW) : Prop := ∃ (bk fr : Int) (wh lo : Bool) (nx : Int), w.heap[mb]? = some (.cells (rwlA xb bk fr wh lo nx m.slot m.ended m.code) 237) ∧ (m.st = 0 → wh = true ∧ lo = false ∧ bk = m.src) ∧ (m.st = 1 → wh = false ∧ lo = false ∧ fr = m.src) ∧ (m.st = 2 → lo = true ∧ nx = m.pend ∧ ((wh = true ∧ m.own = 4097 + bk ∧ 0 ≤ bk ∧ bk ≤ 1000) ∨ (wh = false ∧ m.own = 0)))
/-- What is known of a walk. -/
def wlkOk (m : MW) : Prop := m.ended = decide (3 ≤ m.st) ∧ (m.st ≤ 2 → m.code = 0) ∧ (m.st ≤ 1 → m.slot = 0) ∧ (m.st = 1 → m.own = 0)
end Go.Proofs.YteekompojgbkhaaGreat
