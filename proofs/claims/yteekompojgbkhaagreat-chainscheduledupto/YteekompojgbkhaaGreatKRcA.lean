import Derived.Test.YteekompojgbkhaaGreatKRaA
import Derived.Test.YteekompojgbkhaaGreatKChH
namespace Go.Proofs.YteekompojgbkhaaGreat
open Go.ChangeShapes Go.WideShapes Go.ChangeAt Go.RowKit Go.MuLone Go.RwLone
set_option linter.unusedVariables false
set_option maxRecDepth 100000
set_option maxHeartbeats 3200000
/-- The document's index. -/
structure RxH (w : World) (ab : Nat) (X : XL) (hc : Nat) (x : XS) : Prop where
  c0 : w.cell? ⟨X.x, 0, none⟩ = some (.pointer (some ⟨ab, 0, none⟩))
  c1 : w.cell? ⟨X.x, 1, none⟩ = some (.int .i64 (x.cell : Int))
  c2 : w.cell? ⟨X.x, 2, none⟩ = some (.slice (some ⟨X.h, 0, none⟩) x.nb hc)
  c3 : w.cell? ⟨X.x, 3, none⟩ = some (.int .i64 x.cn)
  hd : ∀ b, b < x.nb → w.cell? ⟨X.h, b, none⟩ = some (.int .u64 (x.hd b))
  f : ∀ g j, X.has g → w.frozen? ⟨g, j, none⟩ = false
  lx : X.x < w.heap.size
  lh : X.h < w.heap.size
  ne : X.x ≠ X.h
  nb : 1 ≤ x.nb ∧ x.nb ≤ 256
theorem RxH.keeps {w w' : World} {ab : Nat} {X : XL} {hc : Nat} {x : XS} {D : Nat → Prop} (h : RxH w ab X hc x) (k : Keeps D w w') (hn : ∀ g, X.has g → ¬ D g) : RxH w' ab X hc x := by
  have e1 : ∀ j, w'.cell? ⟨X.x, j, none⟩ = w.cell? ⟨X.x, j, none⟩ := fun j => k.cell (p := ⟨X.x, j, none⟩) h.lx (hn _ (.inl rfl))
  have e2 : ∀ j, w'.cell? ⟨X.h, j, none⟩ = w.cell? ⟨X.h, j, none⟩ := fun j => k.cell (p := ⟨X.h, j, none⟩) h.lh (hn _ (.inr rfl))
  refine ⟨(e1 0).trans h.c0, (e1 1).trans h.c1, (e1 2).trans h.c2, (e1 3).trans h.c3, fun b hb => (e2 b).trans (h.hd b hb), fun g j hg => ?_, Nat.lt_of_lt_of_le h.lx k.size, Nat.lt_of_lt_of_le h.lh k.size, h.ne, h.nb⟩
  rcases hg with rfl | rfl
  · exact (World.frozen?_of_block (w := w) (a := ⟨X.x, j, none⟩) (k.block X.x h.lx (hn _ (.inl rfl)))).trans (h.f _ j (.inl rfl))
  · exact (World.frozen?_of_block (w := w) (a := ⟨X.h, j, none⟩) (k.block X.h h.lh (hn _ (.inr rfl)))).trans (h.f _ j (.inr rfl))
theorem RxH.setCn {w : World} {ab : Nat} {X : XL} {hc : Nat} {x : XS} (h : RxH w ab X hc x) (v : Int) : RxH (w.setCell ⟨X.x, 3, none⟩ (.int .i64 v)) ab X hc { x with cn := v } := by
  have o : ∀ j, j ≠ 3 → (w.setCell ⟨X.x, 3, none⟩ (.int .i64 v)).cell? ⟨X.x, j, none⟩ = w.cell? ⟨X.x, j, none⟩ := fun j hj => World.cell?_setCell_other _ _ _ _ (fun e => hj (congrArg Addr.off e).symm)
  have o2 : ∀ j, (w.setCell ⟨X.x, 3, none⟩ (.int .i64 v)).cell? ⟨X.h, j, none⟩ = w.cell? ⟨X.h, j, none⟩ := fun j => World.cell?_setCell_other _ _ _ _ (fun e => h.ne (congrArg Addr.block e))
  exact ⟨(o 0 (by decide)).trans h.c0, (o 1 (by decide)).trans h.c1, (o 2 (by decide)).trans h.c2, World.cell?_setCell_same _ _ _ h.c3, fun b hb => (o2 b).trans (h.hd b hb), fun g j hg => by simpa using h.f g j hg, by simpa using h.lx, by simpa using h.lh, h.ne, h.nb⟩
theorem RxH.setHd {w : World} {ab : Nat} {X : XL} {hc : Nat} {x : XS} (h : RxH w ab X hc x) (b : Nat) (hb : b < x.nb) (v : Int) : RxH (w.setCell ⟨X.h, b, none⟩ (.int .u64 v)) ab X hc { x with hd := upd x.hd b v } := by
  have o : ∀ j, (w.setCell ⟨X.h, b, none⟩ (.int .u64 v)).cell? ⟨X.x, j, none⟩ = w.cell? ⟨X.x, j, none⟩ := fun j => World.cell?_setCell_other _ _ _ _ (fun e => h.ne (congrArg Addr.block e).symm)
  refine ⟨(o 0).trans h.c0, (o 1).trans h.c1, (o 2).trans h.c2, (o 3).trans h.c3, fun i hi => ?_, fun g j hg => by simpa using h.f g j hg, by simpa using h.lx, by simpa using h.lh, h.ne, h.nb⟩
  by_cases e : i = b
  · subst e
    show _ = some (Value.int _ (upd x.hd i v i))
    rw [upd_same]
    exact World.cell?_setCell_same _ _ _ (h.hd i hb)
  · show _ = some (Value.int _ (upd x.hd b v i))
    rw [upd_other _ _ e, World.cell?_setCell_other _ _ _ _ (fun e' => e (congrArg Addr.off e').symm)]
    exact h.hd i hi
/-- The document's arena and an index over it. -/
structure RC (w : World) (R : RL) (cap : Nat) (qv : Value) (Q : List Nat) (S : AS) (X : XL) (hc : Nat) (x : XS) : Prop where
  a : RAr w R cap qv Q S
  i : RxH w R.b X hc x
  d : ∀ g, X.has g → ¬ raF R qv S g
  c : x.cell < S.wd
def rcF (R : RL) (qv : Value) (S : AS) (X : XL) (g : Nat) : Prop := raF R qv S g ∨ X.has g
theorem RC.keeps {w w' : World} {R : RL} {cap : Nat} {qv : Value} {Q : List Nat} {S : AS} {X : XL} {hc : Nat} {x : XS} {D : Nat → Prop} (h : RC w R cap qv Q S X hc x) (k : Keeps D w w') (hn : ∀ g, rcF R qv S X g → ¬ D g) : RC w' R cap qv Q S X hc x :=
  ⟨h.a.keeps k (fun g hg => hn g (.inl hg)), h.i.keeps k (fun g hg => hn g (.inr hg)), h.d, h.c⟩
theorem RC.arn {w w' : World} {R : RL} {cap : Nat} {qv : Value} {Q : List Nat} {S S' : AS} {X : XL} {hc : Nat} {x : XS} (h : RC w R cap qv Q S X hc x) (ha : RAr w' R cap qv Q S') (k : Keeps (raF R qv S) w w') (hw : S'.wd = S.wd) (hs : ∀ g, raF R qv S' g → raF R qv S g) : RC w' R cap qv Q S' X hc x :=
  ⟨ha, h.i.keeps k (fun g hg => h.d g hg), fun g hg e => h.d g hg (hs g e), by rw [hw]; exact h.c⟩
theorem RC.ix {w w' : World} {R : RL} {cap : Nat} {qv : Value} {Q : List Nat} {S : AS} {X : XL} {hc : Nat} {x x' : XS} (h : RC w R cap qv Q S X hc x) (hx : RxH w' R.b X hc x') (k : Keeps X.has w w') (hcl : x'.cell = x.cell) : RC w' R cap qv Q S X hc x' :=
  ⟨h.a.keeps k (fun g hg e => h.d g e hg), hx, h.d, by rw [hcl]; exact h.c⟩
/-- The document's machine in its block, and the others. -/
structure RM (w : World) (R : RL) (cap : Nat) (qv : Value) (Q : List Nat) (S : AS) (X : XL) (hc : Nat) (x : XS) (mb : Nat) (c : Array Value) (t : TypeId) : Prop where
  h : RC w R cap qv Q S X hc x
  m : w.heap[mb]? = some (.cells c t)
  n : ¬ rcF R qv S X mb
section
variable {w w' : World} {R : RL} {cap : Nat} {qv : Value} {Q : List Nat} {S S' : AS} {X : XL} {hc : Nat} {x x' : XS} {mb : Nat} {c c' : Array Value} {t : TypeId}
theorem RM.cell (h : RM w R cap qv Q S X hc x mb c t) (j : Nat) : w.cell? ⟨mb, j, none⟩ = c[j]? := cell?_heap h.m j
theorem RM.fz (h : RM w R cap qv Q S X hc x mb c t) (j : Nat) : w.frozen? ⟨mb, j, none⟩ = false := frozen?_heap h.m j
/-- A call of the index. -/
theorem RM.callX (h : RM w R cap qv Q S X hc x mb c t) (hx : RxH w' R.b X hc x') (k : Keeps X.has w w') (hcl : x'.cell = x.cell) : RM w' R cap qv Q S X hc x' mb c t := ⟨h.h.ix hx k hcl, (k.block mb (Array.getElem?_eq_some_iff.1 h.m).1 (fun e => h.n (.inr e))).trans h.m, h.n⟩
theorem RM.own (h : RM w R cap qv Q S X hc x mb c t) (hm : w'.heap[mb]? = some (.cells c' t)) (k : Keeps (fun g => g = mb) w w') : RM w' R cap qv Q S X hc x mb c' t := ⟨h.h.keeps k (fun g hg e => h.n (by rw [← e]; exact hg)), hm, h.n⟩
theorem RM.set (h : RM w R cap qv Q S X hc x mb c t) (j : Nat) (v : Value) : RM (w.setCell ⟨mb, j, none⟩ v) R cap qv Q S X hc x mb (c.setIfInBounds j v) t ∧ Keeps (fun g => g = mb) w (w.setCell ⟨mb, j, none⟩ v) := ⟨h.own (heapSetC h.m j v) setB, setB⟩
end
abbrev mrF (R : RL) (qv : Value) (S : AS) (X : XL) (mb g : Nat) : Prop := rcF R qv S X g ∨ g = mb
end Go.Proofs.YteekompojgbkhaaGreat

namespace Go.Proofs.YteekompojgbkhaaGreat
open Go.ChangeShapes Go.WideShapes Go.ChangeAt Go.RowKit Go.MuLone Go.RwLone
set_option linter.unusedVariables false
set_option maxRecDepth 100000
set_option maxHeartbeats 3200000
abbrev rwlA (xb : Nat) (bk fr : Int) (wh lo : Bool) (nx sl : Int) (ov : Bool) (co : Int) : Array Value := #[.pointer (some ⟨xb, 0, none⟩), .int .i64 bk, .int .i64 fr, .bool wh, .bool lo, .int .i64 nx, .int .i64 sl, .bool ov, .int .i64 co]
/-- The document's Walk in its block. -/
def RwlH (w : World) (mb xb : Nat) (m : MW) : Prop := ∃ (bk fr : Int) (wh lo : Bool) (nx : Int), w.heap[mb]? = some (.cells (rwlA xb bk fr wh lo nx m.slot m.ended m.code) 237) ∧ (m.st = 0 → wh = true ∧ lo = false ∧ bk = m.src) ∧ (m.st = 1 → wh = false ∧ lo = false ∧ fr = m.src) ∧ (m.st = 2 → lo = true ∧ nx = m.pend ∧ ((wh = true ∧ m.own = 4097 + bk ∧ 0 ≤ bk ∧ bk ≤ 1000) ∨ (wh = false ∧ m.own = 0)))
/-- What is known of a walk. -/
def wlkOk (m : MW) : Prop := m.ended = decide (3 ≤ m.st) ∧ (m.st ≤ 2 → m.code = 0) ∧ (m.st ≤ 1 → m.slot = 0) ∧ (m.st = 1 → m.own = 0)
end Go.Proofs.YteekompojgbkhaaGreat

namespace Go.Proofs.YteekompojgbkhaaGreat
set_option linter.unusedSimpArgs false
open Go.ChangeShapes Go.WideShapes Go.ChangeAt Go.RowKit Go.MuLone Go.RwLone
set_option linter.unusedVariables false
set_option maxRecDepth 100000
set_option maxHeartbeats 3200000
theorem RM.kept {w w' : World} {R : RL} {cap : Nat} {qv : Value} {Q : List Nat} {S : AS} {X : XL} {hc : Nat} {x : XS} {mb : Nat} {c : Array Value} {t : TypeId} (h : RM w R cap qv Q S X hc x mb c t) (k : Keeps (fun g => g = mb) w w') : RC w' R cap qv Q S X hc x := h.h.keeps k (fun g hg e => h.n (by rw [← e]; exact hg))
def RstW (w : World) (R : RL) (cap : Nat) (qv : Value) (Q : List Nat) (X : XL) (hc : Nat) (mb : Nat) (S : AS) (p : Bool × CS × MW) (e : Ending) (w' : World) : Prop := e = .returned (.bool p.1) ∧ RC w' R cap qv Q p.2.1.S X hc p.2.1.x ∧ RwlH w' mb X.x p.2.2 ∧ Keeps (mrF R qv S X mb) w w'
end Go.Proofs.YteekompojgbkhaaGreat

namespace Go.Proofs.YteekompojgbkhaaGreat
set_option linter.unusedSimpArgs false
open Go.ChangeShapes Go.WideShapes Go.ChangeAt Go.RowKit Go.MuLone Go.RwLone
set_option linter.unusedVariables false
set_option maxRecDepth 100000
set_option maxHeartbeats 3200000
/-- A Remove, plain. st 0: it begins, 1: its own link is to be loaded, 2: marked, 3: the head, 4: the present one's link, 5: unlinked, 6: done. -/
structure MR where
  st : Nat
  co : Int
  bu : Int
  sl : Int
  wd : Int
  ah : Int
  pr : Int
  be : Int
  ma : Bool
  he : Int
def remF : Nat → Nat
  | 0 => 72
  | 1 => 125
  | 2 => 172
  | 3 => 171
  | 4 => 220
  | 5 => 224
  | _ => 134
abbrev remA (mb xb f : Nat) (co bu sl wd ah pr be : Int) (ma : Bool) (he : Int) : Array Value := #[nxV f mb, .int .i64 co, .pointer (some ⟨xb, 0, none⟩), .int .i64 bu, .int .i64 sl, .int .u64 wd, .int .i64 ah, .int .i64 pr, .int .i64 be, .bool ma, .int .i64 he]
def RemH (w : World) (mb xb : Nat) (m : MR) : Prop := w.heap[mb]? = some (.cells (remA mb xb (remF m.st) m.co m.bu m.sl m.wd m.ah m.pr m.be m.ma m.he) 155)
def mvR (m : MR) (n : Int) : Bool × MR := if 4096 < n then (true, { m with st := 6, co := 0 }) else (false, { m with pr := n, st := 4 })
def ownR (S : AS) (x : XS) (m : MR) : Bool × CS × MR := if liv S m.sl then (if S.word (atC S m.sl x.cell) = 0 then (true, ⟨acc1 S, x⟩, { m with st := 6, co := 42 }) else if S.word (atC S m.sl x.cell) % 2 == 1 then (false, ⟨acc1 S, x⟩, { m with st := 3 }) else (false, ⟨acc1 S, x⟩, { m with st := 2, wd := S.word (atC S m.sl x.cell) })) else (true, ⟨mis1 S, x⟩, { m with st := 6, co := 22 })
def ahR (S : AS) (x : XS) (bu ah u y : Int) : Bool × Int × CS := if ah = 0 then (if x.hd bu.toNat = u then (true, 0, ⟨S, { x.cn1 with hd := upd x.hd bu.toNat y }⟩) else (false, 0, ⟨S, x.cn1⟩)) else (if liv S ah then (if S.word (atC S ah x.cell) = u then (true, 0, ⟨put1 S (atC S ah x.cell) y, x⟩) else (false, 0, ⟨acc1 S, x⟩)) else (false, 22, ⟨mis1 S, x⟩))
def unlR (m : MR) (q : Bool × Int × CS) : Bool × CS × MR := if q.2.1 = 0 then (if q.1 then (if m.pr = m.sl then (true, q.2.2, { m with st := 6, co := 0 }) else ((mvR { m with he := wrap64 (m.he + 1) } m.be).1, q.2.2, (mvR { m with he := wrap64 (m.he + 1) } m.be).2)) else (false, q.2.2, { m with st := 3 })) else (true, q.2.2, { m with st := 6, co := q.2.1 })
def remP (S : AS) (x : XS) (m : MR) : Bool × CS × MR := match m.st with
  | 0 => if inB x m.bu then ownR S x m else (true, ⟨S, x⟩, { m with st := 6, co := 40 })
  | 1 => ownR S x m
  | 2 => if liv S m.sl then (if S.word (atC S m.sl x.cell) = m.wd then (false, ⟨put1 S (atC S m.sl x.cell) (2 * (m.wd / 2) + 1), x⟩, { m with st := 3, ma := true }) else (false, ⟨acc1 S, x⟩, { m with st := 1 })) else (true, ⟨mis1 S, x⟩, { m with st := 6, co := 22 })
  | 3 => ((mvR { m with ah := 0 } (x.hd m.bu.toNat / 2)).1, ⟨S, x.cn1⟩, (mvR { m with ah := 0 } (x.hd m.bu.toNat / 2)).2)
  | 4 => if liv S m.pr then (if S.word (atC S m.pr x.cell) / 2 = 0 then (true, ⟨acc1 S, x⟩, { m with st := 6, co := 42 }) else if S.word (atC S m.pr x.cell) % 2 == 1 then (false, ⟨acc1 S, x⟩, { m with st := 5, be := S.word (atC S m.pr x.cell) / 2 }) else ((mvR { m with ah := m.pr } (S.word (atC S m.pr x.cell) / 2)).1, ⟨acc1 S, x⟩, (mvR { m with ah := m.pr } (S.word (atC S m.pr x.cell) / 2)).2)) else (true, ⟨mis1 S, x⟩, { m with st := 6, co := 22 })
  | 5 => unlR m (ahR S x m.bu m.ah (2 * m.pr) (2 * m.be))
  | _ => (true, ⟨S, x⟩, m)
def StpR (w : World) (L : Lay) (Q : List Nat) (X : XL) (mb : Nat) (p : Bool × CS × MR) (e : Ending) (w' : World) : Prop := e = .returned (.bool p.1) ∧ CH w' L Q p.2.1.S X p.2.1.x ∧ RemH w' mb X.x p.2.2 ∧ Keeps (mkF L X mb) w w'
end Go.Proofs.YteekompojgbkhaaGreat

namespace Go.Proofs.YteekompojgbkhaaGreat
set_option linter.unusedSimpArgs false
open Go.ChangeShapes Go.WideShapes Go.ChangeAt Go.RowKit Go.MuLone Go.RwLone
set_option linter.unusedVariables false
set_option maxRecDepth 100000
set_option maxHeartbeats 3200000
/-- What is known of a Remove that has begun. -/
def remOk (x : XS) (m : MR) : Prop := (1 ≤ m.st → m.st ≤ 5 → inB x m.bu = true) ∧ (m.st = 2 → LkOk m.wd) ∧ (m.st = 5 → (0 ≤ m.pr ∧ m.pr ≤ 2147483647) ∧ (0 ≤ m.be ∧ m.be ≤ 2147483647))
end Go.Proofs.YteekompojgbkhaaGreat

namespace Go.Proofs.YteekompojgbkhaaGreat
set_option linter.unusedSimpArgs false
open Go.ChangeShapes Go.WideShapes Go.ChangeAt Go.RowKit Go.MuLone Go.RwLone
set_option linter.unusedVariables false
set_option maxRecDepth 100000
set_option maxHeartbeats 3200000
abbrev rrmA (xb : Nat) (bu sl at_ wv ah nw : Int) (dn : Bool) (co : Int) (ma : Bool) (he : Int) : Array Value := #[.pointer (some ⟨xb, 0, none⟩), .int .i64 bu, .int .i64 sl, .int .i64 at_, .int .u64 wv, .int .i64 ah, .int .i64 nw, .bool dn, .int .i64 co, .bool ma, .int .i64 he]
/-- The document's Remove in its block. -/
def RrmH (w : World) (mb xb : Nat) (m : MR) : Prop := ∃ (at_ wv ah nw : Int) (dn : Bool), w.heap[mb]? = some (.cells (rrmA xb m.bu m.sl at_ wv ah nw dn m.co m.ma m.he) 239) ∧ (m.st ≤ 5 → dn = false) ∧ (6 ≤ m.st → dn = true) ∧ (m.st ≤ 1 → at_ = 1) ∧ (2 ≤ m.st → m.st ≤ 5 → at_ = (m.st : Int)) ∧ (m.st = 2 → wv = m.wd ∧ m.wd % 2 = 0) ∧ (m.st = 4 ∨ m.st = 5 → ah = m.ah ∧ nw = m.pr) ∧ (m.st = 5 → LkOk wv ∧ m.be = wv / 2)
def RstR (w : World) (R : RL) (cap : Nat) (qv : Value) (Q : List Nat) (X : XL) (hc : Nat) (mb : Nat) (S : AS) (p : Bool × CS × MR) (e : Ending) (w' : World) : Prop := e = .returned (.bool p.1) ∧ RC w' R cap qv Q p.2.1.S X hc p.2.1.x ∧ RrmH w' mb X.x p.2.2 ∧ Keeps (mrF R qv S X mb) w w'
end Go.Proofs.YteekompojgbkhaaGreat

namespace Go.Proofs.YteekompojgbkhaaGreat
open Go.ChangeShapes Go.WideShapes Go.ChangeAt Go.RowKit Go.MuLone Go.RwLone
set_option linter.unusedVariables false
set_option maxRecDepth 100000
set_option maxHeartbeats 3200000
theorem RstR.ah {w : World} {R : RL} {cap : Nat} {qv : Value} {Q : List Nat} {X : XL} {hc mb : Nat} {S : AS} {r : Bool} {c : CS} {st : Nat} {co bu sl wd ah pr be : Int} {ma : Bool} {he : Int} {e : Ending} {w' : World} (h : RstR w R cap qv Q X hc mb S (r, c, ⟨st, co, bu, sl, wd, ah, pr, be, ma, he⟩) e w') (ah2 : Int) (hs : ¬ (st = 4 ∨ st = 5)) : RstR w R cap qv Q X hc mb S (r, c, ⟨st, co, bu, sl, wd, ah2, pr, be, ma, he⟩) e w' := by
  obtain ⟨h0, h1, ⟨a1, a2, a3, a4, a5, h2, p1, p2, p3, p4, p5, p6, p7⟩, k⟩ := h
  exact ⟨h0, h1, ⟨a1, a2, a3, a4, a5, h2, p1, p2, p3, p4, p5, fun e => absurd e hs, p7⟩, k⟩
end Go.Proofs.YteekompojgbkhaaGreat

namespace Go.Proofs.YteekompojgbkhaaGreat
open Go.ChangeShapes Go.WideShapes Go.ChangeAt Go.RowKit Go.MuLone Go.RwLone
set_option linter.unusedVariables false
/-- What the machines leave as it was. -/
def Same (S : AS) (x : XS) (c : CS) : Prop := c.S.n = S.n ∧ c.S.wd = S.wd ∧ c.S.use = S.use ∧ c.x.cell = x.cell ∧ c.x.nb = x.nb
theorem WdOk.put {S : AS} {x : XS} {i : Nat} {y : Int} (h : WdOk S x) (hy : LkOk y) : WdOk (put1 S i y) x := ⟨fun j => by
  show LkOk (upd S.word i y j)
  unfold upd
  split
  · exact hy
  · exact h.1 j, h.2⟩
theorem WdOk.head {S : AS} {x : XS} {b : Nat} {y : Int} (h : WdOk S x) (hy : LkOk y) : WdOk S { x.cn1 with hd := upd x.hd b y } := ⟨h.1, fun j hj => by
  show LkOk (upd x.hd b y j)
  unfold upd
  split
  · exact hy
  · exact h.2 j hj⟩
theorem WdOk.acc {S : AS} {x : XS} (h : WdOk S x) : WdOk (acc1 S) x := ⟨h.1, h.2⟩
theorem WdOk.mis {S : AS} {x : XS} (h : WdOk S x) : WdOk (mis1 S) x := ⟨h.1, h.2⟩
theorem WdOk.cn {S : AS} {x : XS} (h : WdOk S x) : WdOk S x.cn1 := ⟨h.1, h.2⟩
theorem liv_le {S : AS} {s : Int} (h : liv S s = true) (hn : S.n ≤ 4096) : 1 ≤ s ∧ s ≤ 4096 := by
  obtain ⟨k, h1, h2, -⟩ := liv_yes h
  omega
theorem ins_keep (S : AS) (x : XS) (m : MI) (h : WdOk S x) (hn : S.n ≤ 4096) (ho : insOk x m) (hd : m.st = 2 → LkOk m.hd) : WdOk (insP S x m).2.1.S (insP S x m).2.1.x ∧ insOk (insP S x m).2.1.x (insP S x m).2.2 ∧ ((insP S x m).2.2.st = 2 → LkOk (insP S x m).2.2.hd) ∧ Same S x (insP S x m).2.1 := by
  obtain ⟨st, code, bu, sl, hdv, tr⟩ := m
  match st with
  | 0 =>
    by_cases hb : inB x bu = true
    · by_cases hl : liv S sl = true
      · by_cases hz : S.word (atC S sl x.cell) = 0
        · have e : insP S x ⟨0, code, bu, sl, hdv, tr⟩ = (false, ⟨acc1 S, x⟩, ⟨1, code, bu, sl, hdv, tr⟩) := by
            show (if _ then _ else _) = _
            rw [if_pos hb, if_pos hl, if_pos hz]
          rw [e]
          exact ⟨h.acc, fun _ _ => ⟨hb, liv_le hl hn⟩, fun e => absurd e (show ¬ 1 = 2 by decide), rfl, rfl, rfl, rfl, rfl⟩
        · have e : insP S x ⟨0, code, bu, sl, hdv, tr⟩ = (true, ⟨acc1 S, x⟩, ⟨4, 41, bu, sl, hdv, tr⟩) := by
            show (if _ then _ else _) = _
            rw [if_pos hb, if_pos hl, if_neg hz]
          rw [e]
          exact ⟨h.acc, fun _ e => absurd e (show ¬ 4 ≤ 3 by decide), fun e => absurd e (show ¬ 4 = 2 by decide), rfl, rfl, rfl, rfl, rfl⟩
      · have e : insP S x ⟨0, code, bu, sl, hdv, tr⟩ = (true, ⟨mis1 S, x⟩, ⟨4, 22, bu, sl, hdv, tr⟩) := by
          show (if _ then _ else _) = _
          rw [if_pos hb, if_neg hl]
        rw [e]
        exact ⟨h.mis, fun _ e => absurd e (show ¬ 4 ≤ 3 by decide), fun e => absurd e (show ¬ 4 = 2 by decide), rfl, rfl, rfl, rfl, rfl⟩
    · have e : insP S x ⟨0, code, bu, sl, hdv, tr⟩ = (true, ⟨S, x⟩, ⟨4, 40, bu, sl, hdv, tr⟩) := by
        show (if _ then _ else _) = _
        rw [if_neg hb]
      rw [e]
      exact ⟨h, fun _ e => absurd e (show ¬ 4 ≤ 3 by decide), fun e => absurd e (show ¬ 4 = 2 by decide), rfl, rfl, rfl, rfl, rfl⟩
  | 1 =>
    have o := ho (show 1 ≤ 1 by decide) (show 1 ≤ 3 by decide)
    obtain ⟨b, hb1, hbb⟩ := inB_yes o.1
    have hbb : bu = (b : Int) := hbb
    exact ⟨h.cn, fun _ _ => o, fun _ => h.2 _ (by show bu.toNat < x.nb; omega), rfl, rfl, rfl, rfl, rfl⟩
  | 2 =>
    have o := ho (show 1 ≤ 2 by decide) (show 2 ≤ 3 by decide)
    by_cases hl : liv S sl = true
    · have e : insP S x ⟨2, code, bu, sl, hdv, tr⟩ = (false, ⟨put1 S (atC S sl x.cell) hdv, x⟩, ⟨3, code, bu, sl, hdv, tr⟩) := by
        show (if _ then _ else _) = _
        rw [if_pos hl]
      rw [e]
      exact ⟨h.put (hd rfl), fun _ _ => o, fun e => absurd e (show ¬ 3 = 2 by decide), rfl, rfl, rfl, rfl, rfl⟩
    · have e : insP S x ⟨2, code, bu, sl, hdv, tr⟩ = (true, ⟨mis1 S, x⟩, ⟨4, 22, bu, sl, hdv, tr⟩) := by
        show (if _ then _ else _) = _
        rw [if_neg hl]
      rw [e]
      exact ⟨h.mis, fun _ e => absurd e (show ¬ 4 ≤ 3 by decide), fun e => absurd e (show ¬ 4 = 2 by decide), rfl, rfl, rfl, rfl, rfl⟩
  | 3 =>
    have o := ho (show 1 ≤ 3 by decide) (show 3 ≤ 3 by decide)
    have o2 : 1 ≤ sl ∧ sl ≤ 4096 := o.2
    by_cases hu : x.hd bu.toNat = hdv
    · have e : insP S x ⟨3, code, bu, sl, hdv, tr⟩ = (true, ⟨S, { x.cn1 with hd := upd x.hd bu.toNat (2 * sl) }⟩, ⟨4, 0, bu, sl, hdv, tr⟩) := by
        show (if _ then _ else _) = _
        rw [if_pos hu]
      rw [e]
      exact ⟨h.head ⟨by omega, by omega⟩, fun _ e => absurd e (show ¬ 4 ≤ 3 by decide), fun e => absurd e (show ¬ 4 = 2 by decide), rfl, rfl, rfl, rfl, rfl⟩
    · have e : insP S x ⟨3, code, bu, sl, hdv, tr⟩ = (false, ⟨S, x.cn1⟩, ⟨1, code, bu, sl, hdv, wrap64 (tr + 1)⟩) := by
        show (if _ then _ else _) = _
        rw [if_neg hu]
      rw [e]
      exact ⟨h.cn, fun _ _ => o, fun e => absurd e (show ¬ 1 = 2 by decide), rfl, rfl, rfl, rfl, rfl⟩
  | n + 4 => exact ⟨h, ho, fun e => absurd e (show ¬ n + 4 = 2 by omega), rfl, rfl, rfl, rfl, rfl⟩
end Go.Proofs.YteekompojgbkhaaGreat
