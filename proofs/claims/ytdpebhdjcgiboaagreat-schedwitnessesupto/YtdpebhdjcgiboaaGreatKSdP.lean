import Derived.Test.YtdpebhdjcgiboaaGreatKSdH
namespace Go.Proofs.YtdpebhdjcgiboaaGreat
open Go.ChangeShapes Go.WideShapes Go.ChangeAt Go.RowKit Go.MuLone Go.RwLone
set_option linter.unusedVariables false
set_option maxRecDepth 100000
set_option maxHeartbeats 3200000
/-- Where a bench's things lie: blocks below B. -/
structure Ad where
  B : Nat
  L : Lay
  hb : Nat
  qb : Nat
  n : Nat
  pb : Nat → Nat
  T : Nat → Nat
  ib : Nat → Nat
  cp : Nat → Nat
  cap : Nat → Nat
structure Ly (A : Ad) : Prop where
  n4 : 1 ≤ A.n ∧ A.n ≤ 4
  ap : ∀ i, i < A.n → Ap A.L (A.T i) (A.ib i) A.hb A.qb (A.pb i) A.B
  TT : ∀ i k, i < A.n → k < A.n → i ≠ k → A.T i ≠ A.T k
  pp : ∀ i k, i < A.n → k < A.n → i ≠ k → A.pb i ≠ A.pb k
  Tp : ∀ i k, i < A.n → k < A.n → A.T i ≠ A.pb k
  ip : ∀ i k, i < A.n → k < A.n → A.ib i ≠ A.pb k
  iT : ∀ i k, i < A.n → k < A.n → A.ib i ≠ A.T k
  cp : ∀ i, i < A.n → 1 ≤ A.cp i ∧ A.cp i ≤ 9223372036854775807
/-- How many are not done. -/
def left (dn : Nat → Bool) (n : Nat) : Nat := (List.range n).countP (fun i => !dn i)
/-- The word that thread i swaps in. -/
def nw (x0 : Int) (i : Nat) : Int := (x0 + 1 + (i : Int)) % 18446744073709551616
/-- The bench of swaps. -/
structure Fw (w : World) (A : Ad) (x0 : Int) (dn : Nat → Bool) (S : AS) (rg : Nat → Nat → Int) (st : Int) (ev en : Value) (es : List (Int × Int × Int × Int)) (ts : List Nat) : Prop where
  hd : Holds w A.L S
  hr : Hr w A.hb A.qb A.n A.pb (fun i => if dn i then 0 else 1) A.cp st ev en
  th : ∀ i, i < A.n → Th w (A.T i) A.L (A.ib i) 1 (A.cap i) (rg i) (if dn i then 1 else 0)
  ins : ∀ i, i < A.n → In8 w (A.ib i) 0 3 ((1 : Nat) : Int) ((2 : Nat) : Int) (-1) (nw x0 i) (-1) x0 0
  pl : ∀ i, i < A.n → dn i = false → w.cell? ⟨A.pb i, 0, none⟩ = some (.pointer (some ⟨A.T i, 0, none⟩)) ∧ w.cell? ⟨A.pb i, 1, none⟩ = some (.int .i64 (i : Int)) ∧ w.cell? ⟨A.pb i, 2, none⟩ = some (.bool false)
  pf : ∀ i, i < A.n → dn i = false → ∀ j, w.frozen? ⟨A.pb i, j, none⟩ = false
  oe : OwE w A.B ev es
  ot : OwT w A.B en ts
  bs : A.B ≤ w.heap.size
  s1 : S.rc = 0
  s2 : S.n = 1
  s3 : S.use 0 = true
  s4 : S.wd = 2
  s5 : S.g0 = 0
  el : es.length = 2 * ts.length
  tl : ts.length + left dn A.n = A.n
/-- Who won. -/
def Won (x0 : Int) (dn : Nat → Bool) (n : Nat) (S : AS) (rg : Nat → Nat → Int) : Prop :=
  S.word 0 = 7 ∧ (((∀ i, i < n → dn i = false) ∧ S.word 1 = x0 ∧ ∀ i, i < n → rg i 2 = 0) ∨ ∃ v, v < n ∧ dn v = true ∧ S.word 1 = nw x0 v ∧ ∀ i, i < n → rg i 2 = if i = v then 1 else 0)
/-- What a bench's steps may touch. -/
def Tc (A : Ad) (x : Nat) : Prop := ∃ i, i < A.n ∧ Mv A.L (A.T i) A.hb A.qb (A.pb i) A.B x
end Go.Proofs.YtdpebhdjcgiboaaGreat

namespace Go.Proofs.YtdpebhdjcgiboaaGreat
open Go.ChangeShapes Go.WideShapes Go.ChangeAt Go.RowKit Go.MuLone Go.RwLone
set_option linter.unusedVariables false
set_option maxRecDepth 100000
set_option maxHeartbeats 3200000
/-- The bench of swaps, whatever was played of it. -/
def Bn (w : World) (A : Ad) (x0 : Int) (dn : Nat → Bool) : Prop := ∃ S rg st ev en es ts, Fw w A x0 dn S rg st ev en es ts ∧ Won x0 dn A.n S rg
/-- What playing may touch. -/
structure Fm (A : Ad) (w w' : World) : Prop where
  k : Keeps (Tc A) w w'
  f : ∀ (k : Nat) (c : Array Value) (t : TypeId) (f : Nat × Nat), A.B ≤ k → w.heap[k]? = some (.cells c t f) → t ≠ 36 → t ≠ 31 → t ≠ 114 → w'.heap[k]? = w.heap[k]?
theorem Bn.size {w : World} {A : Ad} {x0 : Int} {dn : Nat → Bool} (h : Bn w A x0 dn) : A.B ≤ w.heap.size := by
  obtain ⟨S, rg, st, ev, en, es, ts, h, hW⟩ := h
  exact h.bs
/-- A play in its block g, with lf steps left. -/
structure Pl (w : World) (A : Ad) (x0 : Int) (g lf : Nat) (dn : Nat → Bool) : Prop where
  bn : Bn w A x0 dn
  gb : w.heap[g]? = some (.cells #[.pointer (some ⟨A.hb, 0, none⟩), .int .i64 (lf : Int)] 114)
  b : A.B ≤ g
  l : left dn A.n ≤ lf
  m : lf ≤ 1000000
end Go.Proofs.YtdpebhdjcgiboaaGreat

namespace Go.Proofs.YtdpebhdjcgiboaaGreat
open Go.ChangeShapes Go.WideShapes Go.ChangeAt Go.RowKit Go.MuLone Go.RwLone
set_option linter.unusedVariables false
set_option maxRecDepth 100000
set_option maxHeartbeats 3200000
end Go.Proofs.YtdpebhdjcgiboaaGreat

namespace Go.Proofs.YtdpebhdjcgiboaaGreat
open Go.ChangeShapes Go.WideShapes Go.ChangeAt Go.RowKit Go.MuLone Go.RwLone
set_option linter.unusedVariables false
set_option maxRecDepth 100000
set_option maxHeartbeats 3200000
/-- Some of a bench was played. -/
def Went (A : Ad) (x0 : Int) (g : Nat) (dn : Nat → Bool) (w w' : World) : Prop := ∃ dn' lf', Pl w' A x0 g lf' dn' ∧ Fm A w w' ∧ ∀ k, dn k = true → dn' k = true
end Go.Proofs.YtdpebhdjcgiboaaGreat

namespace Go.Proofs.YtdpebhdjcgiboaaGreat
open Go.ChangeShapes Go.WideShapes Go.ChangeAt Go.RowKit Go.MuLone Go.RwLone
set_option linter.unusedVariables false
set_option maxRecDepth 100000
set_option maxHeartbeats 3200000
end Go.Proofs.YtdpebhdjcgiboaaGreat

namespace Go.Proofs.YtdpebhdjcgiboaaGreat
open Go.ChangeShapes Go.WideShapes Go.ChangeAt Go.RowKit Go.MuLone Go.RwLone
set_option linter.unusedVariables false
set_option maxRecDepth 100000
set_option maxHeartbeats 3200000
/-- The world behind the box of a pick. -/
abbrev pkW (w : World) (k x n : Int) : World := w.alloc (.cells #[.int .i64 k, .int .i64 x, .int .i64 n] 110)
/-- What a pick leaves. -/
def Picked (A : Ad) (x0 : Int) (g : Nat) (dn : Nat → Bool) (k : Int) (w w' : World) : Prop := ∃ dn' lf', Pl w' A x0 g lf' dn' ∧ Fm A w w' ∧ (∀ i, dn i = true → dn' i = true) ∧ (k = 6 → ∀ i, i < A.n → dn' i = true)
end Go.Proofs.YtdpebhdjcgiboaaGreat

namespace Go.Proofs.YtdpebhdjcgiboaaGreat
open Go.ChangeShapes Go.WideShapes Go.ChangeAt Go.RowKit Go.MuLone Go.RwLone
set_option linter.unusedVariables false
set_option maxRecDepth 100000
set_option maxHeartbeats 3200000
/-- A row of picks in a block from B on. -/
def PkS (w : World) (A : Ad) (v : Value) (vs : List (Int × Int × Int)) : Prop :=
  ∃ ao cap, v = .slice ao vs.length cap ∧ vs.length ≤ 140737488355328 ∧ (∀ p ∈ vs, p.2.2 ≤ 9223372036854775807) ∧ ∀ i (hi : i < vs.length), ∃ b off c f, ao = some ⟨b, off, none⟩ ∧ A.B ≤ b ∧ w.heap[b]? = some (.cells c 110 f) ∧ c[off + i * 3]? = some (.int .i64 vs[i].1) ∧ c[off + i * 3 + 1]? = some (.int .i64 vs[i].2.1) ∧ c[off + i * 3 + 2]? = some (.int .i64 vs[i].2.2)
abbrev plW (w : World) (A : Ad) (bd : Nat) : World := w.alloc (.cells #[.pointer (some ⟨A.hb, 0, none⟩), .int .i64 (bd : Int)] 114)
end Go.Proofs.YtdpebhdjcgiboaaGreat

namespace Go.Proofs.YtdpebhdjcgiboaaGreat
open Go.ChangeShapes Go.WideShapes Go.ChangeAt Go.RowKit Go.MuLone Go.RwLone
set_option linter.unusedVariables false
set_option maxRecDepth 100000
set_option maxHeartbeats 3200000
end Go.Proofs.YtdpebhdjcgiboaaGreat
