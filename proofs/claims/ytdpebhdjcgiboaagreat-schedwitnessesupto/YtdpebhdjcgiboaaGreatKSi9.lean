import Derived.Test.YtdpebhdjcgiboaaGreatKSnB
import Derived.LaidEqlPtr
import Derived.Lib.Builder
import Derived.Test.YtdpebhdjcgiboaaGreatKSi8
namespace Go.Proofs.YtdpebhdjcgiboaaGreat
set_option linter.unusedSimpArgs false
open Go.ChangeShapes Go.WideShapes Go.ChangeAt Go.RowKit Go.MuLone Go.RwLone
set_option linter.unusedVariables false
set_option maxRecDepth 100000
set_option maxHeartbeats 6400000
end Go.Proofs.YtdpebhdjcgiboaaGreat

namespace Go.Proofs.YtdpebhdjcgiboaaGreat
set_option linter.unusedSimpArgs false
open Go.ChangeShapes Go.WideShapes Go.ChangeAt Go.RowKit Go.MuLone Go.RwLone
set_option linter.unusedVariables false
set_option maxRecDepth 100000
set_option maxHeartbeats 6400000
end Go.Proofs.YtdpebhdjcgiboaaGreat

namespace Go.Proofs.YtdpebhdjcgiboaaGreat
set_option linter.unusedSimpArgs false
open Go.ChangeShapes Go.WideShapes Go.ChangeAt Go.RowKit Go.MuLone Go.RwLone
set_option linter.unusedVariables false
set_option maxRecDepth 100000
set_option maxHeartbeats 6400000
section
variable {w w' : World} {G H P Q : Nat → Prop} {B : Bd} {bb b1 b2 : Nat} {tv : Value} {R : Rd} {r1 r2 hb qb rb sb : Nat} {a0 : Hp} {pa ra : Hp × Ls}
end
end Go.Proofs.YtdpebhdjcgiboaaGreat

namespace Go.Proofs.YtdpebhdjcgiboaaGreat
set_option linter.unusedSimpArgs false
open Go.ChangeShapes Go.WideShapes Go.ChangeAt Go.RowKit Go.MuLone Go.RwLone
set_option linter.unusedVariables false
set_option maxRecDepth 100000
set_option maxHeartbeats 6400000
/-- Rows of pointers to threads, some of them nil. -/
def ptC (x : Option Addr) : List Value := [.pointer x]
abbrev OwN (w : World) (B : Nat) (v : Value) (xs : List (Option Addr)) : Prop := OwG ptC 31 1 w B v xs
def ptL (T : Nat → Nat) (ms : List Nat) : List (Option Addr) := ms.map (fun m => some ⟨T m, 0, none⟩)
end Go.Proofs.YtdpebhdjcgiboaaGreat

namespace Go.Proofs.YtdpebhdjcgiboaaGreat
set_option linter.unusedSimpArgs false
open Go.ChangeShapes Go.WideShapes Go.ChangeAt Go.RowKit Go.MuLone Go.RwLone
set_option linter.unusedVariables false
set_option maxRecDepth 100000
set_option maxHeartbeats 6400000
end Go.Proofs.YtdpebhdjcgiboaaGreat

namespace Go.Proofs.YtdpebhdjcgiboaaGreat
set_option linter.unusedSimpArgs false
open Go.ChangeShapes Go.WideShapes Go.ChangeAt Go.RowKit Go.MuLone Go.RwLone
set_option linter.unusedVariables false
set_option maxRecDepth 100000
set_option maxHeartbeats 6400000
end Go.Proofs.YtdpebhdjcgiboaaGreat

namespace Go.Proofs.YtdpebhdjcgiboaaGreat
set_option linter.unusedSimpArgs false
open Go.ChangeShapes Go.WideShapes Go.ChangeAt Go.RowKit Go.MuLone Go.RwLone
set_option linter.unusedVariables false
set_option maxRecDepth 100000
set_option maxHeartbeats 6400000
end Go.Proofs.YtdpebhdjcgiboaaGreat

namespace Go.Proofs.YtdpebhdjcgiboaaGreat
set_option linter.unusedSimpArgs false
open Go.ChangeShapes Go.WideShapes Go.ChangeAt Go.RowKit Go.MuLone Go.RwLone
set_option linter.unusedVariables false
set_option maxRecDepth 100000
set_option maxHeartbeats 6400000
/-- Five rows of events, one behind the other. -/
structure E5 (W : World) (n0 n1 n2 n3 n4 n5 : Nat) (x1 k1 : Option Addr × Nat) (x3 x4 x5 : Option Addr × Nat) (E D : List Ev4) : Prop where
  o1 : OwE W n0 (.slice x1.1 E.length x1.2) E
  o2 : OwE W n1 (.slice k1.1 E.length k1.2) E
  o3 : OwE W n2 (.slice x3.1 D.length x3.2) D
  o4 : OwE W n3 (.slice x4.1 E.length x4.2) E
  o5 : OwE W n4 (.slice x5.1 D.length x5.2) D
end Go.Proofs.YtdpebhdjcgiboaaGreat

namespace Go.Proofs.YtdpebhdjcgiboaaGreat
set_option linter.unusedSimpArgs false
open Go.ChangeShapes Go.WideShapes Go.ChangeAt Go.RowKit Go.MuLone Go.RwLone
set_option linter.unusedVariables false
set_option maxRecDepth 100000
set_option maxHeartbeats 6400000
end Go.Proofs.YtdpebhdjcgiboaaGreat

namespace Go.Proofs.YtdpebhdjcgiboaaGreat
set_option linter.unusedSimpArgs false
open Go.ChangeShapes Go.WideShapes Go.ChangeAt Go.RowKit Go.MuLone Go.RwLone
set_option linter.unusedVariables false
set_option maxRecDepth 100000
set_option maxHeartbeats 6400000
end Go.Proofs.YtdpebhdjcgiboaaGreat

namespace Go.Proofs.YtdpebhdjcgiboaaGreat
set_option linter.unusedSimpArgs false
open Go.ChangeShapes Go.WideShapes Go.ChangeAt Go.RowKit Go.MuLone Go.RwLone
set_option linter.unusedVariables false
set_option maxRecDepth 100000
set_option maxHeartbeats 6400000
end Go.Proofs.YtdpebhdjcgiboaaGreat

namespace Go.Proofs.YtdpebhdjcgiboaaGreat
set_option linter.unusedSimpArgs false
open Go.ChangeShapes Go.WideShapes Go.ChangeAt Go.RowKit Go.MuLone Go.RwLone
set_option linter.unusedVariables false
set_option maxRecDepth 100000
set_option maxHeartbeats 6400000
/-- A row that lies at a, written full of p, and a list that has grown upon it. -/
structure Gr (w : World) (a : Option Addr) (n : Nat) (p : Int) (c : Value) (zs : List Int) : Prop where
  o : OwW w 0 c zs
  l : n ≤ zs.length
  z : ∀ j, j < n → zs[j]? = some p
  g : ∀ g, a = some ⟨g, 0, none⟩ → g < w.heap.size ∧ (c.ownBlock = some g ∨ (c.ownBlock ≠ some g ∧ ∀ j, j < n → w.cell? ⟨g, j, none⟩ = some (.int .u64 p)))
/-- Where it lies. -/
def Cx (a : Option Addr) (c : Value) (x : Nat) : Prop := c.ownBlock = some x ∨ a = some ⟨x, 0, none⟩
end Go.Proofs.YtdpebhdjcgiboaaGreat

namespace Go.Proofs.YtdpebhdjcgiboaaGreat
open Go.ChangeShapes Go.WideShapes Go.ChangeAt Go.RowKit Go.MuLone Go.RwLone
set_option linter.unusedVariables false
set_option maxRecDepth 100000
set_option maxHeartbeats 6400000
/-- Two rows and what has grown upon them. -/
structure Gp (w wr : World) (D : Nat → Prop) (a1 a2 : Option Addr) (n1 n2 : Nat) (c r : Value) (zs us : List Int) (t1 t2 : Nat) : Prop where
  g1 : Gr wr a1 n1 1000 c zs
  g2 : Gr wr a2 n2 2000 r us
  l1 : zs.length = n1 + t1
  l2 : us.length = n2 + t2
  e1 : t1 = 0 ∨ zs[n1 + t1 - 1]? = some 3000
  e2 : t2 = 0 ∨ us[n2 + t2 - 1]? = some 4000
  dj : ∀ x, Cx a1 c x → ¬ Cx a2 r x
  f1 : ∀ x, Cx a1 c x → D x ∨ w.heap.size ≤ x
  f2 : ∀ x, Cx a2 r x → D x ∨ w.heap.size ≤ x
  k : Keeps D w wr
def vC (v : Value) : List Value := [v]
end Go.Proofs.YtdpebhdjcgiboaaGreat

namespace Go.Proofs.YtdpebhdjcgiboaaGreat
open Go.ChangeShapes Go.WideShapes Go.ChangeAt Go.RowKit Go.MuLone Go.RwLone
set_option linter.unusedVariables false
set_option maxRecDepth 100000
set_option maxHeartbeats 6400000
end Go.Proofs.YtdpebhdjcgiboaaGreat

namespace Go.Proofs.YtdpebhdjcgiboaaGreat
open Go.ChangeShapes Go.WideShapes Go.ChangeAt Go.RowKit Go.MuLone Go.RwLone
set_option linter.unusedVariables false
set_option maxRecDepth 100000
set_option maxHeartbeats 6400000
def outE (cs : List Int) (tl : List (List I8)) : Int := if soundP cs tl = true then 0 else 35
theorem below_keeps {w w' : World} (b : Below w.heap.size w w') : Keeps (fun _ => False) w w' := ⟨b.os, b.tape, b.output, b.size, fun x hx _ => b.block x hx⟩
/-- What the program's Lay answers; the document's. -/
def LayP (w : World) (G : Nat → Prop) (o : Option Addr) (cs : List Int) (ts : List (List I8)) : Prop :=
  (soundP cs ts = false ∧ o = none) ∨ (soundP cs ts = true ∧ ∃ B bb hb qb tv, o = some ⟨bb, 0, none⟩ ∧ BdOk B ∧ B.n = ts.length ∧ B.wd = cs.length ∧ B.ins = insL ts ∧ BnF w G B bb hb qb tv (begA cs ts))
def LayR (w : World) (H : Nat → Prop) (p : Option Addr) (cs : List Int) (ts : List (List I8)) : Prop :=
  (soundP cs ts = false ∧ p = none) ∨ (soundP cs ts = true ∧ ∃ R hb qb, p = some ⟨R.bk, 0, none⟩ ∧ RdOk R ∧ R.n = ts.length ∧ R.wd = cs.length ∧ R.ins = insL ts ∧ BsF w H R hb qb (begA cs ts))
end Go.Proofs.YtdpebhdjcgiboaaGreat

namespace Go.Proofs.YtdpebhdjcgiboaaGreat
open Go.ChangeShapes Go.WideShapes Go.ChangeAt Go.RowKit Go.MuLone Go.RwLone
set_option linter.unusedVariables false
set_option maxRecDepth 100000
set_option maxHeartbeats 6400000
/-- An operation of a script, as it is handed in. -/
structure Opx where
  kd : Int
  wh : Int
  tg : Int
  nn : Int
  pv : Value
  vs : List (Int × Int × Int)
  mv : Value
  ks : List Int
def opL (o : Opx) : List Value := [.int .i64 o.kd, .int .i64 o.wh, .int .i64 o.tg, .int .i64 o.nn, o.pv, o.mv]
structure OpOk (w : World) (C : Nat) (o : Opx) : Prop where
  p : InG pkC w C o.pv o.vs
  m : InG inZ w C o.mv o.ks
  pl : o.vs.length ≤ 1048576
  ml : o.ks.length ≤ 1048576
  n : o.nn ≤ 9223372036854775807
  q : ∀ p ∈ o.vs, p.2.2 ≤ 9223372036854775807
section
variable (w : World) (G H P Q : Nat → Prop) (B : Bd) (bb b1 b2 : Nat) (tv : Value) (R : Rd) (r1 r2 hb qb rb sb sd : Nat) (a0 : Hp) (a : Hp × Ls) (ts : List (List I8)) (wd c nw : Nat) (p : PSt w G H P Q B bb b1 b2 tv R r1 r2 hb qb rb sb sd a0 a ts wd c nw) (hc : c ≤ 1000000000) (C : Nat) (hU : ∀ y, U4 G H P Q y → C ≤ y) (hC : C ≤ w.heap.size) (o : Opx) (ho : OpOk w C o)
end
end Go.Proofs.YtdpebhdjcgiboaaGreat

namespace Go.Proofs.YtdpebhdjcgiboaaGreat
open Go.ChangeShapes Go.WideShapes Go.ChangeAt Go.RowKit Go.MuLone Go.RwLone
set_option linter.unusedVariables false
set_option maxRecDepth 100000
set_option maxHeartbeats 6400000
/-- What a run of any program tells. -/
def outX (cs : List Int) (tl : List (List I8)) (vs : List (Int × Int × Int)) : List Int := if soundP cs tl = true then wlL (endA cs tl vs).2.wo cs.length else []
def outY (cs : List Int) (tl : List (List I8)) (vs : List (Int × Int × Int)) : List Int := if soundP cs tl = true then regsL (endA cs tl vs).2.rg tl.length else []
/-- The document's Run, of any program. -/
theorem rrunU (w : World) (C : Nat) (ca : Option Addr) (cc : Nat) (ta : Option Addr) (tc : Nat) (tvf : Nat → Value) (cs : List Int) (tl : List (List I8)) (h : LitG w C ca cc ta tc tvf cs tl) (hC : C ≤ w.heap.size) (s : ByteArray) (hs : s.size ≤ 1048576) :
    Calls Tryz.prog 26 #[.agg (litC ca cs.length cc ta tl.length tc), .string s] w fun e w' => ∃ c1 k1 c2 k2, e = .returned (.tuple #[.agg #[.slice c1 (outX cs tl (dL s.data.toList)).length k1, .slice c2 (outY cs tl (dL s.data.toList)).length k2], .int .i64 (outE cs tl)]) ∧ OwW w' w.heap.size (.slice c1 (outX cs tl (dL s.data.toList)).length k1) (outX cs tl (dL s.data.toList)) ∧ OwW w' w.heap.size (.slice c2 (outY cs tl (dL s.data.toList)).length k2) (outY cs tl (dL s.data.toList)) ∧ Below w.heap.size w w' := by
  unfold outX outY outE
  by_cases hsd : soundP cs tl = true
  · rw [if_pos hsd, if_pos hsd, if_pos hsd]
    exact rrunG w C ca cc ta tc tvf cs tl h hC hsd s hs
  · rw [if_neg hsd, if_neg hsd, if_neg hsd]
    refine (rrun_no w C ca cc ta tc tvf cs tl h hC (by simpa using hsd) s).mono ?_
    rintro e w' ⟨rfl, b⟩
    exact ⟨none, 0, none, 0, rfl, OwG.nil _ _ _ _ _, OwG.nil _ _ _ _ _, b⟩
end Go.Proofs.YtdpebhdjcgiboaaGreat
