import Derived.Test.YteekompojgbkhaaGreatKReB
namespace Go.Proofs.YteekompojgbkhaaGreat
open Go.ChangeShapes Go.WideShapes Go.ChangeAt Go.RowKit Go.MuLone Go.RwLone
set_option linter.unusedVariables false
set_option maxRecDepth 100000
set_option maxHeartbeats 6400000
def wdsL (S : AS) (k t : Nat) : List Int := (List.range t).map (fun j => S.word (k * S.wd + j))
end Go.Proofs.YteekompojgbkhaaGreat

namespace Go.Proofs.YteekompojgbkhaaGreat
open Go.ChangeShapes Go.WideShapes Go.ChangeAt Go.RowKit Go.MuLone Go.RwLone
set_option linter.unusedVariables false
set_option maxRecDepth 100000
set_option maxHeartbeats 6400000
def lenV : Value → Nat | .slice _ n _ => n | _ => 0
/-- What the document's Row holds when it stands at number n. -/
structure RoW (w wr : World) (S : AS) (c : Nat) (n0 n : Int) (lv mv : Value) (pre : List (Int × Bool)) : Prop where
  n1 : 0 ≤ n
  n2 : n ≤ 2147483647
  e : rowL S c 4096 n0 = pre ++ rowL S c (4096 - pre.length) n
  l : pre.length ≤ 4096
  ol : OwI wr w.heap.size lv (pre.map (fun p => p.1))
  om : OwB wr w.heap.size mv (pre.map (fun p => p.2))
  b : Below w.heap.size w wr
theorem RoW.end {w wr : World} {S : AS} {c : Nat} {n0 n : Int} {lv mv : Value} {pre : List (Int × Bool)} (h : RoW w wr S c n0 n lv mv pre) (hn : liv S n = false ∨ pre.length = 4096) : rowL S c 4096 n0 = pre := by
  rcases hn with e | e
  · rw [h.e, rowL_no e, List.append_nil]
  · rw [h.e, e]
    exact List.append_nil _
theorem RoW.step {w wr : World} {S : AS} {c : Nat} {n0 n : Int} {lv mv : Value} {pre : List (Int × Bool)} (h : RoW w wr S c n0 n lv mv pre) (hl : liv S n = true) (hp : pre.length < 4096) : rowL S c 4096 n0 = (pre ++ [(n, S.word (atC S n c) % 2 == 1)]) ++ rowL S c (4096 - (pre ++ [(n, S.word (atC S n c) % 2 == 1)]).length) (S.word (atC S n c) / 2) := by
  rw [h.e, show 4096 - pre.length = (4096 - (pre.length + 1)) + 1 from by omega, rowL_yes hl, List.append_assoc, List.length_append]
  rfl
end Go.Proofs.YteekompojgbkhaaGreat
