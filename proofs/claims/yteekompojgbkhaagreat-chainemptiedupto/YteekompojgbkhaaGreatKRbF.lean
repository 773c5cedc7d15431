import Derived.Test.YteekompojgbkhaaGreatKChJ
import Derived.Test.YteekompojgbkhaaGreatKChL
namespace Go.Proofs.YteekompojgbkhaaGreat
set_option linter.unusedSimpArgs false
open Go.ChangeShapes Go.WideShapes Go.ChangeAt Go.RowKit Go.MuLone Go.RwLone
set_option linter.unusedVariables false
set_option maxRecDepth 100000
set_option maxHeartbeats 3200000
abbrev rrmA (xb : Nat) (bu sl at_ wv ah nw : Int) (dn : Bool) (co : Int) (ma : Bool) (he : Int) : Array Value := #[.pointer (some ⟨xb, 0, none⟩), .int .i64 bu, .int .i64 sl, .int .i64 at_, .int .u64 wv, .int .i64 ah, .int .i64 nw, .bool dn, .int .i64 co, .bool ma, .int .i64 he]
/-- The document's Remove in its block. -/
def RrmH (w : World) (mb xb : Nat) (m : MR) : Prop := ∃ (at_ wv ah nw : Int) (dn : Bool), w.heap[mb]? = some (.cells (rrmA xb m.bu m.sl at_ wv ah nw dn m.co m.ma m.he) 239) ∧ (m.st ≤ 5 → dn = false) ∧ (6 ≤ m.st → dn = true) ∧ (m.st ≤ 1 → at_ = 1) ∧ (2 ≤ m.st → m.st ≤ 5 → at_ = (m.st : Int)) ∧ (m.st = 2 → wv = m.wd ∧ m.wd % 2 = 0) ∧ (m.st = 4 ∨ m.st = 5 → ah = m.ah ∧ nw = m.pr) ∧ (m.st = 5 → LkOk wv ∧ m.be = wv / 2)
def RstR (w : World) (R : RL) (cap : Nat) (qv : Value) (Q : List Nat) (X : XL) (hc : Nat) (mb : Nat) (S : AS) (p : Bool × CS × MR) (e : Ending) (w' : World) : Prop := e = .returned (.bool p.1) ∧ RC w' R cap qv Q p.2.1.S X hc p.2.1.x ∧ RrmH w' mb X.x p.2.2 ∧ Keeps (mrF R qv S X mb) w w'
end Go.Proofs.YteekompojgbkhaaGreat
