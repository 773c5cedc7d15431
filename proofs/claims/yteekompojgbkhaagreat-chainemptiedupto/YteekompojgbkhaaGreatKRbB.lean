import Derived.Test.YteekompojgbkhaaGreatKRbC
import Derived.Test.YteekompojgbkhaaGreatKChG
namespace Go.Proofs.YteekompojgbkhaaGreat
set_option linter.unusedSimpArgs false
open Go.ChangeShapes Go.WideShapes Go.ChangeAt Go.RowKit Go.MuLone Go.RwLone
set_option linter.unusedVariables false
set_option maxRecDepth 100000
set_option maxHeartbeats 3200000
abbrev rinA (xb : Nat) (bu sl at_ hd : Int) (dn : Bool) (co tr : Int) : Array Value := #[.pointer (some ⟨xb, 0, none⟩), .int .i64 bu, .int .i64 sl, .int .i64 at_, .int .u64 hd, .bool dn, .int .i64 co, .int .i64 tr]
/-- The document's Insert in its block. -/
def RinH (w : World) (mb xb : Nat) (m : MI) : Prop := ∃ (at_ : Int) (dn : Bool), w.heap[mb]? = some (.cells (rinA xb m.bu m.sl at_ m.hd dn m.code m.tr) 235) ∧ (m.st < 4 → at_ = (m.st : Int) + 1 ∧ dn = false) ∧ (4 ≤ m.st → dn = true)
def RstI (w : World) (R : RL) (cap : Nat) (qv : Value) (Q : List Nat) (X : XL) (hc : Nat) (mb : Nat) (S : AS) (p : Bool × CS × MI) (e : Ending) (w' : World) : Prop := e = .returned (.bool p.1) ∧ RC w' R cap qv Q p.2.1.S X hc p.2.1.x ∧ RinH w' mb X.x p.2.2 ∧ Keeps (mrF R qv S X mb) w w'
end Go.Proofs.YteekompojgbkhaaGreat
