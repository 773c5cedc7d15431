import Derived.Test.YteekompojgbkhaaGreatKRbC
namespace Go.Proofs.YteekompojgbkhaaGreat
set_option linter.unusedSimpArgs false
open Go.ChangeShapes Go.WideShapes Go.ChangeAt Go.RowKit Go.MuLone Go.RwLone
set_option linter.unusedVariables false
set_option maxRecDepth 100000
set_option maxHeartbeats 3200000
theorem RM.kept {w w' : World} {R : RL} {cap : Nat} {qv : Value} {Q : List Nat} {S : AS} {X : XL} {hc : Nat} {x : XS} {mb : Nat} {c : Array Value} {t : TypeId} (h : RM w R cap qv Q S X hc x mb c t) (k : Keeps (fun g => g = mb) w w') : RC w' R cap qv Q S X hc x := h.h.keeps k (fun g hg e => h.n (by rw [← e]; exact hg))
def RstW (w : World) (R : RL) (cap : Nat) (qv : Value) (Q : List Nat) (X : XL) (hc : Nat) (mb : Nat) (S : AS) (p : Bool × CS × MW) (e : Ending) (w' : World) : Prop := e = .returned (.bool p.1) ∧ RC w' R cap qv Q p.2.1.S X hc p.2.1.x ∧ RwlH w' mb X.x p.2.2 ∧ Keeps (mrF R qv S X mb) w w'
end Go.Proofs.YteekompojgbkhaaGreat
