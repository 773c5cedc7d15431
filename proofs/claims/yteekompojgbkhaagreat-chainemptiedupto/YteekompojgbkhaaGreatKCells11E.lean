import Derived.Test.YteekompojgbkhaaGreatKGatesE
namespace Go.Proofs.YteekompojgbkhaaGreat
open Go.ChangeShapes Go.WideShapes Go.ChangeAt Go.RowKit Go.MuLone Go.RwLone
set_option linter.unusedVariables false
set_option maxRecDepth 100000
set_option maxHeartbeats 1600000
theorem missing_holds2 {w : World} {L : Lay} {S : AS} (h : Holds w L S) : Calls Tryz.prog 62 #[.pointer (some ⟨L.b, 0, none⟩)] w fun e w' => e = .returned (.bool false) ∧ w' = w := missing_not L.b S.wd w (by have := h.hw.1; omega) h.c0
end Go.Proofs.YteekompojgbkhaaGreat
