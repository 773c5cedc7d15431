import Derived.Test.YteekompojgbkhaaGreatKReI
namespace Go.Proofs.YteekompojgbkhaaGreat
set_option linter.unusedSimpArgs false
open Go.ChangeShapes Go.WideShapes Go.ChangeAt Go.RowKit Go.MuLone Go.RwLone
set_option linter.unusedVariables false
set_option maxRecDepth 100000
set_option maxHeartbeats 6400000
end Go.Proofs.YteekompojgbkhaaGreat
