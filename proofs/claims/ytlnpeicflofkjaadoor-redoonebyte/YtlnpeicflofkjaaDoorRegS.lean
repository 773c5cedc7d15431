import Derived.Test.YtlnpeicflofkjaaDoorRegG
namespace Go.Proofs.YtlnpeicflofkjaaDoor
theorem regS : True := trivial
end Go.Proofs.YtlnpeicflofkjaaDoor
