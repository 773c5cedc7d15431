import Derived.Test.YtgnhhpihpndfgaaGreatRows
import Derived.Conc.RwLib
import Derived.Conc.MuData
import Derived.KernelRfl
namespace Go.Proofs.YtgnhhpihpndfgaaGreat
abbrev muLink : Go.Conc.Locks.MuLink := { lock := 64, unlock := 65, ilock := 103, iunlock := 104, lockSlow := 132, unlockSlow := 133, disable := 96, enable := 99, acquire := 100, relMerge := 101, cas32 := 131, add32 := 130, tMutex := 49, tIMutex := 47, tPMutex := 168, tPIMutex := 195, tPI32 := 194, tUP := 167, tNoCopy := 44, tU32 := 45 }
theorem muLib : Go.Conc.Locks.MuLib Tryz.prog muLink :=
  ⟨Tryz.func64, Tryz.func65, Tryz.func103, Tryz.func104, Tryz.func96, Tryz.func99, Tryz.func100, Tryz.func101, Tryz.func131, Tryz.func130, Tryz.underlying47, Tryz.runUnderlying47, Tryz.sizeOf47, Tryz.isAgg47, Tryz.zeroValue47, Tryz.underlying49, Tryz.runUnderlying49, Tryz.sizeOf49, Tryz.isAgg49, Tryz.zeroValue49, Tryz.underlying168, Tryz.runUnderlying168, Tryz.sizeOf168, Tryz.isAgg168, Tryz.zeroValue168, Tryz.underlying195, Tryz.runUnderlying195, Tryz.sizeOf195, Tryz.isAgg195, Tryz.zeroValue195, Tryz.underlying194, Tryz.runUnderlying194, Tryz.sizeOf194, Tryz.isAgg194, Tryz.zeroValue194, Tryz.underlying167, Tryz.runUnderlying167, Tryz.sizeOf167, Tryz.isAgg167, Tryz.zeroValue167, Tryz.underlying44, Tryz.runUnderlying44, Tryz.sizeOf44, Tryz.isAgg44, Tryz.zeroValue44, Tryz.underlying21, Tryz.runUnderlying21, Tryz.sizeOf21, Tryz.isAgg21, Tryz.zeroValue21, (by kernel_rfl)⟩
end Go.Proofs.YtgnhhpihpndfgaaGreat
