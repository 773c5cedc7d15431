import Derived.Test.YtlnpeicflofkjaaDoorRows
import Derived.Conc.RwLib
import Derived.Conc.MuData
import Derived.KernelRfl
namespace Go.Proofs.YtlnpeicflofkjaaDoor
abbrev muLink : Go.Conc.Locks.MuLink := { lock := 51, unlock := 52, ilock := 57, iunlock := 58, lockSlow := 66, unlockSlow := 69, disable := 62, enable := 64, acquire := 65, relMerge := 67, cas32 := 63, add32 := 68, tMutex := 63, tIMutex := 61, tPMutex := 101, tPIMutex := 105, tPI32 := 107, tUP := 109, tNoCopy := 56, tU32 := 41 }
theorem muLib : Go.Conc.Locks.MuLib Tryd.prog muLink :=
  ⟨Tryd.func51, Tryd.func52, Tryd.func57, Tryd.func58, Tryd.func62, Tryd.func64, Tryd.func65, Tryd.func67, Tryd.func63, Tryd.func68, Tryd.underlying61, Tryd.runUnderlying61, Tryd.sizeOf61, Tryd.isAgg61, Tryd.zeroValue61, Tryd.underlying63, Tryd.runUnderlying63, Tryd.sizeOf63, Tryd.isAgg63, Tryd.zeroValue63, Tryd.underlying101, Tryd.runUnderlying101, Tryd.sizeOf101, Tryd.isAgg101, Tryd.zeroValue101, Tryd.underlying105, Tryd.runUnderlying105, Tryd.sizeOf105, Tryd.isAgg105, Tryd.zeroValue105, Tryd.underlying107, Tryd.runUnderlying107, Tryd.sizeOf107, Tryd.isAgg107, Tryd.zeroValue107, Tryd.underlying109, Tryd.runUnderlying109, Tryd.sizeOf109, Tryd.isAgg109, Tryd.zeroValue109, Tryd.underlying56, Tryd.runUnderlying56, Tryd.sizeOf56, Tryd.isAgg56, Tryd.zeroValue56, Tryd.underlying21, Tryd.runUnderlying21, Tryd.sizeOf21, Tryd.isAgg21, Tryd.zeroValue21, (by kernel_rfl)⟩
end Go.Proofs.YtlnpeicflofkjaaDoor
