import Derived.Test.YtjkipbjphdfemaaDoorRows
import Derived.Conc.RwLib
import Derived.Conc.MuData
import Derived.KernelRfl
namespace Go.Proofs.YtjkipbjphdfemaaDoor
abbrev muLink : Go.Conc.Locks.MuLink := { lock := 25, unlock := 26, ilock := 28, iunlock := 29, lockSlow := 36, unlockSlow := 39, disable := 32, enable := 34, acquire := 35, relMerge := 37, cas32 := 33, add32 := 38, tMutex := 45, tIMutex := 43, tPMutex := 66, tPIMutex := 69, tPI32 := 71, tUP := 73, tNoCopy := 38, tU32 := 22 }
theorem muLib : Go.Conc.Locks.MuLib Tryd.prog muLink :=
  ⟨Tryd.func25, Tryd.func26, Tryd.func28, Tryd.func29, Tryd.func32, Tryd.func34, Tryd.func35, Tryd.func37, Tryd.func33, Tryd.func38, Tryd.underlying43, Tryd.runUnderlying43, Tryd.sizeOf43, Tryd.isAgg43, Tryd.zeroValue43, Tryd.underlying45, Tryd.runUnderlying45, Tryd.sizeOf45, Tryd.isAgg45, Tryd.zeroValue45, Tryd.underlying66, Tryd.runUnderlying66, Tryd.sizeOf66, Tryd.isAgg66, Tryd.zeroValue66, Tryd.underlying69, Tryd.runUnderlying69, Tryd.sizeOf69, Tryd.isAgg69, Tryd.zeroValue69, Tryd.underlying71, Tryd.runUnderlying71, Tryd.sizeOf71, Tryd.isAgg71, Tryd.zeroValue71, Tryd.underlying73, Tryd.runUnderlying73, Tryd.sizeOf73, Tryd.isAgg73, Tryd.zeroValue73, Tryd.underlying38, Tryd.runUnderlying38, Tryd.sizeOf38, Tryd.isAgg38, Tryd.zeroValue38, Tryd.underlying21, Tryd.runUnderlying21, Tryd.sizeOf21, Tryd.isAgg21, Tryd.zeroValue21, (by kernel_rfl)⟩
end Go.Proofs.YtjkipbjphdfemaaDoor
