import Derived.Test.YtgopplgknplkiaaGreatDoorRows
import Derived.Conc.RwLib
import Derived.Conc.MuData
import Derived.KernelRfl
namespace Go.Proofs.YtgopplgknplkiaaGreatDoor
abbrev muLink : Go.Conc.Locks.MuLink := { lock := 91, unlock := 92, ilock := 95, iunlock := 96, lockSlow := 103, unlockSlow := 106, disable := 99, enable := 101, acquire := 102, relMerge := 104, cas32 := 100, add32 := 105, tMutex := 105, tIMutex := 103, tPMutex := 148, tPIMutex := 151, tPI32 := 153, tUP := 155, tNoCopy := 98, tU32 := 75 }
theorem muLib : Go.Conc.Locks.MuLib Tryz.prog muLink :=
  ⟨Tryz.func91, Tryz.func92, Tryz.func95, Tryz.func96, Tryz.func99, Tryz.func101, Tryz.func102, Tryz.func104, Tryz.func100, Tryz.func105, Tryz.underlying103, Tryz.runUnderlying103, Tryz.sizeOf103, Tryz.isAgg103, Tryz.zeroValue103, Tryz.underlying105, Tryz.runUnderlying105, Tryz.sizeOf105, Tryz.isAgg105, Tryz.zeroValue105, Tryz.underlying148, Tryz.runUnderlying148, Tryz.sizeOf148, Tryz.isAgg148, Tryz.zeroValue148, Tryz.underlying151, Tryz.runUnderlying151, Tryz.sizeOf151, Tryz.isAgg151, Tryz.zeroValue151, Tryz.underlying153, Tryz.runUnderlying153, Tryz.sizeOf153, Tryz.isAgg153, Tryz.zeroValue153, Tryz.underlying155, Tryz.runUnderlying155, Tryz.sizeOf155, Tryz.isAgg155, Tryz.zeroValue155, Tryz.underlying98, Tryz.runUnderlying98, Tryz.sizeOf98, Tryz.isAgg98, Tryz.zeroValue98, Tryz.underlying21, Tryz.runUnderlying21, Tryz.sizeOf21, Tryz.isAgg21, Tryz.zeroValue21, (by kernel_rfl)⟩
end Go.Proofs.YtgopplgknplkiaaGreatDoor
