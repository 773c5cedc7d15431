import Derived.Test.YtdgkocgjihdbpaaGreatRows
import Derived.Conc.RwLib
import Derived.Conc.MuData
import Derived.KernelRfl
namespace Go.Proofs.YtdgkocgjihdbpaaGreat
abbrev muLink : Go.Conc.Locks.MuLink := { lock := 45, unlock := 46, ilock := 85, iunlock := 86, lockSlow := 114, unlockSlow := 115, disable := 78, enable := 81, acquire := 82, relMerge := 83, cas32 := 113, add32 := 112, tMutex := 32, tIMutex := 30, tPMutex := 147, tPIMutex := 175, tPI32 := 174, tUP := 146, tNoCopy := 27, tU32 := 28 }
theorem muLib : Go.Conc.Locks.MuLib Tryz.prog muLink :=
  ⟨Tryz.func45, Tryz.func46, Tryz.func85, Tryz.func86, Tryz.func78, Tryz.func81, Tryz.func82, Tryz.func83, Tryz.func113, Tryz.func112, Tryz.underlying30, Tryz.runUnderlying30, Tryz.sizeOf30, Tryz.isAgg30, Tryz.zeroValue30, Tryz.underlying32, Tryz.runUnderlying32, Tryz.sizeOf32, Tryz.isAgg32, Tryz.zeroValue32, Tryz.underlying147, Tryz.runUnderlying147, Tryz.sizeOf147, Tryz.isAgg147, Tryz.zeroValue147, Tryz.underlying175, Tryz.runUnderlying175, Tryz.sizeOf175, Tryz.isAgg175, Tryz.zeroValue175, Tryz.underlying174, Tryz.runUnderlying174, Tryz.sizeOf174, Tryz.isAgg174, Tryz.zeroValue174, Tryz.underlying146, Tryz.runUnderlying146, Tryz.sizeOf146, Tryz.isAgg146, Tryz.zeroValue146, Tryz.underlying27, Tryz.runUnderlying27, Tryz.sizeOf27, Tryz.isAgg27, Tryz.zeroValue27, Tryz.underlying21, Tryz.runUnderlying21, Tryz.sizeOf21, Tryz.isAgg21, Tryz.zeroValue21, (by kernel_rfl)⟩
end Go.Proofs.YtdgkocgjihdbpaaGreat
