import Derived.Test.YtdjklcmkcccpeaaGreatRows
import Derived.Conc.RwLib
import Derived.Conc.MuData
import Derived.KernelRfl
namespace Go.Proofs.YtdjklcmkcccpeaaGreat
abbrev muLink : Go.Conc.Locks.MuLink := { lock := 69, unlock := 70, ilock := 122, iunlock := 123, lockSlow := 170, unlockSlow := 171, disable := 115, enable := 118, acquire := 119, relMerge := 120, cas32 := 169, add32 := 166, tMutex := 129, tIMutex := 127, tPMutex := 202, tPIMutex := 250, tPI32 := 248, tUP := 201, tNoCopy := 124, tU32 := 125 }
theorem muLib : Go.Conc.Locks.MuLib Tryz.prog muLink :=
  ⟨Tryz.func69, Tryz.func70, Tryz.func122, Tryz.func123, Tryz.func115, Tryz.func118, Tryz.func119, Tryz.func120, Tryz.func169, Tryz.func166, Tryz.underlying127, Tryz.runUnderlying127, Tryz.sizeOf127, Tryz.isAgg127, Tryz.zeroValue127, Tryz.underlying129, Tryz.runUnderlying129, Tryz.sizeOf129, Tryz.isAgg129, Tryz.zeroValue129, Tryz.underlying202, Tryz.runUnderlying202, Tryz.sizeOf202, Tryz.isAgg202, Tryz.zeroValue202, Tryz.underlying250, Tryz.runUnderlying250, Tryz.sizeOf250, Tryz.isAgg250, Tryz.zeroValue250, Tryz.underlying248, Tryz.runUnderlying248, Tryz.sizeOf248, Tryz.isAgg248, Tryz.zeroValue248, Tryz.underlying201, Tryz.runUnderlying201, Tryz.sizeOf201, Tryz.isAgg201, Tryz.zeroValue201, Tryz.underlying124, Tryz.runUnderlying124, Tryz.sizeOf124, Tryz.isAgg124, Tryz.zeroValue124, Tryz.underlying21, Tryz.runUnderlying21, Tryz.sizeOf21, Tryz.isAgg21, Tryz.zeroValue21, (by kernel_rfl)⟩
end Go.Proofs.YtdjklcmkcccpeaaGreat
