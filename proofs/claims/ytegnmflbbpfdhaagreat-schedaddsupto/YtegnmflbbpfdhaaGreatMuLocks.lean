import Derived.Test.YtegnmflbbpfdhaaGreatRows
import Derived.Conc.RwLib
import Derived.Conc.MuData
import Derived.KernelRfl
namespace Go.Proofs.YtegnmflbbpfdhaaGreat
abbrev muLink : Go.Conc.Locks.MuLink := { lock := 51, unlock := 52, ilock := 81, iunlock := 82, lockSlow := 100, unlockSlow := 101, disable := 74, enable := 77, acquire := 78, relMerge := 79, cas32 := 99, add32 := 98, tMutex := 125, tIMutex := 123, tPMutex := 179, tPIMutex := 205, tPI32 := 204, tUP := 178, tNoCopy := 120, tU32 := 121 }
theorem muLib : Go.Conc.Locks.MuLib Tryz.prog muLink :=
  ⟨Tryz.func51, Tryz.func52, Tryz.func81, Tryz.func82, Tryz.func74, Tryz.func77, Tryz.func78, Tryz.func79, Tryz.func99, Tryz.func98, Tryz.underlying123, Tryz.runUnderlying123, Tryz.sizeOf123, Tryz.isAgg123, Tryz.zeroValue123, Tryz.underlying125, Tryz.runUnderlying125, Tryz.sizeOf125, Tryz.isAgg125, Tryz.zeroValue125, Tryz.underlying179, Tryz.runUnderlying179, Tryz.sizeOf179, Tryz.isAgg179, Tryz.zeroValue179, Tryz.underlying205, Tryz.runUnderlying205, Tryz.sizeOf205, Tryz.isAgg205, Tryz.zeroValue205, Tryz.underlying204, Tryz.runUnderlying204, Tryz.sizeOf204, Tryz.isAgg204, Tryz.zeroValue204, Tryz.underlying178, Tryz.runUnderlying178, Tryz.sizeOf178, Tryz.isAgg178, Tryz.zeroValue178, Tryz.underlying120, Tryz.runUnderlying120, Tryz.sizeOf120, Tryz.isAgg120, Tryz.zeroValue120, Tryz.underlying21, Tryz.runUnderlying21, Tryz.sizeOf21, Tryz.isAgg21, Tryz.zeroValue21, (by kernel_rfl)⟩
end Go.Proofs.YtegnmflbbpfdhaaGreat
