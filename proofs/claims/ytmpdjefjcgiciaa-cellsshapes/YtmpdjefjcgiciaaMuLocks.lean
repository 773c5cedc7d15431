import Derived.Test.YtmpdjefjcgiciaaRows
import Derived.Conc.RwLib
import Derived.Conc.MuData
import Derived.KernelRfl
namespace Go.Proofs.Ytmpdjefjcgiciaa
abbrev muLink : Go.Conc.Locks.MuLink := { lock := 32, unlock := 33, ilock := 68, iunlock := 69, lockSlow := 101, unlockSlow := 102, disable := 61, enable := 64, acquire := 65, relMerge := 66, cas32 := 100, add32 := 99, tMutex := 81, tIMutex := 79, tPMutex := 148, tPIMutex := 178, tPI32 := 177, tUP := 147, tNoCopy := 76, tU32 := 77 }
theorem muLib : Go.Conc.Locks.MuLib Try.prog muLink :=
  ⟨Try.func32, Try.func33, Try.func68, Try.func69, Try.func61, Try.func64, Try.func65, Try.func66, Try.func100, Try.func99, Try.underlying79, Try.runUnderlying79, Try.sizeOf79, Try.isAgg79, Try.zeroValue79, Try.underlying81, Try.runUnderlying81, Try.sizeOf81, Try.isAgg81, Try.zeroValue81, Try.underlying148, Try.runUnderlying148, Try.sizeOf148, Try.isAgg148, Try.zeroValue148, Try.underlying178, Try.runUnderlying178, Try.sizeOf178, Try.isAgg178, Try.zeroValue178, Try.underlying177, Try.runUnderlying177, Try.sizeOf177, Try.isAgg177, Try.zeroValue177, Try.underlying147, Try.runUnderlying147, Try.sizeOf147, Try.isAgg147, Try.zeroValue147, Try.underlying76, Try.runUnderlying76, Try.sizeOf76, Try.isAgg76, Try.zeroValue76, Try.underlying21, Try.runUnderlying21, Try.sizeOf21, Try.isAgg21, Try.zeroValue21, (by kernel_rfl)⟩
end Go.Proofs.Ytmpdjefjcgiciaa
