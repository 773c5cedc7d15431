import Derived.Test.YtjceellpmopnkaaDoorRows
import Derived.Conc.RwLib
import Derived.Conc.MuData
import Derived.KernelRfl
namespace Go.Proofs.YtjceellpmopnkaaDoor
abbrev muLink : Go.Conc.Locks.MuLink := { lock := 73, unlock := 74, ilock := 77, iunlock := 78, lockSlow := 85, unlockSlow := 88, disable := 81, enable := 83, acquire := 84, relMerge := 86, cas32 := 82, add32 := 87, tMutex := 93, tIMutex := 91, tPMutex := 132, tPIMutex := 135, tPI32 := 137, tUP := 139, tNoCopy := 86, tU32 := 34 }
theorem muLib : Go.Conc.Locks.MuLib Tryd.prog muLink :=
  ⟨Tryd.func73, Tryd.func74, Tryd.func77, Tryd.func78, Tryd.func81, Tryd.func83, Tryd.func84, Tryd.func86, Tryd.func82, Tryd.func87, Tryd.underlying91, Tryd.runUnderlying91, Tryd.sizeOf91, Tryd.isAgg91, Tryd.zeroValue91, Tryd.underlying93, Tryd.runUnderlying93, Tryd.sizeOf93, Tryd.isAgg93, Tryd.zeroValue93, Tryd.underlying132, Tryd.runUnderlying132, Tryd.sizeOf132, Tryd.isAgg132, Tryd.zeroValue132, Tryd.underlying135, Tryd.runUnderlying135, Tryd.sizeOf135, Tryd.isAgg135, Tryd.zeroValue135, Tryd.underlying137, Tryd.runUnderlying137, Tryd.sizeOf137, Tryd.isAgg137, Tryd.zeroValue137, Tryd.underlying139, Tryd.runUnderlying139, Tryd.sizeOf139, Tryd.isAgg139, Tryd.zeroValue139, Tryd.underlying86, Tryd.runUnderlying86, Tryd.sizeOf86, Tryd.isAgg86, Tryd.zeroValue86, Tryd.underlying21, Tryd.runUnderlying21, Tryd.sizeOf21, Tryd.isAgg21, Tryd.zeroValue21, (by kernel_rfl)⟩
end Go.Proofs.YtjceellpmopnkaaDoor
