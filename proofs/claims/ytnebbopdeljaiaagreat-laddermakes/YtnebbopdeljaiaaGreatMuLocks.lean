import Derived.Test.YtnebbopdeljaiaaGreatRows
import Derived.Conc.RwLib
import Derived.Conc.MuData
import Derived.KernelRfl
namespace Go.Proofs.YtnebbopdeljaiaaGreat
abbrev muLink : Go.Conc.Locks.MuLink := { lock := 76, unlock := 85, ilock := 106, iunlock := 108, lockSlow := 124, unlockSlow := 125, disable := 75, enable := 79, acquire := 80, relMerge := 82, cas32 := 123, add32 := 107, tMutex := 37, tIMutex := 35, tPMutex := 170, tPIMutex := 201, tPI32 := 188, tUP := 169, tNoCopy := 32, tU32 := 33 }
theorem muLib : Go.Conc.Locks.MuLib Tryz.prog muLink :=
  ⟨Tryz.func76, Tryz.func85, Tryz.func106, Tryz.func108, Tryz.func75, Tryz.func79, Tryz.func80, Tryz.func82, Tryz.func123, Tryz.func107, Tryz.underlying35, Tryz.runUnderlying35, Tryz.sizeOf35, Tryz.isAgg35, Tryz.zeroValue35, Tryz.underlying37, Tryz.runUnderlying37, Tryz.sizeOf37, Tryz.isAgg37, Tryz.zeroValue37, Tryz.underlying170, Tryz.runUnderlying170, Tryz.sizeOf170, Tryz.isAgg170, Tryz.zeroValue170, Tryz.underlying201, Tryz.runUnderlying201, Tryz.sizeOf201, Tryz.isAgg201, Tryz.zeroValue201, Tryz.underlying188, Tryz.runUnderlying188, Tryz.sizeOf188, Tryz.isAgg188, Tryz.zeroValue188, Tryz.underlying169, Tryz.runUnderlying169, Tryz.sizeOf169, Tryz.isAgg169, Tryz.zeroValue169, Tryz.underlying32, Tryz.runUnderlying32, Tryz.sizeOf32, Tryz.isAgg32, Tryz.zeroValue32, Tryz.underlying21, Tryz.runUnderlying21, Tryz.sizeOf21, Tryz.isAgg21, Tryz.zeroValue21, (by kernel_rfl)⟩
end Go.Proofs.YtnebbopdeljaiaaGreat
