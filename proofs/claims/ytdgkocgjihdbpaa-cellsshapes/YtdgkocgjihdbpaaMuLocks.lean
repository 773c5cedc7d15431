import Derived.Test.YtdgkocgjihdbpaaRows
import Derived.Conc.RwLib
import Derived.Conc.MuData
import Derived.KernelRfl
namespace Go.Proofs.Ytdgkocgjihdbpaa
abbrev muLink : Go.Conc.Locks.MuLink := { lock := 25, unlock := 26, ilock := 52, iunlock := 53, lockSlow := 72, unlockSlow := 73, disable := 45, enable := 48, acquire := 49, relMerge := 50, cas32 := 71, add32 := 70, tMutex := 72, tIMutex := 70, tPMutex := 126, tPIMutex := 149, tPI32 := 148, tUP := 125, tNoCopy := 67, tU32 := 68 }
theorem muLib : Go.Conc.Locks.MuLib Try.prog muLink :=
  ⟨Try.func25, Try.func26, Try.func52, Try.func53, Try.func45, Try.func48, Try.func49, Try.func50, Try.func71, Try.func70, Try.underlying70, Try.runUnderlying70, Try.sizeOf70, Try.isAgg70, Try.zeroValue70, Try.underlying72, Try.runUnderlying72, Try.sizeOf72, Try.isAgg72, Try.zeroValue72, Try.underlying126, Try.runUnderlying126, Try.sizeOf126, Try.isAgg126, Try.zeroValue126, Try.underlying149, Try.runUnderlying149, Try.sizeOf149, Try.isAgg149, Try.zeroValue149, Try.underlying148, Try.runUnderlying148, Try.sizeOf148, Try.isAgg148, Try.zeroValue148, Try.underlying125, Try.runUnderlying125, Try.sizeOf125, Try.isAgg125, Try.zeroValue125, Try.underlying67, Try.runUnderlying67, Try.sizeOf67, Try.isAgg67, Try.zeroValue67, Try.underlying21, Try.runUnderlying21, Try.sizeOf21, Try.isAgg21, Try.zeroValue21, (by kernel_rfl)⟩
end Go.Proofs.Ytdgkocgjihdbpaa
