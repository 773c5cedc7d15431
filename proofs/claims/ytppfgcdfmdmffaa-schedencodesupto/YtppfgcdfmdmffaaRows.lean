/-
  No cell of these rows narrows 'for every input' (looked for: loops, veiled, ifaces, maps, wideKeys, modest, calm, conditions, laid).
  DERIVED. THE GIVEN ROWS OF THIS SEAT. 4 by the template 'for every input the law returns true; each argument reads behind the call as it read before'; 0 by the template 'total and deterministic' (their statements: YtppfgcdfmdmffaaTotals.lean).
  GIVEN WITH THE SEED: the statements are not yours to turn. If you find one false, say at which input.
  Laid BY PROGRAM, IN A SANDBOX (cutbox-rows.mjs): the forced cells as the released guide's own fill.sh prints them over the translation dab683e0973a932b… (all of the seat's roots in one cut). By AI agents, Wed Nov 11 2026. No macro, syntax, notation, axiom, sorry.
-/
import Derived.Test.YtppfgcdfmdmffaaChecked
import GoSem.Claim
import GoSem.ClaimJoined
import GoSem.ClaimMapViews
import Derived.JoinedTies
import Derived.KernelRfl
namespace Go.Proofs.Ytppfgcdfmdmffaa
/- THE CELL 'sum', in the pinned program and in every row, IS THE sha256 OF THE DUMP (.gsa) THAT YtppfgcdfmdmffaaProg.lean LOADS. Nothing in Lean hashes anything: it is a label: what it is worth is what the hold of that sum in a sandbox is worth. -/
noncomputable def Try.pinned : Pinned := { name := "ytppfgcdfmdmffaa", sum := "dab683e0973a932b31af22d5e608aa80f0fbb8a7f65dd1dce136fdc0218d5321", checked := Try.checked }
namespace Rows
def none {H : Type} : Left H := { results := [], args := [] }

/-- 'stratalaw03.SchedBothWays': WHATEVER THE INPUT: true; the input reads as it did. -/
def schedBothWaysSpec : ChangeSpec := { name := "schedBothWays", fn := fun _ => fun
  | [d1, d2] => { results := [.lit (.bool true)], args := [d1, d2] }
  | _ => none }
def schedBothWaysRow : OpenClaim := { program := "ytppfgcdfmdmffaa", sum := "dab683e0973a932b31af22d5e608aa80f0fbb8a7f65dd1dce136fdc0218d5321", func := "strata/stratalaw03.SchedBothWays", spec := "schedBothWays", apart := false }
def SchedBothWaysSaid : Prop := schedBothWaysRow.holds Try.pinned (OpenSpec.ofChange schedBothWaysSpec)

/-- ITS FALSE NEIGHBOUR: 'it returns false'. Refute it at one input. -/
def schedBothWaysWrong : ChangeSpec := { name := "schedBothWays", fn := fun _ => fun
  | [d1, d2] => { results := [.lit (.bool false)], args := [d1, d2] }
  | _ => none }
def SchedBothWaysWrongFalsely : Prop := schedBothWaysRow.holds Try.pinned (OpenSpec.ofChange schedBothWaysWrong)

/-- 'stratalaw03.SchedDecodes': WHATEVER THE INPUT: true; the input reads as it did. -/
def schedDecodesSpec : ChangeSpec := { name := "schedDecodes", fn := fun _ => fun
  | [d] => { results := [.lit (.bool true)], args := [d] }
  | _ => none }
def schedDecodesRow : OpenClaim := { program := "ytppfgcdfmdmffaa", sum := "dab683e0973a932b31af22d5e608aa80f0fbb8a7f65dd1dce136fdc0218d5321", func := "strata/stratalaw03.SchedDecodes", spec := "schedDecodes", apart := false }
def SchedDecodesSaid : Prop := schedDecodesRow.holds Try.pinned (OpenSpec.ofChange schedDecodesSpec)

/-- ITS FALSE NEIGHBOUR: 'it returns false'. Refute it at one input. -/
def schedDecodesWrong : ChangeSpec := { name := "schedDecodes", fn := fun _ => fun
  | [d] => { results := [.lit (.bool false)], args := [d] }
  | _ => none }
def SchedDecodesWrongFalsely : Prop := schedDecodesRow.holds Try.pinned (OpenSpec.ofChange schedDecodesWrong)

/-- 'stratalaw03.SchedEncodes': WHATEVER THE INPUT: true; the input reads as it did. -/
def schedEncodesSpec : ChangeSpec := { name := "schedEncodes", fn := fun _ => fun
  | [d] => { results := [.lit (.bool true)], args := [d] }
  | _ => none }
def schedEncodesRow : OpenClaim := { program := "ytppfgcdfmdmffaa", sum := "dab683e0973a932b31af22d5e608aa80f0fbb8a7f65dd1dce136fdc0218d5321", func := "strata/stratalaw03.SchedEncodes", spec := "schedEncodes", apart := false }
def SchedEncodesSaid : Prop := schedEncodesRow.holds Try.pinned (OpenSpec.ofChange schedEncodesSpec)

/-- ITS FALSE NEIGHBOUR: 'it returns false'. Refute it at one input. -/
def schedEncodesWrong : ChangeSpec := { name := "schedEncodes", fn := fun _ => fun
  | [d] => { results := [.lit (.bool false)], args := [d] }
  | _ => none }
def SchedEncodesWrongFalsely : Prop := schedEncodesRow.holds Try.pinned (OpenSpec.ofChange schedEncodesWrong)

/-- 'stratalaw03.SchedNils': WHATEVER THE INPUT: true; the input reads as it did. -/
def schedNilsSpec : ChangeSpec := { name := "schedNils", fn := fun _ => fun
  | [] => { results := [.lit (.bool true)], args := [] }
  | _ => none }
def schedNilsRow : OpenClaim := { program := "ytppfgcdfmdmffaa", sum := "dab683e0973a932b31af22d5e608aa80f0fbb8a7f65dd1dce136fdc0218d5321", func := "strata/stratalaw03.SchedNils", spec := "schedNils", inPlace := ["(*sync.RWMutex).Lock", "internal/race.Read", "internal/race.Disable", "(*internal/sync.Mutex).Lock", "sync/atomic.CompareAndSwapInt32", "internal/race.Enable", "internal/race.Acquire", "(*internal/sync.Mutex).lockSlow", "internal/sync.runtime_canSpin", "internal/sync.runtime_doSpin", "internal/sync.throw", "internal/sync.runtime_nanotime", "internal/sync.runtime_SemacquireMutex", "sync/atomic.AddInt32", "sync.runtime_SemacquireRWMutex", "(*sync.RWMutex).Unlock", "internal/race.Release", "internal/race.ReleaseMerge", "sync.fatal", "sync.runtime_Semrelease", "(*internal/sync.Mutex).Unlock", "(*internal/sync.Mutex).unlockSlow", "internal/sync.fatal", "internal/sync.runtime_Semrelease", "sync/atomic.LoadUint32", "sync/atomic.LoadUint64", "(*sync.RWMutex).RLock", "sync.runtime_SemacquireRWMutexR", "(*sync.RWMutex).RUnlock", "(*sync.RWMutex).rUnlockSlow", "sync/atomic.AddInt64", "sync/atomic.StoreUint64", "sync/atomic.CompareAndSwapUint64", "sync/atomic.AddUint64"], unfollowed := true, recurses := true, apart := false }
def SchedNilsSaid : Prop := schedNilsRow.holds Try.pinned (OpenSpec.ofChange schedNilsSpec)

/-- ITS FALSE NEIGHBOUR: 'it returns false'. Refute it at one input. -/
def schedNilsWrong : ChangeSpec := { name := "schedNils", fn := fun _ => fun
  | [] => { results := [.lit (.bool false)], args := [] }
  | _ => none }
def SchedNilsWrongFalsely : Prop := schedNilsRow.holds Try.pinned (OpenSpec.ofChange schedNilsWrong)

/- THE SECOND FORM. 'bulk': how many values and letters a reading holds, each counted each time it is reached (what is shared counts as often as it is met; a slice's spare places count too). A statement '..UptoSaid' is the law's where the arguments, and the package variables that the reading takes, are together of bulk at most 1048576: NARROWER than '..Said'. Prove '..Said' where nothing that the law and all that it calls make is longer than what came in: it says more and counts as full. Else prove '..UptoSaid'. A law counts once. -/
mutual
def uptoBulk {H : Type} : DataW H → Nat
  | .lit (.string bytes) => bytes.length + 1
  | .lit _ => 1
  | .nil => 1
  | .ptr d => uptoBulk d + 1
  | .slice elems spare => uptoBulkAll elems + uptoBulkAll spare + 1
  | .agg parts => uptoBulkAll parts + 1
  | .iface _ d => uptoBulk d + 1
  | .map entries => uptoBulkEntries entries + 1
  | .held _ => 1
def uptoBulkAll {H : Type} : List (DataW H) → Nat
  | [] => 0
  | d :: r => uptoBulk d + uptoBulkAll r
def uptoBulkEntries {H : Type} : List (Lit × DataW H) → Nat
  | [] => 0
  | x :: r => uptoBulkEntry x + uptoBulkEntries r
def uptoBulkEntry {H : Type} : Lit × DataW H → Nat
  | (.string bytes, d) => bytes.length + uptoBulk d + 1
  | (_, d) => uptoBulk d + 1
 end
def uptoSmall : (H : Type) → List (DataW H) → Bool := fun _ ds => decide (uptoBulkAll ds ≤ 1048576)
def OpenSpec.upto (s : _root_.Go.ChangeSpec) : _root_.Go.OpenSpec := { _root_.Go.OpenSpec.ofChange s with cond := some uptoSmall }

/-- 'stratalaw03.SchedBothWays', WHERE WHAT IT READS IS OF BULK AT MOST 1048576: true; the input reads as it did. -/
def schedBothWaysUptoRow : OpenClaim := { program := "ytppfgcdfmdmffaa", sum := "dab683e0973a932b31af22d5e608aa80f0fbb8a7f65dd1dce136fdc0218d5321", func := "strata/stratalaw03.SchedBothWays", spec := "schedBothWays", apart := false, narrowed := true }
def SchedBothWaysUptoSaid : Prop := schedBothWaysUptoRow.holds Try.pinned (OpenSpec.upto schedBothWaysSpec)

/-- 'stratalaw03.SchedDecodes', WHERE WHAT IT READS IS OF BULK AT MOST 1048576: true; the input reads as it did. -/
def schedDecodesUptoRow : OpenClaim := { program := "ytppfgcdfmdmffaa", sum := "dab683e0973a932b31af22d5e608aa80f0fbb8a7f65dd1dce136fdc0218d5321", func := "strata/stratalaw03.SchedDecodes", spec := "schedDecodes", apart := false, narrowed := true }
def SchedDecodesUptoSaid : Prop := schedDecodesUptoRow.holds Try.pinned (OpenSpec.upto schedDecodesSpec)

/-- 'stratalaw03.SchedEncodes', WHERE WHAT IT READS IS OF BULK AT MOST 1048576: true; the input reads as it did. -/
def schedEncodesUptoRow : OpenClaim := { program := "ytppfgcdfmdmffaa", sum := "dab683e0973a932b31af22d5e608aa80f0fbb8a7f65dd1dce136fdc0218d5321", func := "strata/stratalaw03.SchedEncodes", spec := "schedEncodes", apart := false, narrowed := true }
def SchedEncodesUptoSaid : Prop := schedEncodesUptoRow.holds Try.pinned (OpenSpec.upto schedEncodesSpec)

/-- 'stratalaw03.SchedNils', WHERE WHAT IT READS IS OF BULK AT MOST 1048576: true; the input reads as it did. -/
def schedNilsUptoRow : OpenClaim := { program := "ytppfgcdfmdmffaa", sum := "dab683e0973a932b31af22d5e608aa80f0fbb8a7f65dd1dce136fdc0218d5321", func := "strata/stratalaw03.SchedNils", spec := "schedNils", inPlace := ["(*sync.RWMutex).Lock", "internal/race.Read", "internal/race.Disable", "(*internal/sync.Mutex).Lock", "sync/atomic.CompareAndSwapInt32", "internal/race.Enable", "internal/race.Acquire", "(*internal/sync.Mutex).lockSlow", "internal/sync.runtime_canSpin", "internal/sync.runtime_doSpin", "internal/sync.throw", "internal/sync.runtime_nanotime", "internal/sync.runtime_SemacquireMutex", "sync/atomic.AddInt32", "sync.runtime_SemacquireRWMutex", "(*sync.RWMutex).Unlock", "internal/race.Release", "internal/race.ReleaseMerge", "sync.fatal", "sync.runtime_Semrelease", "(*internal/sync.Mutex).Unlock", "(*internal/sync.Mutex).unlockSlow", "internal/sync.fatal", "internal/sync.runtime_Semrelease", "sync/atomic.LoadUint32", "sync/atomic.LoadUint64", "(*sync.RWMutex).RLock", "sync.runtime_SemacquireRWMutexR", "(*sync.RWMutex).RUnlock", "(*sync.RWMutex).rUnlockSlow", "sync/atomic.AddInt64", "sync/atomic.StoreUint64", "sync/atomic.CompareAndSwapUint64", "sync/atomic.AddUint64"], unfollowed := true, recurses := true, apart := false, narrowed := true }
def SchedNilsUptoSaid : Prop := schedNilsUptoRow.holds Try.pinned (OpenSpec.upto schedNilsSpec)

end Rows
end Go.Proofs.Ytppfgcdfmdmffaa
