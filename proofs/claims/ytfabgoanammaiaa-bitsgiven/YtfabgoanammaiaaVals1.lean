import Derived.Test.YtfabgoanammaiaaRows
import Derived.WalkKit
import Derived.ProofKit
import Derived.OpenShut
import Derived.ShutString
import Derived.WalkLawsBesides
import Derived.Outline
import Derived.WalkSpells
import Derived.BigRegion
import Derived.Deep.QuietTactic
import Derived.BigQuiet
import Derived.Deep.RegionWith
import Derived.Deep.RegionHeld3
import Derived.Laws.BitsAllLaws
import Derived.Lib.Bytealg
import Derived.Lib.Strings
import Derived.Laws.Externs
namespace Go.Proofs.Ytfabgoanammaiaa
open Go.ChangeShapes Go.WideShapes Go.ChangeAt Go.RowKit
set_option linter.unusedVariables false

/-- Which of two numbers is less. -/
def cmpI (a b : Int) : Int := if a < b then -1 else if b < a then 1 else 0
/-- Which of two texts is less. -/
def cmpT (a b : ByteArray) : Int := Lib.compareBytes a.data.toList b.data.toList
/-- The first that is not 0. -/
def or3 (x y z : Int) : Int := if x ≠ 0 then x else if y ≠ 0 then y else z
/-- Which of two values is less. -/
def cmpV (a b : Int × Int × ByteArray) : Int := or3 (cmpI a.1 b.1) (cmpI a.2.1 b.2.1) (cmpT a.2.2 b.2.2)
def valV (a : Int × Int × ByteArray) : Value := .agg #[.int .i64 a.1, .int .i64 a.2.1, .string a.2.2]
end Go.Proofs.Ytfabgoanammaiaa
