import Derived.Test.YtmolfemcciljjaaRows
import Derived.WalkKit
import Derived.ProofKit
import Derived.OpenShut
import Derived.ShutString
import Derived.WalkLawsBesides
import Derived.Outline
import Derived.WalkSpells
import Derived.BigRegion
import Derived.Laws.BytesArg
import Derived.Laws.BitsAllLaws
import Derived.Laws.OwnMore
namespace Go.Proofs.Ytmolfemcciljjaa
open Go.ChangeShapes Go.WideShapes Go.ChangeAt Go.RowKit

theorem infoB : (Try.prog.info? 5).map (fun i => (i.zero, i.size, i.bytes)) = some (some (.int .u8 0), 1, 1) := by kernel_rfl

/-- The slice value v holds just the bytes xs, in a row of the call's own (blocks from B on). -/
def ownB (w : World) (B : Nat) (v : Value) (xs : List Int) : Prop := w.ownsRow B 5 1 v xs.length (xs.map (Value.int .u8))

theorem ownB_nil (w : World) (B : Nat) : ownB w B (.slice none 0 0) [] := World.ownsRow_nil _ _ _ _

theorem ownB.drew {w : World} {B : Nat} {v : Value} {xs : List Int} (h : ownB w B v xs) : ownB w.drew B v xs := World.ownsRow.drew h

/-- The bytes of a number, seven bits each, by fuel. -/
def uvF : Nat → Int → List Int
  | 0, v => [v]
  | f + 1, v => if v < 128 then [v] else (v % 128 + 128) :: uvF f (v / 128)
def uvB (v : Int) : List Int := uvF 9 v
theorem uvF_small (f : Nat) (v : Int) (h : v < 128) : uvF f v = [v] := by cases f <;> simp [uvF, h]
theorem uvF_great (f : Nat) (v : Int) (h : 128 ≤ v) : uvF (f + 1) v = (v % 128 + 128) :: uvF f (v / 128) := by
  have : ¬ v < 128 := by omega
  simp [uvF, this]
theorem uvF_len : ∀ (f : Nat) (v : Int), (uvF f v).length ≤ f + 1 ∧ 1 ≤ (uvF f v).length
  | 0, v => by simp [uvF]
  | f + 1, v => by
    have := uvF_len f (v / 128)
    unfold uvF; split <;> simp <;> omega
theorem or128 (u : Int) : bits .or .u8 (u % 256) 128 = u % 128 + 128 := by
  rw [u8_or _ _ (by omega) (by omega) (by omega) (by omega)]
  have key : ∀ x : Fin 256, (x.val ||| 128) = x.val % 128 + 128 := by decide +kernel
  have := key ⟨(u % 256).toNat, by omega⟩
  simp only [show (128 : Int).toNat = 128 from rfl]
  rw [this]
  simp only []
  omega

end Go.Proofs.Ytmolfemcciljjaa
