import Derived.Test.YtfabgoanammaiaaVals2
namespace Go.Proofs.Ytfabgoanammaiaa
open Go.ChangeShapes Go.WideShapes Go.ChangeAt Go.RowKit
set_option linter.unusedVariables false

/-- order(less, more) -/
def ordB (x y : Bool) : Int := if x then -1 else if y then 1 else 0
theorem compareBytes_less : ∀ x y : List UInt8, Lib.compareBytes x y = ordB (Op.bytesLess x y) (!(Op.bytesLess x y || x == y))
  | [], [] => by simp [Lib.compareBytes, Op.bytesLess, ordB]
  | [], _ :: _ => by simp [Lib.compareBytes, Op.bytesLess, ordB]
  | _ :: _, [] => by simp [Lib.compareBytes, Op.bytesLess, ordB]
  | a :: x, b :: y => by
    have ih := compareBytes_less x y
    by_cases h : a < b
    · simp [Lib.compareBytes, Op.bytesLess, ordB, h]
    · by_cases h2 : b < a
      · have hne : ¬ a = b := by intro e; subst e; exact absurd h2 h
        simp [Lib.compareBytes, Op.bytesLess, ordB, h, h2, hne]
      · have e : a = b := by
          apply UInt8.toNat_inj.1
          rw [UInt8.lt_iff_toNat_lt] at h h2
          omega
        subst e
        simp only [Lib.compareBytes, h, if_false, ih]
        simp [Op.bytesLess, h]
theorem cmpT_less (a b : ByteArray) : cmpT a b = ordB (Op.bytesLess a.toList b.toList) (!(Op.bytesLess a.toList b.toList || a.toList == b.toList)) := by
  unfold cmpT; rw [Lib.toList_data, Lib.toList_data]; exact compareBytes_less _ _
theorem cmpI_ne (a b : Int) (h : a ≠ b) : cmpI a b = ordB (decide (a < b)) true ∧ cmpI a b ≠ 0 := by
  unfold cmpI ordB
  by_cases h1 : a < b
  · simp [h1]
  · have h2 : b < a := by omega
    simp [h1, h2]
theorem cmpI_self (a : Int) : cmpI a a = 0 := by unfold cmpI; simp
end Go.Proofs.Ytfabgoanammaiaa
