import Derived.Test.YtbkaahmkaphfoabRows
import Derived.WalkKit
import Derived.ProofKit
import Derived.OpenShut
import Derived.ShutString
import Derived.WalkLawsBesides
import Derived.Outline
import Derived.WalkSpells
import Derived.BigRegion
import Derived.Laws.BytesArg
import Derived.Test.YtbkaahmkaphfoabPlainAbove
namespace Go.Proofs.Ytbkaahmkaphfoab
open Go.ChangeShapes Go.WideShapes Go.ChangeAt Go.RowKit

theorem conv_one (w : World) (x : Int) :
    (convert 65 9 (.slice (some ⟨w.heap.size, 0, none⟩) 1 1)).run Try.prog (w.alloc (.cells #[.int .u8 x] 5)).drew = .ok (.string (strOfNums [x])) (w.alloc (.cells #[.int .u8 x] 5)).drew :=
  run_convert_bytes_arg _ 65 5 Try.underlying65 Try.underlying5 w.heap.size 0 1 1 [x] rfl (fun i hi => by
    have : i = 0 := by omega
    subst this
    simp) 9 Try.underlying9

/-- After: k: how many bytes stand ahead of the ff's at the end. -/
def AfterSays (s : ByteArray) (e : Ending) : Prop :=
  (e = .returned (.tuple #[.string ByteArray.empty, .bool false]) ∧ ∀ i (h : i < s.size), s[i] = 255) ∨
  ∃ j, ∃ hj : j < s.size, e = .returned (.tuple #[.string (s.extract 0 j ++ strOfNums [((s[j].toNat : Int) + 1) % 256]), .bool true]) ∧ s[j] ≠ 255 ∧ ∀ i (h : i < s.size), j < i → s[i] = 255

set_option maxRecDepth 100000 in
set_option maxHeartbeats 800000 in
theorem after_any (s : ByteArray) (w : World) (hs : s.size ≤ 140737488351232) :
    Calls Try.prog 27 #[.string s] w fun e w' => AfterSays s e ∧ Grown w w' ∧ Below w.heap.size w w' := by
  go_enter Try.func27, Try.ntmps27
  go_wp2
  go_loop [4] (fun l => ∃ k : Nat, k ≤ s.size ∧ l = .int .i64 ((k : Int) - 1) ∧ (∀ i (h : i < s.size), k ≤ i → s[i] = 255)) (fun l => (intOf l + 1).toNat)
  case atStart => exact ⟨s.size, Nat.le_refl _, rfl, fun i h h' => by omega⟩
  case round =>
    obtain ⟨k, hk, rfl, hall⟩ := hrel
    have H : Hid (∀ i (h : i < s.size), k ≤ i → s[i] = 255) := hall
    clear hall
    rcases Nat.eq_zero_or_pos k with rfl | hp
    · go_wp2
      go_ret2
      exact ⟨.inl ⟨rfl, fun i h => H.out i h (by omega)⟩, Grown.refl _, Below.refl _ _⟩
    · obtain ⟨j, rfl⟩ : ∃ j, k = j + 1 := ⟨k - 1, by omega⟩
      rw [show ((j + 1 : Nat) : Int) - 1 = (j : Int) from by omega]
      have hj : j < s.size := by omega
      have hcv := conv_one
      go_wp2
      · have e255 : ((s[j].toNat : Int) == 255) = true := by assumption
        go_round
        case rel =>
          refine ⟨j, by omega, by go_num, ?_⟩
          intro i h hji
          rcases Nat.eq_or_lt_of_le hji with rfl | hlt
          · simp at e255
            exact UInt8.toNat_inj.1 (by simp; omega)
          · exact H.out i h (by omega)
        case measure => simp [intOf]
      · have e255 : ((s[j].toNat : Int) == 255) = false := by assumption
        have hadd : ∀ (w : World) (x : Int), (Op.stringOp .add (s.extract 0 j) (strOfNums [x])).run Try.prog w = .ok (.string (s.extract 0 j ++ strOfNums [x])) w := fun w x => run_string_add_sum w _ _ (by rw [strOfNums_size, ByteArray.size_extract]; simp; omega)
        go_region
        go_wp2
        go_ret2
        refine ⟨.inr ⟨j, hj, rfl, ?_, fun i h hji => H.out i h (by omega)⟩, ((Grown.refl _).alloc _ _).drew, ((Below.refl _ _).alloc (Nat.le_refl _) _).drew⟩
        intro e
        rw [e] at e255
        simp at e255

end Go.Proofs.Ytbkaahmkaphfoab
