import Derived.Test.YtbkaahmkaphfoaaRows
import Derived.WalkKit
import Derived.ProofKit
import Derived.OpenShut
import Derived.ShutString
import Derived.WalkLawsBesides
import Derived.Outline
import Derived.WalkSpells
import Derived.BigRegion
import Derived.Laws.BytesArg
import Derived.Test.YtbkaahmkaphfoaaPlainAbove
namespace Go.Proofs.Ytbkaahmkaphfoaa
open Go.ChangeShapes Go.WideShapes Go.ChangeAt Go.RowKit

theorem conv_one (w : World) (x : Int) :
    (convert 54 9 (.slice (some ⟨w.heap.size, 0, none⟩) 1 1)).run Try.prog (w.alloc (.cells #[.int .u8 x] 5)).drew = .ok (.string (strOfNums [x])) (w.alloc (.cells #[.int .u8 x] 5)).drew :=
  run_convert_bytes_arg _ 54 5 Try.underlying54 Try.underlying5 w.heap.size 0 1 1 [x] rfl (fun i hi => by
    have : i = 0 := by omega
    subst this
    simp) 9 Try.underlying9

/-- After: k: how many bytes stand ahead of the ff's at the end. -/
def AfterSays (s : ByteArray) (e : Ending) : Prop :=
  (e = .returned (.tuple #[.string ByteArray.empty, .bool false]) ∧ ∀ i (h : i < s.size), s[i] = 255) ∨
  ∃ j, ∃ hj : j < s.size, e = .returned (.tuple #[.string (s.extract 0 j ++ strOfNums [((s[j].toNat : Int) + 1) % 256]), .bool true]) ∧ s[j] ≠ 255 ∧ ∀ i (h : i < s.size), j < i → s[i] = 255

set_option maxRecDepth 100000 in
set_option maxHeartbeats 800000 in
theorem after_any (s : ByteArray) (w : World) (hs : s.size ≤ 140737488351232) :
    Calls Try.prog 7 #[.string s] w fun e w' => AfterSays s e ∧ Grown w w' := by
  go_enter Try.func7, Try.ntmps7
  go_wp2
  go_loop [4] (fun l => ∃ k : Nat, k ≤ s.size ∧ l = .int .i64 ((k : Int) - 1) ∧ (∀ i (h : i < s.size), k ≤ i → s[i] = 255)) (fun l => (intOf l + 1).toNat)
  case atStart => exact ⟨s.size, Nat.le_refl _, rfl, fun i h h' => by omega⟩
  case round =>
    obtain ⟨k, hk, rfl, hall⟩ := hrel
    have H : Hid (∀ i (h : i < s.size), k ≤ i → s[i] = 255) := hall
    clear hall
    rcases Nat.eq_zero_or_pos k with rfl | hp
    · go_wp2
      go_ret2
      exact ⟨.inl ⟨rfl, fun i h => H.out i h (by omega)⟩, Grown.refl _⟩
    · obtain ⟨j, rfl⟩ : ∃ j, k = j + 1 := ⟨k - 1, by omega⟩
      rw [show ((j + 1 : Nat) : Int) - 1 = (j : Int) from by omega]
      have hj : j < s.size := by omega
      have hcv := conv_one
      go_wp2
      · have e255 : ((s[j].toNat : Int) == 255) = true := by assumption
        go_round
        case rel =>
          refine ⟨j, by omega, by go_num, ?_⟩
          intro i h hji
          rcases Nat.eq_or_lt_of_le hji with rfl | hlt
          · simp at e255
            exact UInt8.toNat_inj.1 (by simp; omega)
          · exact H.out i h (by omega)
        case measure => simp [intOf]
      · have e255 : ((s[j].toNat : Int) == 255) = false := by assumption
        have hadd : ∀ (w : World) (x : Int), (Op.stringOp .add (s.extract 0 j) (strOfNums [x])).run Try.prog w = .ok (.string (s.extract 0 j ++ strOfNums [x])) w := fun w x => run_string_add_sum w _ _ (by rw [strOfNums_size, ByteArray.size_extract]; simp; omega)
        go_region
        go_wp2
        go_ret2
        refine ⟨.inr ⟨j, hj, rfl, ?_, fun i h hji => H.out i h (by omega)⟩, ((Grown.refl _).alloc _ _).drew⟩
        intro e
        rw [e] at e255
        simp at e255

set_option maxRecDepth 100000 in
set_option maxHeartbeats 1600000 in
theorem above_walk (a0 : ByteArray) (a1 : ByteArray) (a2 : ByteArray) (w : World) (z0 : a0.size ≤ 140737488351232) (z1 : a1.size ≤ 140737488351232) (_z2 : a2.size ≤ 140737488351232) :
    Calls Try.prog 3 #[.string a0, .string a1, .string a2] w fun e w' => e = .returned (.bool true) ∧ Grown w w' := by
  go_enter Try.func3, Try.ntmps3
  go_wp2_with fail
  refine (after_any _ _ z0).mono ?_
  rintro e w1 ⟨he, hg⟩
  have HG : Hid (Grown w w1) := hg
  clear hg
  obtain ⟨r, ok, rfl, hr⟩ : ∃ r ok, e = .returned (.tuple #[.string r, .bool ok]) ∧ ((ok = false ∧ r = ByteArray.empty ∧ anyNot a0 a0.size = false) ∨ (ok = true ∧ anyNot a0 a0.size = true ∧ Op.bytesLess (a0 ++ a1).toList r.toList = true ∧ (Op.bytesLess a2.toList a0.toList = false → Op.bytesLess a2.toList r.toList = true → a0.size ≤ a2.size ∧ ((a2.extract 0 a0.size).toList == a0.toList) = true))) := by
    rcases he with ⟨rfl, hall⟩ | ⟨j, hj, rfl, hne, hall⟩
    · exact ⟨_, _, rfl, .inl ⟨rfl, rfl, anyNot_false a0 hall⟩⟩
    · exact ⟨_, _, rfl, .inr ⟨rfl, anyNot_true a0 j hj hne, top_less a0 a1 j hj hne, none_between a0 a2 j hj hall⟩⟩
  have HR : Hid _ := hr
  clear hr he
  go_wp2_with fail
  go_loop [9, 10] (fun b i => ∃ k : Nat, k ≤ a0.size ∧ i = .int .i64 k ∧ b = .bool (anyNot a0 k)) (fun _ i => a0.size - (intOf i).toNat)
  case atStart => exact ⟨0, Nat.zero_le _, rfl, by rw [anyNot_zero]⟩
  case round =>
    obtain ⟨k, hk, rfl, rfl⟩ := hrel
    by_cases hlt : k < a0.size
    · have HS : Hid (anyNot a0 (k + 1) = (anyNot a0 k || a0[k] != 255)) := anyNot_succ a0 k hlt
      have hb := bne_byte a0[k]
      go_wp2
      · have h1 : anyNot a0 k = true := by assumption
        go_round
        case rel => exact ⟨k + 1, by omega, by go_num, by rw [HS.out, h1]; rfl⟩
        case measure => simp [intOf]; omega
      · have h1 : ¬ anyNot a0 k = true := by assumption
        go_round
        case rel => exact ⟨k + 1, by omega, by go_num, by rw [HS.out, (by simpa using h1 : anyNot a0 k = false), Bool.false_or]⟩
        case measure => simp [intOf]; omega
    · have hk' : k = a0.size := by omega
      subst hk'
      rcases HR.out with ⟨rfl, rfl, hany⟩ | ⟨rfl, hany, hless, hbet⟩
      · clear HR
        go_wp2
        go_ret
        exact ⟨rfl, HG.out⟩
      · clear HR
        have HB : Hid _ := hbet
        clear hbet
        have hadd : ∀ (w : World), (Op.stringOp .add a0 a1).run Try.prog w = .ok (.string (a0 ++ a1)) w := fun w => run_string_add_sum w _ _ (by omega)
        cases h1 : Op.bytesLess a2.toList a0.toList
        · cases h2 : Op.bytesLess a2.toList r.toList
          · go_wp2
            all_goals (go_ret; exact ⟨rfl, HG.out⟩)
          · obtain ⟨h3, h4⟩ := HB.out h1 h2
            go_wp2
            go_ret
            exact ⟨rfl, HG.out⟩
        · go_wp2
          all_goals (go_ret; exact ⟨rfl, HG.out⟩)
end Go.Proofs.Ytbkaahmkaphfoaa
