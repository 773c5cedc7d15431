import Derived.Test.YtlnpeicflofkjaaDoorByteP
import Derived.Deep.QuietTactic
import Derived.BigQuiet
namespace Go.Proofs.YtlnpeicflofkjaaDoor
open Go.ChangeShapes Go.WideShapes Go.ChangeAt Go.RowKit
set_option linter.unusedVariables false
set_option maxRecDepth 100000
theorem numB (x : Int) (w : World) : Calls Tryd.prog 8 #[.int .i64 x] w fun e w' => e = .returned (.int .i64 x) ∧ w' = w := by
  go_enter Tryd.func8, Tryd.ntmps8
  go_wp2
  go_ret
  exact ⟨rfl, rfl⟩
theorem numbered_any (l : Int) (w : World) : Calls Tryd.prog 6 #[.int .u64 l] w fun e w' => ∃ m : Int, e = .returned (.int .u64 m) ∧ w' = w ∧ 1 ≤ m ∧ m ≤ 4611686018427387903 := by
  by_cases h1 : l < 1
  · go_enter Tryd.func6, Tryd.ntmps6
    go_wp2
    go_ret
    exact ⟨1, rfl, rfl, by omega, by omega⟩
  · by_cases h2 : 4611686018427387903 < l
    · go_enter Tryd.func6, Tryd.ntmps6
      go_wp2
      go_ret
      exact ⟨1, rfl, rfl, by omega, by omega⟩
    · go_enter Tryd.func6, Tryd.ntmps6
      go_wp2
      go_ret
      exact ⟨l, rfl, rfl, by omega, by omega⟩
/-- A kind, and a size of body, that may be together. -/
def OkF (k : Int) (n : Nat) : Prop := (k = 1 ∧ 1 ≤ n ∧ n ≤ 131072) ∨ (k = 2 ∧ n = 8) ∨ (k = 3 ∧ n = 0)
theorem OkF.may {k m : Int} {n : Nat} (h : OkF k n) (h1 : 1 ≤ m) (h2 : m ≤ 4611686018427387903) : mayFr k m n = true := by
  unfold mayFr
  simp
  unfold OkF at h
  omega
set_option maxHeartbeats 800000 in
theorem framed_any (k : Int) (b : ByteArray) (w : World) (hz : b.size ≤ 140737488351232) : Calls Tryd.prog 5 #[.int .i64 k, .string b] w fun e w' => ∃ (k' : Int) (b' : ByteArray), e = .returned (.tuple #[.int .i64 k', .string b']) ∧ Below w.heap.size w w' ∧ OkF k' b'.size := by
  by_cases k2 : k = 2
  · subst k2
    go_enter Tryd.func5, Tryd.ntmps5
    go_wp2
    go_loopw [1] (fun c wr => ∃ d : ByteArray, c = .string d ∧ d.size ≤ 140737488351240 ∧ wr = w) (fun c _ => match c with | .string d => 8 - d.size | _ => 0)
    case atStart => exact ⟨b, rfl, by omega, rfl⟩
    case round =>
      obtain ⟨d, rfl, hd, rfl⟩ := hrel
      by_cases h8 : d.size < 8
      · have ha : ∀ W : World, (Op.stringOp .add d (⟨#[109]⟩ : ByteArray)).run Tryd.prog W = .ok (.string (d ++ ⟨#[109]⟩)) W := fun W => run_string_add_sum W _ _ (by show d.size + 1 ≤ _; omega)
        have HS : Hid ((d ++ (⟨#[109]⟩ : ByteArray)).size = d.size + 1) := by show _ = _; rw [ByteArray.size_append]; rfl
        generalize d ++ (⟨#[109]⟩ : ByteArray) = d2 at *
        go_wp2
        go_roundw
        case rel => exact ⟨d2, rfl, by rw [HS.out]; omega, by first | rfl | trivial⟩
        case measure => show 8 - d2.size < 8 - d.size; rw [HS.out]; omega
      · have HS : Hid ((d.extract 0 8).size = 8) := by show _ = _; rw [ByteArray.size_extract]; omega
        go_wp2
        go_quiet (fail)
        go_wp2
        go_ret2
        exact ⟨2, _, rfl, below_drewNc _, .inr (.inl ⟨rfl, HS.out⟩)⟩
  · have q2 : (k == 2) = false := by simpa using k2
    by_cases k3 : k = 3
    · subst k3
      go_enter Tryd.func5, Tryd.ntmps5
      go_wp2
      go_ret2
      exact ⟨3, _, rfl, Below.refl _ _, .inr (.inr ⟨rfl, rfl⟩)⟩
    · have q3 : (k == 3) = false := by simpa using k3
      clear k2 k3
      by_cases e0 : b.size = 0
      · have he : b.toList.isEmpty = true := by
          rw [ByteArray.toList_eq]
          show b.data.toList.isEmpty = true
          rw [List.isEmpty_iff, ← List.length_eq_zero_iff, Array.length_toList]
          exact e0
        go_enter Tryd.func5, Tryd.ntmps5
        go_wp2
        go_ret2
        exact ⟨1, _, rfl, Below.refl _ _, .inl ⟨rfl, by decide, by decide⟩⟩
      · have he : b.toList.isEmpty = false := by
          rw [Bool.eq_false_iff]
          intro h
          apply e0
          rw [ByteArray.toList_eq, List.isEmpty_iff, ← List.length_eq_zero_iff, Array.length_toList] at h
          exact h
        by_cases hb : 131072 < b.size
        · have HS : Hid ((b.extract 0 131072).size = 131072) := by show _ = _; rw [ByteArray.size_extract]; omega
          go_enter Tryd.func5, Tryd.ntmps5
          go_wp2
          go_ret2
          exact ⟨1, _, rfl, Below.refl _ _, .inl ⟨rfl, by rw [HS.out]; omega, by rw [HS.out]; omega⟩⟩
        · have HO : Hid (OkF 1 b.size) := .inl ⟨rfl, by omega, by omega⟩
          go_enter Tryd.func5, Tryd.ntmps5
          go_wp2
          go_ret2
          exact ⟨1, _, rfl, Below.refl _ _, HO.out⟩
end Go.Proofs.YtlnpeicflofkjaaDoor
