import Derived.Test.YtlidkdnfibfnfaaGreatDoorLxP
import Derived.Test.YtlidkdnfibfnfaaGreatDoorLxO
namespace Go.Proofs.YtlidkdnfibfnfaaGreatDoor
open Go.ChangeShapes Go.WideShapes Go.ChangeAt Go.RowKit
set_option linter.unusedVariables false
set_option maxRecDepth 100000
theorem refDigit (c : Nat) (w : World) : Calls Tryz.prog 18 #[.int .u8 (c : Int)] w fun e w' => e = .returned (.bool (decide (isDg c))) ∧ w' = w := by
  have hsp : (0 ≤ c ∧ c ≤ 47) ∨ (48 ≤ c ∧ c ≤ 57) ∨ 58 ≤ c := by omega
  rcases hsp with h | h | h
  · rw [decide_eq_false (fun h : isDg c => by unfold isDg at h; omega)]
    have : ¬ ((48 : Int) ≤ (c : Int)) := by omega
    have : ((c : Int) ≤ 57) := by omega
    go_enter Tryz.func18, Tryz.ntmps18
    go_wp2
    go_ret
    exact ⟨rfl, rfl⟩
  · rw [decide_eq_true (show isDg c from ⟨by omega, by omega⟩)]
    have : ((48 : Int) ≤ (c : Int)) := by omega
    have : ((c : Int) ≤ 57) := by omega
    go_enter Tryz.func18, Tryz.ntmps18
    go_wp2
    go_ret
    exact ⟨rfl, rfl⟩
  · rw [decide_eq_false (fun h : isDg c => by unfold isDg at h; omega)]
    have : ((48 : Int) ≤ (c : Int)) := by omega
    have : ¬ ((c : Int) ≤ 57) := by omega
    go_enter Tryz.func18, Tryz.ntmps18
    go_wp2
    go_ret
    exact ⟨rfl, rfl⟩
theorem refLetter (c : Nat) (w : World) : Calls Tryz.prog 16 #[.int .u8 (c : Int)] w fun e w' => e = .returned (.bool (decide (isLt c))) ∧ w' = w := by
  have hsp : (0 ≤ c ∧ c ≤ 64) ∨ (65 ≤ c ∧ c ≤ 90) ∨ (91 ≤ c ∧ c ≤ 94) ∨ (95 ≤ c ∧ c ≤ 95) ∨ (96 ≤ c ∧ c ≤ 96) ∨ (97 ≤ c ∧ c ≤ 122) ∨ 123 ≤ c := by omega
  rcases hsp with h | h | h | h | h | h | h
  · rw [decide_eq_false (fun h : isLt c => by unfold isLt at h; omega)]
    have : ¬ ((97 : Int) ≤ (c : Int)) := by omega
    have : ((c : Int) ≤ 122) := by omega
    have : ¬ ((65 : Int) ≤ (c : Int)) := by omega
    have : ((c : Int) ≤ 90) := by omega
    have : ((c : Int) == 95) = false := by rw [beq_eq_false_iff_ne]; omega
    go_enter Tryz.func16, Tryz.ntmps16
    go_wp2
    go_ret
    exact ⟨rfl, rfl⟩
  · rw [decide_eq_true (show isLt c from by unfold isLt; omega)]
    have : ¬ ((97 : Int) ≤ (c : Int)) := by omega
    have : ((c : Int) ≤ 122) := by omega
    have : ((65 : Int) ≤ (c : Int)) := by omega
    have : ((c : Int) ≤ 90) := by omega
    have : ((c : Int) == 95) = false := by rw [beq_eq_false_iff_ne]; omega
    go_enter Tryz.func16, Tryz.ntmps16
    go_wp2
    go_ret
    exact ⟨rfl, rfl⟩
  · rw [decide_eq_false (fun h : isLt c => by unfold isLt at h; omega)]
    have : ¬ ((97 : Int) ≤ (c : Int)) := by omega
    have : ((c : Int) ≤ 122) := by omega
    have : ((65 : Int) ≤ (c : Int)) := by omega
    have : ¬ ((c : Int) ≤ 90) := by omega
    have : ((c : Int) == 95) = false := by rw [beq_eq_false_iff_ne]; omega
    go_enter Tryz.func16, Tryz.ntmps16
    go_wp2
    go_ret
    exact ⟨rfl, rfl⟩
  · rw [decide_eq_true (show isLt c from by unfold isLt; omega)]
    have : ¬ ((97 : Int) ≤ (c : Int)) := by omega
    have : ((c : Int) ≤ 122) := by omega
    have : ((65 : Int) ≤ (c : Int)) := by omega
    have : ¬ ((c : Int) ≤ 90) := by omega
    have : ((c : Int) == 95) = true := by rw [beq_iff_eq]; omega
    go_enter Tryz.func16, Tryz.ntmps16
    go_wp2
    go_ret
    exact ⟨rfl, rfl⟩
  · rw [decide_eq_false (fun h : isLt c => by unfold isLt at h; omega)]
    have : ¬ ((97 : Int) ≤ (c : Int)) := by omega
    have : ((c : Int) ≤ 122) := by omega
    have : ((65 : Int) ≤ (c : Int)) := by omega
    have : ¬ ((c : Int) ≤ 90) := by omega
    have : ((c : Int) == 95) = false := by rw [beq_eq_false_iff_ne]; omega
    go_enter Tryz.func16, Tryz.ntmps16
    go_wp2
    go_ret
    exact ⟨rfl, rfl⟩
  · rw [decide_eq_true (show isLt c from by unfold isLt; omega)]
    have : ((97 : Int) ≤ (c : Int)) := by omega
    have : ((c : Int) ≤ 122) := by omega
    have : ((65 : Int) ≤ (c : Int)) := by omega
    have : ¬ ((c : Int) ≤ 90) := by omega
    have : ((c : Int) == 95) = false := by rw [beq_eq_false_iff_ne]; omega
    go_enter Tryz.func16, Tryz.ntmps16
    go_wp2
    go_ret
    exact ⟨rfl, rfl⟩
  · rw [decide_eq_false (fun h : isLt c => by unfold isLt at h; omega)]
    have : ((97 : Int) ≤ (c : Int)) := by omega
    have : ¬ ((c : Int) ≤ 122) := by omega
    have : ((65 : Int) ≤ (c : Int)) := by omega
    have : ¬ ((c : Int) ≤ 90) := by omega
    have : ((c : Int) == 95) = false := by rw [beq_eq_false_iff_ne]; omega
    go_enter Tryz.func16, Tryz.ntmps16
    go_wp2
    go_ret
    exact ⟨rfl, rfl⟩
end Go.Proofs.YtlidkdnfibfnfaaGreatDoor
