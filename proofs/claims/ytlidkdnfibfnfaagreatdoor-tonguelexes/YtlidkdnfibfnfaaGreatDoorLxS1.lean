import Derived.Test.YtlidkdnfibfnfaaGreatDoorLxR11
namespace Go.Proofs.YtlidkdnfibfnfaaGreatDoor
open Go.ChangeShapes Go.WideShapes Go.ChangeAt Go.RowKit
set_option linter.unusedVariables false
set_option maxRecDepth 100000
abbrev isSm (n : Nat) : Prop := (97 ≤ n ∧ n ≤ 122) ∨ n = 95
theorem digT (c : Nat) (w : World) (hc : c < 256) : Calls Tryz.prog 30 #[.int .u8 (c : Int)] w fun e w' => e = .returned (.bool (decide (isDg c))) ∧ w' = w := by
  have hsp : (0 ≤ c ∧ c ≤ 47) ∨ (48 ≤ c ∧ c ≤ 57) ∨ (58 ≤ c ∧ c ≤ 255) := by omega
  rcases hsp with h | h | h
  · rw [decide_eq_false (fun h : isDg c => by unfold isDg at h; omega)]
    have : ¬ ((48 : Int) ≤ (c : Int)) := by omega
    have : ((c : Int) ≤ 57) := by omega
    go_enter Tryz.func30, Tryz.ntmps30
    go_wp2
    go_ret
    exact ⟨by first | rfl | (simp; done) | (simp; omega), rfl⟩
  · rw [decide_eq_true (show isDg c from by unfold isDg; omega)]
    have : ((48 : Int) ≤ (c : Int)) := by omega
    have : ((c : Int) ≤ 57) := by omega
    go_enter Tryz.func30, Tryz.ntmps30
    go_wp2
    go_ret
    exact ⟨by first | rfl | (simp; done) | (simp; omega), rfl⟩
  · rw [decide_eq_false (fun h : isDg c => by unfold isDg at h; omega)]
    have : ((48 : Int) ≤ (c : Int)) := by omega
    have : ¬ ((c : Int) ≤ 57) := by omega
    go_enter Tryz.func30, Tryz.ntmps30
    go_wp2
    go_ret
    exact ⟨by first | rfl | (simp; done) | (simp; omega), rfl⟩
theorem smT (c : Nat) (w : World) (hc : c < 256) : Calls Tryz.prog 45 #[.int .u8 (c : Int)] w fun e w' => e = .returned (.bool (decide (isSm c))) ∧ w' = w := by
  have hsp : (0 ≤ c ∧ c ≤ 94) ∨ (95 ≤ c ∧ c ≤ 95) ∨ (96 ≤ c ∧ c ≤ 96) ∨ (97 ≤ c ∧ c ≤ 122) ∨ (123 ≤ c ∧ c ≤ 255) := by omega
  rcases hsp with h | h | h | h | h
  · rw [decide_eq_false (fun h : isSm c => by unfold isSm at h; omega)]
    have : ¬ ((97 : Int) ≤ (c : Int)) := by omega
    have : ((c : Int) ≤ 122) := by omega
    have : ((c : Int) == 95) = false := by rw [beq_eq_false_iff_ne]; omega
    have : ¬ (c : Int) = 95 := by omega
    go_enter Tryz.func45, Tryz.ntmps45
    go_wp2
    go_ret
    exact ⟨by first | rfl | (simp; done) | (simp; omega), rfl⟩
  · rw [decide_eq_true (show isSm c from by unfold isSm; omega)]
    have : ¬ ((97 : Int) ≤ (c : Int)) := by omega
    have : ((c : Int) ≤ 122) := by omega
    have : ((c : Int) == 95) = true := by rw [beq_iff_eq]; omega
    have : (c : Int) = 95 := by omega
    go_enter Tryz.func45, Tryz.ntmps45
    go_wp2
    go_ret
    exact ⟨by first | rfl | (simp; done) | (simp; omega), rfl⟩
  · rw [decide_eq_false (fun h : isSm c => by unfold isSm at h; omega)]
    have : ¬ ((97 : Int) ≤ (c : Int)) := by omega
    have : ((c : Int) ≤ 122) := by omega
    have : ((c : Int) == 95) = false := by rw [beq_eq_false_iff_ne]; omega
    have : ¬ (c : Int) = 95 := by omega
    go_enter Tryz.func45, Tryz.ntmps45
    go_wp2
    go_ret
    exact ⟨by first | rfl | (simp; done) | (simp; omega), rfl⟩
  · rw [decide_eq_true (show isSm c from by unfold isSm; omega)]
    have : ((97 : Int) ≤ (c : Int)) := by omega
    have : ((c : Int) ≤ 122) := by omega
    have : ((c : Int) == 95) = false := by rw [beq_eq_false_iff_ne]; omega
    have : ¬ (c : Int) = 95 := by omega
    go_enter Tryz.func45, Tryz.ntmps45
    go_wp2
    go_ret
    exact ⟨by first | rfl | (simp; done) | (simp; omega), rfl⟩
  · rw [decide_eq_false (fun h : isSm c => by unfold isSm at h; omega)]
    have : ((97 : Int) ≤ (c : Int)) := by omega
    have : ¬ ((c : Int) ≤ 122) := by omega
    have : ((c : Int) == 95) = false := by rw [beq_eq_false_iff_ne]; omega
    have : ¬ (c : Int) = 95 := by omega
    go_enter Tryz.func45, Tryz.ntmps45
    go_wp2
    go_ret
    exact ⟨by first | rfl | (simp; done) | (simp; omega), rfl⟩
theorem letT (c : Nat) (w : World) (hc : c < 256) : Calls Tryz.prog 28 #[.int .u8 (c : Int)] w fun e w' => e = .returned (.bool (decide (isLt c))) ∧ w' = w := by
  have hsp : (0 ≤ c ∧ c ≤ 64) ∨ (65 ≤ c ∧ c ≤ 90) ∨ (91 ≤ c ∧ c ≤ 94) ∨ (95 ≤ c ∧ c ≤ 95) ∨ (96 ≤ c ∧ c ≤ 96) ∨ (97 ≤ c ∧ c ≤ 122) ∨ (123 ≤ c ∧ c ≤ 255) := by omega
  rcases hsp with h | h | h | h | h | h | h
  · rw [decide_eq_false (fun h : isLt c => by unfold isLt at h; omega)]
    have : ¬ ((65 : Int) ≤ (c : Int)) := by omega
    have : ((c : Int) ≤ 90) := by omega
    go_enter Tryz.func28, Tryz.ntmps28
    go_wp2_with fail
    refine (smT c _ hc).mono ?_
    rintro e w1 ⟨rfl, rfl⟩
    rw [decide_eq_false (fun h : isSm c => by unfold isSm at h; omega)]
    go_wp2
    go_ret
    exact ⟨by first | rfl | (simp; done) | (simp; omega), rfl⟩
  · rw [decide_eq_true (show isLt c from by unfold isLt; omega)]
    have : ((65 : Int) ≤ (c : Int)) := by omega
    have : ((c : Int) ≤ 90) := by omega
    go_enter Tryz.func28, Tryz.ntmps28
    go_wp2_with fail
    refine (smT c _ hc).mono ?_
    rintro e w1 ⟨rfl, rfl⟩
    rw [decide_eq_false (fun h : isSm c => by unfold isSm at h; omega)]
    go_wp2
    go_ret
    exact ⟨by first | rfl | (simp; done) | (simp; omega), rfl⟩
  · rw [decide_eq_false (fun h : isLt c => by unfold isLt at h; omega)]
    have : ((65 : Int) ≤ (c : Int)) := by omega
    have : ¬ ((c : Int) ≤ 90) := by omega
    go_enter Tryz.func28, Tryz.ntmps28
    go_wp2_with fail
    refine (smT c _ hc).mono ?_
    rintro e w1 ⟨rfl, rfl⟩
    rw [decide_eq_false (fun h : isSm c => by unfold isSm at h; omega)]
    go_wp2
    go_ret
    exact ⟨by first | rfl | (simp; done) | (simp; omega), rfl⟩
  · rw [decide_eq_true (show isLt c from by unfold isLt; omega)]
    have : ((65 : Int) ≤ (c : Int)) := by omega
    have : ¬ ((c : Int) ≤ 90) := by omega
    go_enter Tryz.func28, Tryz.ntmps28
    go_wp2_with fail
    refine (smT c _ hc).mono ?_
    rintro e w1 ⟨rfl, rfl⟩
    rw [decide_eq_true (show isSm c from by unfold isSm; omega)]
    go_wp2
    go_ret
    exact ⟨by first | rfl | (simp; done) | (simp; omega), rfl⟩
  · rw [decide_eq_false (fun h : isLt c => by unfold isLt at h; omega)]
    have : ((65 : Int) ≤ (c : Int)) := by omega
    have : ¬ ((c : Int) ≤ 90) := by omega
    go_enter Tryz.func28, Tryz.ntmps28
    go_wp2_with fail
    refine (smT c _ hc).mono ?_
    rintro e w1 ⟨rfl, rfl⟩
    rw [decide_eq_false (fun h : isSm c => by unfold isSm at h; omega)]
    go_wp2
    go_ret
    exact ⟨by first | rfl | (simp; done) | (simp; omega), rfl⟩
  · rw [decide_eq_true (show isLt c from by unfold isLt; omega)]
    have : ((65 : Int) ≤ (c : Int)) := by omega
    have : ¬ ((c : Int) ≤ 90) := by omega
    go_enter Tryz.func28, Tryz.ntmps28
    go_wp2_with fail
    refine (smT c _ hc).mono ?_
    rintro e w1 ⟨rfl, rfl⟩
    rw [decide_eq_true (show isSm c from by unfold isSm; omega)]
    go_wp2
    go_ret
    exact ⟨by first | rfl | (simp; done) | (simp; omega), rfl⟩
  · rw [decide_eq_false (fun h : isLt c => by unfold isLt at h; omega)]
    have : ((65 : Int) ≤ (c : Int)) := by omega
    have : ¬ ((c : Int) ≤ 90) := by omega
    go_enter Tryz.func28, Tryz.ntmps28
    go_wp2_with fail
    refine (smT c _ hc).mono ?_
    rintro e w1 ⟨rfl, rfl⟩
    rw [decide_eq_false (fun h : isSm c => by unfold isSm at h; omega)]
    go_wp2
    go_ret
    exact ⟨by first | rfl | (simp; done) | (simp; omega), rfl⟩
theorem wdT (c : Nat) (w : World) (hc : c < 256) : Calls Tryz.prog 47 #[.int .u8 (c : Int)] w fun e w' => e = .returned (.bool (decide (isWd c))) ∧ w' = w := by
  go_enter Tryz.func47, Tryz.ntmps47
  go_wp2_with fail
  refine (letT c _ hc).mono ?_
  rintro e w1 ⟨rfl, rfl⟩
  by_cases hL : isLt c
  · rw [decide_eq_true hL]
    have HW : Hid (decide (isWd c) = true) := decide_eq_true (Or.inl hL)
    go_wp2
    go_ret
    exact ⟨by rw [HW.out]; rfl, rfl⟩
  · rw [decide_eq_false hL]
    go_wp2_with fail
    refine (digT c _ hc).mono ?_
    rintro e w1 ⟨rfl, rfl⟩
    have HW : Hid (decide (isWd c) = decide (isDg c)) := by
      show decide (isWd c) = decide (isDg c)
      by_cases hD : isDg c
      · rw [decide_eq_true hD, decide_eq_true (show isWd c from Or.inr hD)]
      · rw [decide_eq_false hD, decide_eq_false (show ¬ isWd c from fun h => h.elim hL hD)]
    generalize decide (isDg c) = b at *
    go_wp2
    go_ret
    exact ⟨by rw [HW.out]; rfl, rfl⟩
theorem hexValT (c : Nat) (w : World) (hc : c < 256) : Calls Tryz.prog 43 #[.int .u8 (c : Int)] w fun e w' => e = .returned (.int .i64 (hexV c)) ∧ w' = w := by
  have hsp : (0 ≤ c ∧ c ≤ 47) ∨ (48 ≤ c ∧ c ≤ 57) ∨ (58 ≤ c ∧ c ≤ 64) ∨ (65 ≤ c ∧ c ≤ 70) ∨ (71 ≤ c ∧ c ≤ 96) ∨ (97 ≤ c ∧ c ≤ 102) ∨ (103 ≤ c ∧ c ≤ 255) := by omega
  rcases hsp with h | h | h | h | h | h | h
  · have hdg : ¬ isDg c := by unfold isDg; omega
    have : ¬ ((97 : Int) ≤ (c : Int)) := by omega
    have : ((c : Int) ≤ 102) := by omega
    have : ¬ ((65 : Int) ≤ (c : Int)) := by omega
    have : ((c : Int) ≤ 70) := by omega
    have hv : hexV c = -1 := by unfold hexV; rw [if_neg hdg]; rw [if_neg (by omega), if_neg (by omega)]
    go_enter Tryz.func43, Tryz.ntmps43
    go_wp2_with fail
    refine (digT c w hc).mono ?_
    rintro e w1 ⟨rfl, rfl⟩
    rw [decide_eq_false hdg]
    go_wp2
    go_ret
    exact ⟨by first | rfl | (congr 2; omega) | go_num, rfl⟩
  · have hdg : isDg c := ⟨by omega, by omega⟩
    have : ¬ ((97 : Int) ≤ (c : Int)) := by omega
    have : ((c : Int) ≤ 102) := by omega
    have : ¬ ((65 : Int) ≤ (c : Int)) := by omega
    have : ((c : Int) ≤ 70) := by omega
    have hv : hexV c = (c : Int) - 48 := by unfold hexV; rw [if_pos hdg]
    have hw : IntKind.u8.wrap ((c : Int) - 48) = (c : Int) - 48 := by rw [IntKind.wrap_u8]; omega
    go_enter Tryz.func43, Tryz.ntmps43
    go_wp2_with fail
    refine (digT c w hc).mono ?_
    rintro e w1 ⟨rfl, rfl⟩
    rw [decide_eq_true hdg]
    go_wp2
    go_ret
    exact ⟨by first | rfl | (congr 2; omega) | go_num, rfl⟩
  · have hdg : ¬ isDg c := by unfold isDg; omega
    have : ¬ ((97 : Int) ≤ (c : Int)) := by omega
    have : ((c : Int) ≤ 102) := by omega
    have : ¬ ((65 : Int) ≤ (c : Int)) := by omega
    have : ((c : Int) ≤ 70) := by omega
    have hv : hexV c = -1 := by unfold hexV; rw [if_neg hdg]; rw [if_neg (by omega), if_neg (by omega)]
    go_enter Tryz.func43, Tryz.ntmps43
    go_wp2_with fail
    refine (digT c w hc).mono ?_
    rintro e w1 ⟨rfl, rfl⟩
    rw [decide_eq_false hdg]
    go_wp2
    go_ret
    exact ⟨by first | rfl | (congr 2; omega) | go_num, rfl⟩
  · have hdg : ¬ isDg c := by unfold isDg; omega
    have : ¬ ((97 : Int) ≤ (c : Int)) := by omega
    have : ((c : Int) ≤ 102) := by omega
    have : ((65 : Int) ≤ (c : Int)) := by omega
    have : ((c : Int) ≤ 70) := by omega
    have hv : hexV c = (c : Int) - 55 := by unfold hexV; rw [if_neg hdg]; rw [if_neg (by omega), if_pos ⟨by omega, by omega⟩]
    have hw : IntKind.u8.wrap ((c : Int) - 65) = (c : Int) - 65 := by rw [IntKind.wrap_u8]; omega
    go_enter Tryz.func43, Tryz.ntmps43
    go_wp2_with fail
    refine (digT c w hc).mono ?_
    rintro e w1 ⟨rfl, rfl⟩
    rw [decide_eq_false hdg]
    go_wp2
    go_ret
    exact ⟨by first | rfl | (congr 2; omega) | go_num, rfl⟩
  · have hdg : ¬ isDg c := by unfold isDg; omega
    have : ¬ ((97 : Int) ≤ (c : Int)) := by omega
    have : ((c : Int) ≤ 102) := by omega
    have : ((65 : Int) ≤ (c : Int)) := by omega
    have : ¬ ((c : Int) ≤ 70) := by omega
    have hv : hexV c = -1 := by unfold hexV; rw [if_neg hdg]; rw [if_neg (by omega), if_neg (by omega)]
    go_enter Tryz.func43, Tryz.ntmps43
    go_wp2_with fail
    refine (digT c w hc).mono ?_
    rintro e w1 ⟨rfl, rfl⟩
    rw [decide_eq_false hdg]
    go_wp2
    go_ret
    exact ⟨by first | rfl | (congr 2; omega) | go_num, rfl⟩
  · have hdg : ¬ isDg c := by unfold isDg; omega
    have : ((97 : Int) ≤ (c : Int)) := by omega
    have : ((c : Int) ≤ 102) := by omega
    have : ((65 : Int) ≤ (c : Int)) := by omega
    have : ¬ ((c : Int) ≤ 70) := by omega
    have hv : hexV c = (c : Int) - 87 := by unfold hexV; rw [if_neg hdg]; rw [if_pos ⟨by omega, by omega⟩]
    have hw : IntKind.u8.wrap ((c : Int) - 97) = (c : Int) - 97 := by rw [IntKind.wrap_u8]; omega
    go_enter Tryz.func43, Tryz.ntmps43
    go_wp2_with fail
    refine (digT c w hc).mono ?_
    rintro e w1 ⟨rfl, rfl⟩
    rw [decide_eq_false hdg]
    go_wp2
    go_ret
    exact ⟨by first | rfl | (congr 2; omega) | go_num, rfl⟩
  · have hdg : ¬ isDg c := by unfold isDg; omega
    have : ((97 : Int) ≤ (c : Int)) := by omega
    have : ¬ ((c : Int) ≤ 102) := by omega
    have : ((65 : Int) ≤ (c : Int)) := by omega
    have : ¬ ((c : Int) ≤ 70) := by omega
    have hv : hexV c = -1 := by unfold hexV; rw [if_neg hdg]; rw [if_neg (by omega), if_neg (by omega)]
    go_enter Tryz.func43, Tryz.ntmps43
    go_wp2_with fail
    refine (digT c w hc).mono ?_
    rintro e w1 ⟨rfl, rfl⟩
    rw [decide_eq_false hdg]
    go_wp2
    go_ret
    exact ⟨by first | rfl | (congr 2; omega) | go_num, rfl⟩
end Go.Proofs.YtlidkdnfibfnfaaGreatDoor
