import Derived.Test.YtlidkdnfibfnfaaGreatDoorLxR2
namespace Go.Proofs.YtlidkdnfibfnfaaGreatDoor
open Go.ChangeShapes Go.WideShapes Go.ChangeAt Go.RowKit
set_option linter.unusedVariables false
set_option maxRecDepth 100000
def gapV : Except Nat Nat → Value
  | .ok j => .tuple #[.int .i64 (j : Int), .int .i64 0]
  | .error p => .tuple #[.int .i64 (-1), .int .i64 (p : Int)]
theorem gapP_out {s : ByteArray} {i : Nat} (h : ¬ i < s.size) : gapP s i = .ok i := by rw [gapP_eq, dif_neg h]
theorem gapP_bl {s : ByteArray} {i : Nat} (h : i < s.size) (hb : isBl (bA s i)) : gapP s i = gapP s (i + 1) := by rw [gapP_eq, dif_pos h, if_pos hb]
theorem gapP_line {s : ByteArray} {i : Nat} (h : i < s.size) (h1 : bA s i = 45) (h2 : bA s (i + 1) = 45) : gapP s i = gapP s (lineP s (i + 1)) := by
  rw [gapP_eq, dif_pos h, if_neg (by rw [h1]; decide), dif_pos ⟨h1, h2⟩]
theorem gapP_rem {s : ByteArray} {i : Nat} (h : i < s.size) (h1 : bA s i = 47) (h2 : bA s (i + 1) = 42) : gapP s i = match remP s (i + 2) with | none => .error i | some j => gapP s (j + 2) := by
  rw [gapP_eq, dif_pos h, if_neg (by rw [h1]; decide), dif_neg (by rw [h1]; omega), if_pos ⟨h1, h2⟩]
  cases remP s (i + 2) <;> rfl
theorem gapP_else {s : ByteArray} {i : Nat} (h : i < s.size) (h1 : ¬ isBl (bA s i)) (h2 : ¬ (bA s i = 45 ∧ bA s (i + 1) = 45)) (h3 : ¬ (bA s i = 47 ∧ bA s (i + 1) = 42)) : gapP s i = .ok i := by
  rw [gapP_eq, dif_pos h, if_neg h1, dif_neg h2, if_neg h3]
theorem lineP_step {s : ByteArray} {j : Nat} (h : j < s.size) (h1 : bA s j ≠ 10) : lineP s j = lineP s (j + 1) := by rw [lineP_eq, dif_pos ⟨h, h1⟩]
theorem lineP_stop {s : ByteArray} {j : Nat} (h : ¬ (j < s.size ∧ bA s j ≠ 10)) : lineP s j = j := by rw [lineP_eq, dif_neg h]
theorem remP_step {s : ByteArray} {j : Nat} (h : j + 1 < s.size) (h1 : ¬ (bA s j = 42 ∧ bA s (j + 1) = 47)) : remP s j = remP s (j + 1) := by rw [remP_eq, dif_pos h, if_neg h1]
theorem remP_hit {s : ByteArray} {j : Nat} (h : j + 1 < s.size) (h1 : bA s j = 42 ∧ bA s (j + 1) = 47) : remP s j = some j := by rw [remP_eq, dif_pos h, if_pos h1]
theorem remP_none {s : ByteArray} {j : Nat} (h : ¬ j + 1 < s.size) : remP s j = none := by rw [remP_eq, dif_neg h]
set_option maxHeartbeats 12800000 in
theorem refGap (s : ByteArray) (k : Nat) (w : World) (hs : s.size ≤ 65536) (hk : k ≤ s.size) : Calls Tryz.prog 10 #[.string s, .int .i64 (k : Int)] w fun e w' => e = .returned (gapV (gapP s k)) ∧ w' = w := by
  go_enter Tryz.func10, Tryz.ntmps10
  go_wp2_with fail
  go_loopw [1, 6, 7] (fun x _ _ wr => ∃ i : Nat, i ≤ s.size ∧ x = .int .i64 (i : Int) ∧ gapP s k = gapP s i ∧ wr = w) (fun x _ _ _ => s.size - (intOf x).toNat)
  case atStart => exact ⟨k, hk, rfl, rfl, rfl⟩
  case round =>
    obtain ⟨i, hi, rfl, hg, hw⟩ := hrel
    subst hw
    rename World => W0
    have HG : Hid (gapP s k = gapP s i) := hg
    clear hg
    by_cases hil : i < s.size
    · have hii : (i : Int) < (s.size : Int) := by omega
      have hb0 := bA_of hil
      by_cases b32 : s[i].toNat = 32
      · have e32a : ((s[i].toNat : Nat) : Int) = 32 := by omega
        have e32b : (((s[i].toNat : Nat) : Int) == 32) = true := by rw [beq_iff_eq]; omega
        have HV : Hid (gapP s k = gapP s (i + 1)) := HG.out.trans (gapP_bl hil (by unfold isBl; omega))
        go_wp2
        go_roundw
        case rel => exact ⟨i + 1, by omega, by go_num, HV.out, trivial⟩
        case measure => simp [intOf]; omega
      · by_cases b9 : s[i].toNat = 9
        · have n32a : ¬ ((s[i].toNat : Nat) : Int) = 32 := by omega
          have n32b : (((s[i].toNat : Nat) : Int) == 32) = false := by rw [beq_eq_false_iff_ne]; omega
          have e9a : ((s[i].toNat : Nat) : Int) = 9 := by omega
          have e9b : (((s[i].toNat : Nat) : Int) == 9) = true := by rw [beq_iff_eq]; omega
          have HV : Hid (gapP s k = gapP s (i + 1)) := HG.out.trans (gapP_bl hil (by unfold isBl; omega))
          go_wp2
          go_roundw
          case rel => exact ⟨i + 1, by omega, by go_num, HV.out, trivial⟩
          case measure => simp [intOf]; omega
        · by_cases b10 : s[i].toNat = 10
          · have n32a : ¬ ((s[i].toNat : Nat) : Int) = 32 := by omega
            have n32b : (((s[i].toNat : Nat) : Int) == 32) = false := by rw [beq_eq_false_iff_ne]; omega
            have n9a : ¬ ((s[i].toNat : Nat) : Int) = 9 := by omega
            have n9b : (((s[i].toNat : Nat) : Int) == 9) = false := by rw [beq_eq_false_iff_ne]; omega
            have e10a : ((s[i].toNat : Nat) : Int) = 10 := by omega
            have e10b : (((s[i].toNat : Nat) : Int) == 10) = true := by rw [beq_iff_eq]; omega
            have HV : Hid (gapP s k = gapP s (i + 1)) := HG.out.trans (gapP_bl hil (by unfold isBl; omega))
            go_wp2
            go_roundw
            case rel => exact ⟨i + 1, by omega, by go_num, HV.out, trivial⟩
            case measure => simp [intOf]; omega
          · by_cases b13 : s[i].toNat = 13
            · have n32a : ¬ ((s[i].toNat : Nat) : Int) = 32 := by omega
              have n32b : (((s[i].toNat : Nat) : Int) == 32) = false := by rw [beq_eq_false_iff_ne]; omega
              have n9a : ¬ ((s[i].toNat : Nat) : Int) = 9 := by omega
              have n9b : (((s[i].toNat : Nat) : Int) == 9) = false := by rw [beq_eq_false_iff_ne]; omega
              have n10a : ¬ ((s[i].toNat : Nat) : Int) = 10 := by omega
              have n10b : (((s[i].toNat : Nat) : Int) == 10) = false := by rw [beq_eq_false_iff_ne]; omega
              have e13a : ((s[i].toNat : Nat) : Int) = 13 := by omega
              have e13b : (((s[i].toNat : Nat) : Int) == 13) = true := by rw [beq_iff_eq]; omega
              have HV : Hid (gapP s k = gapP s (i + 1)) := HG.out.trans (gapP_bl hil (by unfold isBl; omega))
              go_wp2
              go_roundw
              case rel => exact ⟨i + 1, by omega, by go_num, HV.out, trivial⟩
              case measure => simp [intOf]; omega
            · by_cases hd1 : i + 1 < s.size
              · have hb1 := bA_of hd1
                by_cases b45 : s[i].toNat = 45
                · by_cases d45 : s[i + 1].toNat = 45
                  · have n32a : ¬ ((s[i].toNat : Nat) : Int) = 32 := by omega
                    have n32b : (((s[i].toNat : Nat) : Int) == 32) = false := by rw [beq_eq_false_iff_ne]; omega
                    have n9a : ¬ ((s[i].toNat : Nat) : Int) = 9 := by omega
                    have n9b : (((s[i].toNat : Nat) : Int) == 9) = false := by rw [beq_eq_false_iff_ne]; omega
                    have n10a : ¬ ((s[i].toNat : Nat) : Int) = 10 := by omega
                    have n10b : (((s[i].toNat : Nat) : Int) == 10) = false := by rw [beq_eq_false_iff_ne]; omega
                    have n13a : ¬ ((s[i].toNat : Nat) : Int) = 13 := by omega
                    have n13b : (((s[i].toNat : Nat) : Int) == 13) = false := by rw [beq_eq_false_iff_ne]; omega
                    have e45a : ((s[i].toNat : Nat) : Int) = 45 := by omega
                    have e45b : (((s[i].toNat : Nat) : Int) == 45) = true := by rw [beq_iff_eq]; omega
                    have hd : i + 1 < s.size := hd1
                    have hi1 : (i : Int) + 1 < (s.size : Int) := by omega
                    have f45a : ((s[i + 1].toNat : Nat) : Int) = 45 := by omega
                    have f45b : (((s[i + 1].toNat : Nat) : Int) == 45) = true := by rw [beq_iff_eq]; omega
                    have HV : Hid (gapP s k = gapP s (lineP s (i + 1))) := HG.out.trans (gapP_line hil (by omega) (by rw [bA_of hd]; omega))
                    have HL0 : Hid (lineP s i = lineP s (i + 1)) := lineP_step hil (by omega)
                    go_wp2_with fail
                    go_loopw [1] (fun x wr => ∃ j : Nat, i < j + 1 ∧ j ≤ s.size ∧ x = .int .i64 (j : Int) ∧ lineP s j = lineP s (i + 1) ∧ (j = i → i < s.size ∧ bA s i ≠ 10) ∧ wr = W0) (fun x _ => s.size - (intOf x).toNat)
                    case atStart => exact ⟨i, by omega, hi, rfl, HL0.out, fun _ => ⟨hil, by omega⟩, rfl⟩
                    case round =>
                      obtain ⟨j, hj0, hj, rfl, hlj, hji, hw⟩ := hrel
                      have HLj : Hid (lineP s j = lineP s (i + 1)) := hlj
                      have HJI : Hid (j = i → i < s.size ∧ bA s i ≠ 10) := hji
                      subst hw
                      rename World => W1
                      clear hlj hji
                      by_cases hjl : j < s.size
                      · have hjj : (j : Int) < (s.size : Int) := by omega
                        have hbj := bA_of hjl
                        by_cases h10 : s[j].toNat = 10
                        · have g10a : ((s[j].toNat : Nat) : Int) = 10 := by omega
                          have g10b : (((s[j].toNat : Nat) : Int) == 10) = true := by rw [beq_iff_eq]; omega
                          have HE : Hid (lineP s j = j) := lineP_stop (fun h => h.2 (by omega))
                          have hgt : i < j := by
                            rcases Nat.lt_or_ge i j with h | h
                            · exact h
                            · exact absurd (HJI.out (by omega)).2 (by rw [show i = j from by omega]; omega)
                          go_wp2
                          go_roundw
                          case rel => exact ⟨j, hj, rfl, by rw [HV.out, ← HLj.out, HE.out], trivial⟩
                          case measure => simp [intOf]; omega
                        · have g10a : ¬ ((s[j].toNat : Nat) : Int) = 10 := by omega
                          have g10b : (((s[j].toNat : Nat) : Int) == 10) = false := by rw [beq_eq_false_iff_ne]; omega
                          have HE : Hid (lineP s (j + 1) = lineP s (i + 1)) := (lineP_step hjl (by omega)).symm.trans HLj.out
                          go_wp2
                          go_roundw
                          case rel => exact ⟨j + 1, by omega, by omega, by go_num, HE.out, fun h => by omega, trivial⟩
                          case measure => simp [intOf]; omega
                      · have hjj : ¬ (j : Int) < (s.size : Int) := by omega
                        have HE : Hid (lineP s j = j) := lineP_stop (fun h => hjl h.1)
                        go_wp2
                        go_roundw
                        case rel => exact ⟨j, hj, rfl, by rw [HV.out, ← HLj.out, HE.out], trivial⟩
                        case measure => simp [intOf]; omega
                  · have n32a : ¬ ((s[i].toNat : Nat) : Int) = 32 := by omega
                    have n32b : (((s[i].toNat : Nat) : Int) == 32) = false := by rw [beq_eq_false_iff_ne]; omega
                    have n9a : ¬ ((s[i].toNat : Nat) : Int) = 9 := by omega
                    have n9b : (((s[i].toNat : Nat) : Int) == 9) = false := by rw [beq_eq_false_iff_ne]; omega
                    have n10a : ¬ ((s[i].toNat : Nat) : Int) = 10 := by omega
                    have n10b : (((s[i].toNat : Nat) : Int) == 10) = false := by rw [beq_eq_false_iff_ne]; omega
                    have n13a : ¬ ((s[i].toNat : Nat) : Int) = 13 := by omega
                    have n13b : (((s[i].toNat : Nat) : Int) == 13) = false := by rw [beq_eq_false_iff_ne]; omega
                    have e45a : ((s[i].toNat : Nat) : Int) = 45 := by omega
                    have e45b : (((s[i].toNat : Nat) : Int) == 45) = true := by rw [beq_iff_eq]; omega
                    have n47a : ¬ ((s[i].toNat : Nat) : Int) = 47 := by omega
                    have n47b : (((s[i].toNat : Nat) : Int) == 47) = false := by rw [beq_eq_false_iff_ne]; omega
                    have hi1 : (i : Int) + 1 < (s.size : Int) := by omega
                    have f45a : ¬ ((s[i + 1].toNat : Nat) : Int) = 45 := by omega
                    have f45b : (((s[i + 1].toNat : Nat) : Int) == 45) = false := by rw [beq_eq_false_iff_ne]; omega
                    have HV : Hid (gapP s k = .ok i) := HG.out.trans (gapP_else hil (by unfold isBl; omega) (by omega) (by omega))
                    go_wp2
                    go_ret2
                    exact ⟨by rw [HV.out]; rfl, rfl⟩
                · by_cases b47 : s[i].toNat = 47
                  · by_cases d42 : s[i + 1].toNat = 42
                    · have n32a : ¬ ((s[i].toNat : Nat) : Int) = 32 := by omega
                      have n32b : (((s[i].toNat : Nat) : Int) == 32) = false := by rw [beq_eq_false_iff_ne]; omega
                      have n9a : ¬ ((s[i].toNat : Nat) : Int) = 9 := by omega
                      have n9b : (((s[i].toNat : Nat) : Int) == 9) = false := by rw [beq_eq_false_iff_ne]; omega
                      have n10a : ¬ ((s[i].toNat : Nat) : Int) = 10 := by omega
                      have n10b : (((s[i].toNat : Nat) : Int) == 10) = false := by rw [beq_eq_false_iff_ne]; omega
                      have n13a : ¬ ((s[i].toNat : Nat) : Int) = 13 := by omega
                      have n13b : (((s[i].toNat : Nat) : Int) == 13) = false := by rw [beq_eq_false_iff_ne]; omega
                      have n45a : ¬ ((s[i].toNat : Nat) : Int) = 45 := by omega
                      have n45b : (((s[i].toNat : Nat) : Int) == 45) = false := by rw [beq_eq_false_iff_ne]; omega
                      have e47a : ((s[i].toNat : Nat) : Int) = 47 := by omega
                      have e47b : (((s[i].toNat : Nat) : Int) == 47) = true := by rw [beq_iff_eq]; omega
                      have hd : i + 1 < s.size := hd1
                      have hi1 : (i : Int) + 1 < (s.size : Int) := by omega
                      have f42a : ((s[i + 1].toNat : Nat) : Int) = 42 := by omega
                      have f42b : (((s[i + 1].toNat : Nat) : Int) == 42) = true := by rw [beq_iff_eq]; omega
                      have HV0 : Hid (gapP s k = match remP s (i + 2) with | none => .error i | some j => gapP s (j + 2)) := HG.out.trans (gapP_rem hil (by omega) (by rw [bA_of hd]; omega))
                      go_wp2_with fail
                      go_loopw [7] (fun x wr => ∃ j : Nat, i + 2 ≤ j ∧ j ≤ s.size ∧ x = .int .i64 (j : Int) ∧ remP s j = remP s (i + 2) ∧ wr = W0) (fun x _ => s.size - (intOf x).toNat)
                      case atStart => exact ⟨i + 2, by omega, by omega, by go_num, rfl, rfl⟩
                      case round =>
                        obtain ⟨j, hj0, hj, rfl, hrj, hw⟩ := hrel
                        have HRj : Hid (remP s j = remP s (i + 2)) := hrj
                        subst hw
                        rename World => W1
                        clear hrj
                        by_cases hjl : j + 1 < s.size
                        · have hj1 : (j : Int) + 1 < (s.size : Int) := by omega
                          have hjj : (j : Int) < (s.size : Int) := by omega
                          have hjl0 : j < s.size := by omega
                          have hbj := bA_of hjl0
                          have hbj1 := bA_of hjl
                          by_cases h42 : s[j].toNat = 42
                          · by_cases h47 : s[j + 1].toNat = 47
                            · have g42a : ((s[j].toNat : Nat) : Int) = 42 := by omega
                              have g42b : (((s[j].toNat : Nat) : Int) == 42) = true := by rw [beq_iff_eq]; omega
                              have g47a : ((s[j + 1].toNat : Nat) : Int) = 47 := by omega
                              have g47b : (((s[j + 1].toNat : Nat) : Int) == 47) = true := by rw [beq_iff_eq]; omega
                              have HE : Hid (gapP s k = gapP s (j + 2)) := HV0.out.trans (by rw [← HRj.out, remP_hit hjl ⟨by omega, by omega⟩])
                              have hnot : ¬ (s.size : Int) ≤ (j : Int) + 1 := by omega
                              go_wp2
                              go_roundw
                              case rel => exact ⟨j + 2, by omega, by go_num, HE.out, trivial⟩
                              case measure => simp [intOf]; omega
                            · have g42a : ((s[j].toNat : Nat) : Int) = 42 := by omega
                              have g42b : (((s[j].toNat : Nat) : Int) == 42) = true := by rw [beq_iff_eq]; omega
                              have g47a : ¬ ((s[j + 1].toNat : Nat) : Int) = 47 := by omega
                              have g47b : (((s[j + 1].toNat : Nat) : Int) == 47) = false := by rw [beq_eq_false_iff_ne]; omega
                              have HE : Hid (remP s (j + 1) = remP s (i + 2)) := (remP_step hjl (by omega)).symm.trans HRj.out
                              go_wp2
                              go_roundw
                              case rel => exact ⟨j + 1, by omega, by omega, by go_num, HE.out, trivial⟩
                              case measure => simp [intOf]; omega
                          · have g42a : ¬ ((s[j].toNat : Nat) : Int) = 42 := by omega
                            have g42b : (((s[j].toNat : Nat) : Int) == 42) = false := by rw [beq_eq_false_iff_ne]; omega
                            have HE : Hid (remP s (j + 1) = remP s (i + 2)) := (remP_step hjl (by omega)).symm.trans HRj.out
                            go_wp2
                            go_roundw
                            case rel => exact ⟨j + 1, by omega, by omega, by go_num, HE.out, trivial⟩
                            case measure => simp [intOf]; omega
                        · have hj1 : ¬ (j : Int) + 1 < (s.size : Int) := by omega
                          have HE : Hid (gapP s k = .error i) := HV0.out.trans (by rw [← HRj.out, remP_none hjl])
                          go_wp2
                          go_ret2
                          exact ⟨by rw [HE.out]; rfl, rfl⟩
                    · have n32a : ¬ ((s[i].toNat : Nat) : Int) = 32 := by omega
                      have n32b : (((s[i].toNat : Nat) : Int) == 32) = false := by rw [beq_eq_false_iff_ne]; omega
                      have n9a : ¬ ((s[i].toNat : Nat) : Int) = 9 := by omega
                      have n9b : (((s[i].toNat : Nat) : Int) == 9) = false := by rw [beq_eq_false_iff_ne]; omega
                      have n10a : ¬ ((s[i].toNat : Nat) : Int) = 10 := by omega
                      have n10b : (((s[i].toNat : Nat) : Int) == 10) = false := by rw [beq_eq_false_iff_ne]; omega
                      have n13a : ¬ ((s[i].toNat : Nat) : Int) = 13 := by omega
                      have n13b : (((s[i].toNat : Nat) : Int) == 13) = false := by rw [beq_eq_false_iff_ne]; omega
                      have n45a : ¬ ((s[i].toNat : Nat) : Int) = 45 := by omega
                      have n45b : (((s[i].toNat : Nat) : Int) == 45) = false := by rw [beq_eq_false_iff_ne]; omega
                      have e47a : ((s[i].toNat : Nat) : Int) = 47 := by omega
                      have e47b : (((s[i].toNat : Nat) : Int) == 47) = true := by rw [beq_iff_eq]; omega
                      have hi1 : (i : Int) + 1 < (s.size : Int) := by omega
                      have f42a : ¬ ((s[i + 1].toNat : Nat) : Int) = 42 := by omega
                      have f42b : (((s[i + 1].toNat : Nat) : Int) == 42) = false := by rw [beq_eq_false_iff_ne]; omega
                      have HV : Hid (gapP s k = .ok i) := HG.out.trans (gapP_else hil (by unfold isBl; omega) (by omega) (by omega))
                      go_wp2
                      go_ret2
                      exact ⟨by rw [HV.out]; rfl, rfl⟩
                  · have n32a : ¬ ((s[i].toNat : Nat) : Int) = 32 := by omega
                    have n32b : (((s[i].toNat : Nat) : Int) == 32) = false := by rw [beq_eq_false_iff_ne]; omega
                    have n9a : ¬ ((s[i].toNat : Nat) : Int) = 9 := by omega
                    have n9b : (((s[i].toNat : Nat) : Int) == 9) = false := by rw [beq_eq_false_iff_ne]; omega
                    have n10a : ¬ ((s[i].toNat : Nat) : Int) = 10 := by omega
                    have n10b : (((s[i].toNat : Nat) : Int) == 10) = false := by rw [beq_eq_false_iff_ne]; omega
                    have n13a : ¬ ((s[i].toNat : Nat) : Int) = 13 := by omega
                    have n13b : (((s[i].toNat : Nat) : Int) == 13) = false := by rw [beq_eq_false_iff_ne]; omega
                    have n45a : ¬ ((s[i].toNat : Nat) : Int) = 45 := by omega
                    have n45b : (((s[i].toNat : Nat) : Int) == 45) = false := by rw [beq_eq_false_iff_ne]; omega
                    have n47a : ¬ ((s[i].toNat : Nat) : Int) = 47 := by omega
                    have n47b : (((s[i].toNat : Nat) : Int) == 47) = false := by rw [beq_eq_false_iff_ne]; omega
                    have HV : Hid (gapP s k = .ok i) := HG.out.trans (gapP_else hil (by unfold isBl; omega) (by omega) (by omega))
                    go_wp2
                    go_ret2
                    exact ⟨by rw [HV.out]; rfl, rfl⟩
              · have hb1 : bA s (i + 1) = 256 := bA_out (by omega)
                have hi1 : ¬ (i : Int) + 1 < (s.size : Int) := by omega
                by_cases b45 : s[i].toNat = 45
                · have n32a : ¬ ((s[i].toNat : Nat) : Int) = 32 := by omega
                  have n32b : (((s[i].toNat : Nat) : Int) == 32) = false := by rw [beq_eq_false_iff_ne]; omega
                  have n9a : ¬ ((s[i].toNat : Nat) : Int) = 9 := by omega
                  have n9b : (((s[i].toNat : Nat) : Int) == 9) = false := by rw [beq_eq_false_iff_ne]; omega
                  have n10a : ¬ ((s[i].toNat : Nat) : Int) = 10 := by omega
                  have n10b : (((s[i].toNat : Nat) : Int) == 10) = false := by rw [beq_eq_false_iff_ne]; omega
                  have n13a : ¬ ((s[i].toNat : Nat) : Int) = 13 := by omega
                  have n13b : (((s[i].toNat : Nat) : Int) == 13) = false := by rw [beq_eq_false_iff_ne]; omega
                  have e45a : ((s[i].toNat : Nat) : Int) = 45 := by omega
                  have e45b : (((s[i].toNat : Nat) : Int) == 45) = true := by rw [beq_iff_eq]; omega
                  have n47a : ¬ ((s[i].toNat : Nat) : Int) = 47 := by omega
                  have n47b : (((s[i].toNat : Nat) : Int) == 47) = false := by rw [beq_eq_false_iff_ne]; omega
                  have HV : Hid (gapP s k = .ok i) := HG.out.trans (gapP_else hil (by unfold isBl; omega) (by omega) (by omega))
                  go_wp2
                  go_ret2
                  exact ⟨by rw [HV.out]; rfl, rfl⟩
                · by_cases b47 : s[i].toNat = 47
                  · have n32a : ¬ ((s[i].toNat : Nat) : Int) = 32 := by omega
                    have n32b : (((s[i].toNat : Nat) : Int) == 32) = false := by rw [beq_eq_false_iff_ne]; omega
                    have n9a : ¬ ((s[i].toNat : Nat) : Int) = 9 := by omega
                    have n9b : (((s[i].toNat : Nat) : Int) == 9) = false := by rw [beq_eq_false_iff_ne]; omega
                    have n10a : ¬ ((s[i].toNat : Nat) : Int) = 10 := by omega
                    have n10b : (((s[i].toNat : Nat) : Int) == 10) = false := by rw [beq_eq_false_iff_ne]; omega
                    have n13a : ¬ ((s[i].toNat : Nat) : Int) = 13 := by omega
                    have n13b : (((s[i].toNat : Nat) : Int) == 13) = false := by rw [beq_eq_false_iff_ne]; omega
                    have n45a : ¬ ((s[i].toNat : Nat) : Int) = 45 := by omega
                    have n45b : (((s[i].toNat : Nat) : Int) == 45) = false := by rw [beq_eq_false_iff_ne]; omega
                    have e47a : ((s[i].toNat : Nat) : Int) = 47 := by omega
                    have e47b : (((s[i].toNat : Nat) : Int) == 47) = true := by rw [beq_iff_eq]; omega
                    have HV : Hid (gapP s k = .ok i) := HG.out.trans (gapP_else hil (by unfold isBl; omega) (by omega) (by omega))
                    go_wp2
                    go_ret2
                    exact ⟨by rw [HV.out]; rfl, rfl⟩
                  · have n32a : ¬ ((s[i].toNat : Nat) : Int) = 32 := by omega
                    have n32b : (((s[i].toNat : Nat) : Int) == 32) = false := by rw [beq_eq_false_iff_ne]; omega
                    have n9a : ¬ ((s[i].toNat : Nat) : Int) = 9 := by omega
                    have n9b : (((s[i].toNat : Nat) : Int) == 9) = false := by rw [beq_eq_false_iff_ne]; omega
                    have n10a : ¬ ((s[i].toNat : Nat) : Int) = 10 := by omega
                    have n10b : (((s[i].toNat : Nat) : Int) == 10) = false := by rw [beq_eq_false_iff_ne]; omega
                    have n13a : ¬ ((s[i].toNat : Nat) : Int) = 13 := by omega
                    have n13b : (((s[i].toNat : Nat) : Int) == 13) = false := by rw [beq_eq_false_iff_ne]; omega
                    have n45a : ¬ ((s[i].toNat : Nat) : Int) = 45 := by omega
                    have n45b : (((s[i].toNat : Nat) : Int) == 45) = false := by rw [beq_eq_false_iff_ne]; omega
                    have n47a : ¬ ((s[i].toNat : Nat) : Int) = 47 := by omega
                    have n47b : (((s[i].toNat : Nat) : Int) == 47) = false := by rw [beq_eq_false_iff_ne]; omega
                    have HV : Hid (gapP s k = .ok i) := HG.out.trans (gapP_else hil (by unfold isBl; omega) (by omega) (by omega))
                    go_wp2
                    go_ret2
                    exact ⟨by rw [HV.out]; rfl, rfl⟩
    · have hii : ¬ (i : Int) < (s.size : Int) := by omega
      have HV : Hid (gapP s k = .ok i) := HG.out.trans (gapP_out hil)
      go_wp2
      go_ret2
      exact ⟨by rw [HV.out]; rfl, rfl⟩
end Go.Proofs.YtlidkdnfibfnfaaGreatDoor
