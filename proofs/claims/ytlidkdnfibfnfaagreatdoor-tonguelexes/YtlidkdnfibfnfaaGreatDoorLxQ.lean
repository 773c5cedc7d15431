import Derived.Test.YtlidkdnfibfnfaaGreatDoorLxR10
namespace Go.Proofs.YtlidkdnfibfnfaaGreatDoor
set_option linter.unusedVariables false
theorem lineP_le (s : ByteArray) (i : Nat) (h : i ≤ s.size) : lineP s i ≤ s.size := by
  revert h
  refine by_size (P := fun i => i ≤ s.size → lineP s i ≤ s.size) s.size (fun i ih h => ?_) i
  rw [lineP_eq]
  split
  · exact ih (i + 1) (by omega) (by omega)
  · exact h
theorem gapP_adv (s : ByteArray) (i j : Nat) (hi : i ≤ s.size) (h : gapP s i = .ok j) : i ≤ j ∧ j ≤ s.size := by
  revert hi h
  refine by_size (P := fun i => i ≤ s.size → gapP s i = .ok j → i ≤ j ∧ j ≤ s.size) s.size (fun i ih hi h => ?_) i
  by_cases hl : i < s.size
  · by_cases h1 : isBl (bA s i)
    · rw [gapP_bl hl h1] at h
      have := ih (i + 1) (by omega) (by omega) h
      omega
    · by_cases h2 : bA s i = 45 ∧ bA s (i + 1) = 45
      · rw [gapP_line hl h2.1 h2.2] at h
        have h3 := lineP_ge s (i + 1)
        have h4 : i + 1 < s.size := bA_lt (by omega)
        have := ih (lineP s (i + 1)) (by omega) (lineP_le s _ (by omega)) h
        omega
      · by_cases h3 : bA s i = 47 ∧ bA s (i + 1) = 42
        · rw [gapP_rem hl h3.1 h3.2] at h
          rcases hr : remP s (i + 2) with _ | k
          · rw [hr] at h; cases h
          · rw [hr] at h
            have h4 := remP_ge hr
            have := ih (k + 2) (by omega) (by omega) h
            omega
        · rw [gapP_else hl h1 h2 h3] at h
          injection h with h
          omega
  · rw [gapP_out hl] at h
    injection h with h
    omega
theorem numP_adv (s : ByteArray) (i acc v j : Nat) (hi : i ≤ s.size) (h : numP s i acc = some (v, j)) : i ≤ j ∧ j ≤ s.size := by
  revert hi h acc
  refine by_size (P := fun i => ∀ acc, i ≤ s.size → numP s i acc = some (v, j) → i ≤ j ∧ j ≤ s.size) s.size (fun i ih acc hi h => ?_) i
  by_cases hd : i < s.size ∧ isDg (bA s i)
  · by_cases hl : acc * 10 + (bA s i - 48) ≤ 9223372036854775807
    · rw [numP_dg hd.1 hd.2 hl] at h
      have := ih (i + 1) (by omega) _ (by omega) h
      omega
    · rw [numP_over hd.1 hd.2 hl] at h; cases h
  · rw [numP_end hd] at h
    injection h with h
    injection h with _ h
    omega
theorem quoP_adv (s : ByteArray) (q j : Nat) (acc l : List UInt8) (k : Nat) (hq : q < 256) (h : quoP s q j acc = some (l, k)) : j < k ∧ k ≤ s.size := by
  revert h acc
  refine by_size (P := fun j => ∀ acc, quoP s q j acc = some (l, k) → j < k ∧ k ≤ s.size) s.size (fun j ih acc h => ?_) j
  by_cases hl : j < s.size
  · by_cases h1 : bA s j = q
    · by_cases h2 : bA s (j + 1) = q
      · rw [quoP_two hl h1 h2] at h
        have h4 : j + 1 < s.size := bA_lt (by omega)
        have := ih (j + 2) (by omega) _ h
        omega
      · rw [quoP_end hl h1 h2] at h
        injection h with h
        injection h with _ h
        omega
    · rw [quoP_step hl h1] at h
      have := ih (j + 1) (by omega) _ h
      omega
  · rw [quoP_none hl] at h; cases h
theorem apoP_ge (s : ByteArray) (j : Nat) : j ≤ apoP s j := by
  refine by_size (P := fun j => j ≤ apoP s j) s.size (fun j ih => ?_) j
  rw [apoP_eq]
  split
  · have := ih (j + 1) (by omega); omega
  · omega
theorem hexT_adv {s : ByteArray} {i k : Nat} {t : TK} (h : hexT s i = .ok (t, k)) : i < k ∧ k ≤ s.size := by
  have ha := apoP_ge s (i + 2)
  generalize hA : apoP s (i + 2) = A at *
  by_cases h1 : A < s.size
  · by_cases h2 : (A - (i + 2)) % 2 = 0
    · rcases hr : hexP s A (i + 2) [] with _ | l
      · rw [hexT_bad hA h1 h2 hr] at h; cases h
      · by_cases h4 : 4096 < l.length
        · rw [hexT_long hA h1 h2 hr h4] at h; cases h
        · rw [hexT_ok hA h1 h2 hr h4] at h
          injection h with h
          injection h with _ h
          omega
    · rw [hexT_odd hA h1 h2] at h; cases h
  · rw [hexT_open hA h1] at h; cases h
theorem wordP_adv {s : ByteArray} {i k : Nat} {t : TK} (hi : i < s.size) (hL : isLt (bA s i)) (h : wordP s i = .ok (t, k)) : i < k ∧ k ≤ s.size := by
  have h1 : wordE s i = wordE s (i + 1) := wordE_step hi (Or.inl hL)
  have h2 := wordE_ge s (i + 1)
  have h3 := wordE_le s i (by omega)
  rw [wordP_at rfl (wordE_ge s i)] at h
  unfold wordQ at h
  split at h
  · injection h with h
    injection h with _ h
    omega
  · split at h
    · cases h
    · injection h with h
      injection h with _ h
      omega
theorem intP_adv {s : ByteArray} {i k : Nat} {t : TK} (hi : i < s.size) (hD : isDg (bA s i)) (h : intP s i = .ok (t, k)) : i < k ∧ k ≤ s.size := by
  unfold intP at h
  rcases hr : numP s i 0 with _ | ⟨v, j⟩
  · rw [hr] at h; cases h
  · rw [hr] at h
    simp only at h
    split at h
    · cases h
    · injection h with h
      injection h with _ h
      have hle : 0 * 10 + (bA s i - 48) ≤ 9223372036854775807 := by unfold isDg at hD; omega
      rw [numP_dg hi hD hle] at hr
      have := numP_adv s (i + 1) _ v j (by omega) hr
      omega
theorem signP_adv {s : ByteArray} {i k : Nat} {t : TK} (hi : i < s.size) (h : signP s i = .ok (t, k)) : i < k ∧ k ≤ s.size := by
  by_cases h1 : (bA s i = 60 ∧ (bA s (i + 1) = 62 ∨ bA s (i + 1) = 61)) ∨ (bA s i = 62 ∧ bA s (i + 1) = 61) ∨ (bA s i = 124 ∧ bA s (i + 1) = 124)
  · have h4 : i + 1 < s.size := bA_lt (by omega)
    rw [signP_two h1] at h
    injection h with h
    injection h with _ h
    omega
  · by_cases h2 : bA s i = 33 ∧ bA s (i + 1) = 61
    · have h4 : i + 1 < s.size := bA_lt (by omega)
      rw [signP_ne h2] at h
      injection h with h
      injection h with _ h
      omega
    · by_cases h3 : bA s i = 40 ∨ bA s i = 41 ∨ bA s i = 44 ∨ bA s i = 59 ∨ bA s i = 42 ∨ bA s i = 43 ∨ bA s i = 45 ∨ bA s i = 47 ∨ bA s i = 37 ∨ bA s i = 61 ∨ bA s i = 60 ∨ bA s i = 62 ∨ bA s i = 64
      · rw [signP_one h1 h2 h3] at h
        injection h with h
        injection h with _ h
        omega
      · rw [signP_bad h1 h2 h3] at h; cases h
theorem tokP_adv {s : ByteArray} {i k : Nat} {t : TK} (hi : i < s.size) (h : tokP s i = .ok (t, k)) : i < k ∧ k ≤ s.size := by
  by_cases h1 : (bA s i = 120 ∨ bA s i = 88) ∧ bA s (i + 1) = 39
  · rw [tokP_hex h1] at h; exact hexT_adv h
  · by_cases h2 : isLt (bA s i)
    · rw [tokP_word h1 h2] at h; exact wordP_adv hi h2 h
    · by_cases h3 : isDg (bA s i)
      · rw [tokP_num h1 h2 h3] at h; exact intP_adv hi h3 h
      · by_cases h4 : bA s i = 34
        · rcases hr : quoP s 34 (i + 1) [] with _ | ⟨l, j⟩
          · rw [tokP_name0 (tq34 h4) hr] at h; cases h
          · rw [tokP_name1 (tq34 h4) hr] at h
            have := quoP_adv s 34 (i + 1) _ l j (by omega) hr
            split at h
            · cases h
            · injection h with h
              injection h with _ h
              omega
        · by_cases h5 : bA s i = 39
          · rcases hr : quoP s 39 (i + 1) [] with _ | ⟨l, j⟩
            · rw [tokP_text0 (tq39 h5) hr] at h; cases h
            · rw [tokP_text1 (tq39 h5) hr] at h
              have := quoP_adv s 39 (i + 1) _ l j (by omega) hr
              split at h
              · cases h
              · injection h with h
                injection h with _ h
                omega
          · rw [tokP_sign h1 h2 h3 h4 h5] at h; exact signP_adv hi h
end Go.Proofs.YtlidkdnfibfnfaaGreatDoor
