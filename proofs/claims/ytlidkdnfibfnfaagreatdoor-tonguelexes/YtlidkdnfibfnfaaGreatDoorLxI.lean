import Derived.Test.YtlidkdnfibfnfaaGreatDoorLxS4
import Derived.Lib.IndexLaws
namespace Go.Proofs.YtlidkdnfibfnfaaGreatDoor
set_option linter.unusedVariables false
theorem rest_list (s : ByteArray) (p : Nat) : (s.extract p s.size).data.toList = s.data.toList.drop p := by
  rw [ByteArray.data_extract, Array.toList_extract, List.extract_eq_take_drop]
  exact List.take_of_length_le (by rw [List.length_drop]; exact Nat.le_refl _)
theorem drop_at {s : ByteArray} {p : Nat} (h : p < s.size) : s.data.toList.drop p = s[p] :: s.data.toList.drop (p + 1) := List.drop_eq_getElem_cons (l := s.data.toList) (i := p) h
theorem drop_out {s : ByteArray} {p : Nat} (h : s.size ≤ p) : s.data.toList.drop p = [] := List.drop_eq_nil_of_le h
theorem byte_eq (c d : UInt8) : (c == d) = decide (c.toNat = d.toNat) := by
  by_cases h : c = d
  · rw [h, beq_self_eq_true, decide_eq_true rfl]
  · rw [decide_eq_false (fun e => h (UInt8.toNat_inj.1 e)), beq_eq_false_iff_ne]; exact h
/-- Where a line ends: by the place of the next byte 10 in the rest. -/
theorem line_ix (s : ByteArray) (p : Nat) (hp : p ≤ s.size) : (lineP s p : Int) = if Lib.indexByte (s.data.toList.drop p) 10 = -1 then (s.size : Int) else (p : Int) + Lib.indexByte (s.data.toList.drop p) 10 := by
  revert hp
  refine by_size (P := fun p => p ≤ s.size → (lineP s p : Int) = if Lib.indexByte (s.data.toList.drop p) 10 = -1 then (s.size : Int) else (p : Int) + Lib.indexByte (s.data.toList.drop p) 10) s.size (fun p ih hp => ?_) p
  by_cases h : p < s.size
  · rw [drop_at h, Lib.indexByte, byte_eq, ← bA_of h]
    by_cases h10 : bA s p = 10
    · rw [lineP_stop (fun x => x.2 h10), decide_eq_true (show bA s p = (10 : UInt8).toNat from h10)]
      simp
    · rw [lineP_step h h10, decide_eq_false (show ¬ bA s p = (10 : UInt8).toNat from h10), ih (p + 1) (by omega) (by omega)]
      have hg := Lib.indexByte_ge (s.data.toList.drop (p + 1)) 10
      generalize Lib.indexByte (s.data.toList.drop (p + 1)) 10 = r at *
      by_cases hr : r = -1
      · subst hr; simp
      · have : ¬ r + 1 = -1 := by omega
        have h2 : (r == -1) = false := by simpa using hr
        simp only [if_neg hr, h2, Bool.false_eq_true, if_false, if_neg this]
        omega
  · rw [drop_out (by omega), lineP_stop (fun x => h x.1)]
    simp [Lib.indexByte]
    omega
/-- Where the next quote stands. -/
theorem apo_ix (s : ByteArray) (p : Nat) (hp : p ≤ s.size) : (apoP s p : Int) = if Lib.indexByte (s.data.toList.drop p) 39 = -1 then (s.size : Int) else (p : Int) + Lib.indexByte (s.data.toList.drop p) 39 := by
  revert hp
  refine by_size (P := fun p => p ≤ s.size → (apoP s p : Int) = if Lib.indexByte (s.data.toList.drop p) 39 = -1 then (s.size : Int) else (p : Int) + Lib.indexByte (s.data.toList.drop p) 39) s.size (fun p ih hp => ?_) p
  by_cases h : p < s.size
  · rw [drop_at h, Lib.indexByte, byte_eq, ← bA_of h]
    by_cases h10 : bA s p = 39
    · rw [apoP_stop (fun x => x.2 h10), decide_eq_true (show bA s p = (39 : UInt8).toNat from h10)]
      simp
    · rw [apoP_step h h10, decide_eq_false (show ¬ bA s p = (39 : UInt8).toNat from h10), ih (p + 1) (by omega) (by omega)]
      have hg := Lib.indexByte_ge (s.data.toList.drop (p + 1)) 39
      generalize Lib.indexByte (s.data.toList.drop (p + 1)) 39 = r at *
      by_cases hr : r = -1
      · subst hr; simp
      · have : ¬ r + 1 = -1 := by omega
        have h2 : (r == -1) = false := by simpa using hr
        simp only [if_neg hr, h2, Bool.false_eq_true, if_false, if_neg this]
        omega
  · rw [drop_out (by omega), apoP_stop (fun x => h x.1)]
    simp [Lib.indexByte]
    omega
theorem pre_two {s : ByteArray} {p : Nat} (h : p < s.size) : List.isPrefixOf [42, 47] (s[p] :: s.data.toList.drop (p + 1)) = decide (bA s p = 42 ∧ bA s (p + 1) = 47) := by
  rw [List.isPrefixOf, byte_eq, show (42 : UInt8).toNat = 42 from rfl, bA_of h]
  by_cases h1 : p + 1 < s.size
  · rw [drop_at h1, List.isPrefixOf, byte_eq, show (47 : UInt8).toNat = 47 from rfl, bA_of h1, List.isPrefixOf]
    rw [show decide (42 = s[p].toNat) = decide (s[p].toNat = 42) from decide_eq_decide.2 eq_comm, show decide (47 = s[p + 1].toNat) = decide (s[p + 1].toNat = 47) from decide_eq_decide.2 eq_comm, Bool.and_true, Bool.decide_and]
  · rw [drop_out (by omega), bA_out (by omega : s.size ≤ p + 1)]
    simp [List.isPrefixOf]
/-- Where a remark's end stands. -/
theorem rem_ix (s : ByteArray) (p : Nat) : (Lib.index (s.data.toList.drop p) [42, 47] = -1 ∧ remP s p = none) ∨ ∃ n : Nat, Lib.index (s.data.toList.drop p) [42, 47] = n ∧ remP s p = some (p + n) := by
  refine by_size (P := fun p => (Lib.index (s.data.toList.drop p) [42, 47] = -1 ∧ remP s p = none) ∨ ∃ n : Nat, Lib.index (s.data.toList.drop p) [42, 47] = n ∧ remP s p = some (p + n)) s.size (fun p ih => ?_) p
  by_cases h : p < s.size
  · rw [drop_at h, Lib.index, pre_two h]
    by_cases h2 : bA s p = 42 ∧ bA s (p + 1) = 47
    · have h3 : p + 1 < s.size := bA_lt (by omega)
      exact Or.inr ⟨0, by rw [decide_eq_true h2]; rfl, remP_hit h3 h2⟩
    · rw [decide_eq_false h2]
      by_cases h3 : p + 1 < s.size
      · rw [remP_step h3 h2]
        rcases ih (p + 1) (by omega) with ⟨a, b⟩ | ⟨n, a, b⟩
        · exact Or.inl ⟨by rw [a]; rfl, b⟩
        · refine Or.inr ⟨n + 1, ?_, by rw [b]; congr 1; omega⟩
          rw [a, if_neg (by decide), if_neg (by rw [beq_iff_eq]; omega)]
          omega
      · rw [remP_none h3, drop_out (by omega)]
        exact Or.inl ⟨rfl, rfl⟩
  · rw [drop_out (by omega), remP_none (by omega)]
    exact Or.inl ⟨rfl, rfl⟩
end Go.Proofs.YtlidkdnfibfnfaaGreatDoor
