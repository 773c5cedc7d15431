import Derived.Test.YtjcffcpmegpjeaaGreatDoorOrd1
namespace Go.Proofs.YtjcffcpmegpjeaaGreatDoor
open Go.ChangeShapes Go.WideShapes Go.ChangeAt Go.RowKit
set_option linter.unusedVariables false
set_option maxRecDepth 100000

theorem eqL (a b : Int × Int × ByteArray) : (a.1 == b.1 && a.2.1 == b.2.1 && a.2.2.toList == b.2.2.toList) = decide (a = b) := by
  obtain ⟨a1, a2, a3⟩ := a
  obtain ⟨b1, b2, b3⟩ := b
  simp only [Lib.toList_data]
  by_cases h1 : a1 = b1 <;> by_cases h2 : a2 = b2 <;> by_cases h3 : a3.data.toList = b3.data.toList
  · subst h1 h2; obtain rfl := bytes_ext h3; simp
  · have : ¬ a3 = b3 := fun e => h3 (by rw [e])
    have h4 : ¬ a3.data = b3.data := fun e => h3 (by rw [e])
    simp [h1, h2, h4, this]
  all_goals simp [h1, h2]
theorem sameL_step (vs us : List (Int × Int × ByteArray)) (k : Nat) (h1 : k < vs.length) (h2 : k < us.length) : decide (vs.drop k = us.drop k) = (decide (vs[k] = us[k]) && decide (vs.drop (k + 1) = us.drop (k + 1))) := by
  rw [Bool.eq_iff_iff]
  simp only [Bool.and_eq_true, decide_eq_true_eq]
  rw [List.drop_eq_getElem_cons h1, List.drop_eq_getElem_cons h2, List.cons.injEq]
theorem ahead_step (vs us : List (Int × Int × ByteArray)) (k : Nat) (h1 : k < vs.length) (h2 : k < us.length) : aheadL (vs.drop k) (us.drop k) = if vs[k] = us[k] then aheadL (vs.drop (k + 1)) (us.drop (k + 1)) else (lessV vs[k] us[k], false) := by
  rw [List.drop_eq_getElem_cons h1, List.drop_eq_getElem_cons h2, aheadL]
theorem ahead_more (vs us : List (Int × Int × ByteArray)) (k : Nat) (h1 : k < vs.length) (h2 : us.length ≤ k) : aheadL (vs.drop k) (us.drop k) = (false, false) := by
  rw [List.drop_eq_getElem_cons h1, List.drop_eq_nil_of_le h2, aheadL]
theorem ahead_end (vs us : List (Int × Int × ByteArray)) (k : Nat) (h1 : k = vs.length) (h2 : k ≤ us.length) : aheadL (vs.drop k) (us.drop k) = (decide (vs.length < us.length), true) := by
  rw [List.drop_eq_nil_of_le (by omega), aheadL]
  congr 1
  rw [Bool.eq_iff_iff]
  simp only [Bool.not_eq_true', List.isEmpty_eq_false_iff, ne_eq, List.drop_eq_nil_iff, decide_eq_true_eq]
  omega
end Go.Proofs.YtjcffcpmegpjeaaGreatDoor

namespace Go.Proofs.YtjcffcpmegpjeaaGreatDoor
open Go.ChangeShapes Go.WideShapes Go.ChangeAt Go.RowKit
set_option linter.unusedVariables false
set_option maxRecDepth 100000

/-- may, as the law says it. -/
def mayB (vs : List (Int × Int × ByteArray)) : Bool := decide (vs.length ≤ 16) && vs.all fun v => decide (faultV v = 0)
def allB (vs : List (Int × Int × ByteArray)) : Bool := vs.all fun v => decide (faultV v = 0)
theorem allB_step (vs : List (Int × Int × ByteArray)) (k : Nat) (h : k < vs.length) : allB (vs.drop k) = (decide (faultV vs[k] = 0) && allB (vs.drop (k + 1))) := by
  unfold allB; rw [List.drop_eq_getElem_cons h, List.all_cons]
end Go.Proofs.YtjcffcpmegpjeaaGreatDoor

namespace Go.Proofs.YtjcffcpmegpjeaaGreatDoor
open Go.ChangeShapes Go.WideShapes Go.ChangeAt Go.RowKit
set_option linter.unusedVariables false
set_option maxRecDepth 100000

theorem markV_len (vs : List (Int × Int × ByteArray)) : (vs ++ [markV]).length = vs.length + 1 := by simp
theorem take_front (vs : List (Int × Int × ByteArray)) : vs = (vs ++ [markV]).take vs.length := by simp
def wfV (vs : List (Int × Int × ByteArray)) : Prop := ∀ v ∈ vs, v.2.2.size ≤ 9223372036854775807 ∧ -9223372036854775808 ≤ v.2.1 ∧ v.2.1 ≤ 9223372036854775807
theorem faultL_all : ∀ (vs : List (Int × Int × ByteArray)), (∀ v ∈ vs, faultV v = 0) → faultL vs = 0
  | [], _ => rfl
  | x :: r, h => by
    unfold faultL
    rw [if_neg (by simpa using h x (by simp))]
    exact faultL_all r (fun v m => h v (by simp [m]))
theorem may_true (vs : List (Int × Int × ByteArray)) (h : mayB vs = true) : ¬ 16 < vs.length ∧ faultL vs = 0 ∧ ∀ v ∈ vs, faultV v = 0 := by
  unfold mayB at h
  simp only [Bool.and_eq_true, decide_eq_true_eq, List.all_eq_true] at h
  exact ⟨by omega, faultL_all vs h.2, h.2⟩
theorem key_list (l : List Int) : (strOfNums l).toList = kb l := by rw [Lib.toList_data]; rfl
theorem key_size (l : List Int) : (strOfNums l).size = (kb l).length := by simp [strOfNums, kb, ByteArray.size]
theorem key_take (l : List Int) (n : Nat) : ((strOfNums l).extract 0 n).toList = (kb l).take n := by
  rw [Lib.toList_data, Lib.extract_data]
  simp [strOfNums, kb]
theorem cmpB_in : ∀ (x y : List UInt8), Lib.compareBytes x y = -1 ∨ Lib.compareBytes x y = 0 ∨ Lib.compareBytes x y = 1
  | [], [] => by simp [Lib.compareBytes]
  | [], _ :: _ => by simp [Lib.compareBytes]
  | _ :: _, [] => by simp [Lib.compareBytes]
  | x :: r, y :: s => by
    have ih := cmpB_in r s
    simp only [Lib.compareBytes]
    split
    · simp
    · split
      · simp
      · exact ih
theorem cmpI_in (a b : Int) : cmpI a b = -1 ∨ cmpI a b = 0 ∨ cmpI a b = 1 := by unfold cmpI; split <;> (try split) <;> omega
theorem cmpV_in (x y : Int × Int × ByteArray) : cmpV x y = -1 ∨ cmpV x y = 0 ∨ cmpV x y = 1 := by
  have h1 := cmpI_in x.1 y.1
  have h2 := cmpI_in x.2.1 y.2.1
  have h3 : cmpT x.2.2 y.2.2 = -1 ∨ cmpT x.2.2 y.2.2 = 0 ∨ cmpT x.2.2 y.2.2 = 1 := cmpB_in _ _
  unfold cmpV or3
  split
  · exact h1
  · split
    · exact h2
    · exact h3
theorem cmpL_in : ∀ (vs us : List (Int × Int × ByteArray)), cmpL vs us = -1 ∨ cmpL vs us = 0 ∨ cmpL vs us = 1
  | [], [] => by simp [cmpL]
  | [], _ :: _ => by simp [cmpL]
  | _ :: _, [] => by simp [cmpL]
  | x :: r, y :: s => by
    have h1 := cmpV_in x y
    have ih := cmpL_in r s
    simp only [cmpL]
    split
    · exact h1
    · exact ih
theorem key_fits (vs : List (Int × Int × ByteArray)) (h1 : ¬ 16 < vs.length) (h2 : faultL vs = 0) : (strOfNums (keyL vs)).size ≤ 140737488355328 := by
  have h3 := keyL_len vs (faultL_zero vs h2)
  rw [key_size]
  unfold kb
  rw [List.length_map]
  omega
theorem key_facts (vs us : List (Int × Int × ByteArray)) (hv : wfV vs) (hu : wfV us) (h1 : ∀ v ∈ vs, faultV v = 0) (h2 : ∀ v ∈ us, faultV v = 0) :
    Op.bytesLess (strOfNums (keyL vs)).toList (strOfNums (keyL us)).toList = (aheadL vs us).1 ∧ ((strOfNums (keyL vs)).toList == (strOfNums (keyL us)).toList) = decide (vs = us) ∧
    (((strOfNums (keyL vs)).size ≤ (strOfNums (keyL us)).size ∧ (((strOfNums (keyL us)).extract 0 (strOfNums (keyL vs)).size).toList == (strOfNums (keyL vs)).toList) = (aheadL vs us).2) ∨ (¬ (strOfNums (keyL vs)).size ≤ (strOfNums (keyL us)).size ∧ (aheadL vs us).2 = false)) ∧
    decide (cmpL vs us < 0) = (aheadL vs us).1 ∧ cmpL us vs = - cmpL vs us ∧ (cmpL vs us == 0) = decide (vs = us) := by
  obtain ⟨i1, i2, i3, i4, i5, i6⟩ := order_all vs us (fun v m => ⟨h1 v m, (hv v m).2⟩) (fun v m => ⟨h2 v m, (hu v m).2⟩)
  rw [key_list, key_list, key_take, key_size, key_size]
  refine ⟨i1, ?_, ?_, i4.symm, i5, ?_⟩
  · rw [Bool.eq_iff_iff]; simp only [beq_iff_eq, decide_eq_true_eq]; exact i2
  · by_cases hl : (kb (keyL vs)).length ≤ (kb (keyL us)).length
    · refine .inl ⟨hl, ?_⟩
      rw [Bool.eq_iff_iff, beq_iff_eq, ← i3]
      exact ⟨fun h => ⟨hl, h⟩, fun h => h.2⟩
    · refine .inr ⟨hl, ?_⟩
      cases q : (aheadL vs us).2
      · rfl
      · exact absurd (i3.2 q).1 hl
  · rw [Bool.eq_iff_iff]; simp only [beq_iff_eq, decide_eq_true_eq]; exact i6
theorem wfV_of {vs : List (Int × Int × ByteArray)} (h : ∀ v ∈ vs, v.2.2.size ≤ maxLen ∧ (Lit.int .i64 v.1).wf = true ∧ (Lit.int .i64 v.2.1).wf = true) : wfV vs := by
  intro v hv
  obtain ⟨h1, _, h3⟩ := h v hv
  have h4 := bounds_i64 h3
  refine ⟨by unfold maxLen at h1; omega, ?_⟩
  exact ⟨by omega, by omega⟩
end Go.Proofs.YtjcffcpmegpjeaaGreatDoor
