import Derived.Test.YtjkipbjphdfemabOrd3
namespace Go.Proofs.Ytjkipbjphdfemab
open Go.ChangeShapes Go.WideShapes Go.ChangeAt Go.RowKit
set_option linter.unusedVariables false

theorem markV_len (vs : List (Int × Int × ByteArray)) : (vs ++ [markV]).length = vs.length + 1 := by simp
theorem take_front (vs : List (Int × Int × ByteArray)) : vs = (vs ++ [markV]).take vs.length := by simp
theorem num_any (e : Int) (w : World) : Calls Try.prog 8 #[.int .i64 e] w fun r w' => r = .returned (.int .i64 e) ∧ w' = w := by
  go_enter Try.func8, Try.ntmps8
  go_wp2
  go_ret
  exact ⟨rfl, rfl⟩
def wfV (vs : List (Int × Int × ByteArray)) : Prop := ∀ v ∈ vs, v.2.2.size ≤ 9223372036854775807 ∧ -9223372036854775808 ≤ v.2.1 ∧ v.2.1 ≤ 9223372036854775807
theorem faultL_all : ∀ (vs : List (Int × Int × ByteArray)), (∀ v ∈ vs, faultV v = 0) → faultL vs = 0
  | [], _ => rfl
  | x :: r, h => by
    unfold faultL
    rw [if_neg (by simpa using h x (by simp))]
    exact faultL_all r (fun v m => h v (by simp [m]))
theorem may_true (vs : List (Int × Int × ByteArray)) (h : mayB vs = true) : ¬ 16 < vs.length ∧ faultL vs = 0 ∧ ∀ v ∈ vs, faultV v = 0 := by
  unfold mayB at h
  simp only [Bool.and_eq_true, decide_eq_true_eq, List.all_eq_true] at h
  exact ⟨by omega, faultL_all vs h.2, h.2⟩
theorem key_list (l : List Int) : (strOfNums l).toList = kb l := by rw [Lib.toList_data]; rfl
theorem key_size (l : List Int) : (strOfNums l).size = (kb l).length := by simp [strOfNums, kb, ByteArray.size]
theorem key_take (l : List Int) (n : Nat) : ((strOfNums l).extract 0 n).toList = (kb l).take n := by
  rw [Lib.toList_data, Lib.extract_data]
  simp [strOfNums, kb]
theorem cmpB_in : ∀ (x y : List UInt8), Lib.compareBytes x y = -1 ∨ Lib.compareBytes x y = 0 ∨ Lib.compareBytes x y = 1
  | [], [] => by simp [Lib.compareBytes]
  | [], _ :: _ => by simp [Lib.compareBytes]
  | _ :: _, [] => by simp [Lib.compareBytes]
  | x :: r, y :: s => by
    have ih := cmpB_in r s
    simp only [Lib.compareBytes]
    split
    · simp
    · split
      · simp
      · exact ih
theorem cmpI_in (a b : Int) : cmpI a b = -1 ∨ cmpI a b = 0 ∨ cmpI a b = 1 := by unfold cmpI; split <;> (try split) <;> omega
theorem cmpV_in (x y : Int × Int × ByteArray) : cmpV x y = -1 ∨ cmpV x y = 0 ∨ cmpV x y = 1 := by
  have h1 := cmpI_in x.1 y.1
  have h2 := cmpI_in x.2.1 y.2.1
  have h3 : cmpT x.2.2 y.2.2 = -1 ∨ cmpT x.2.2 y.2.2 = 0 ∨ cmpT x.2.2 y.2.2 = 1 := cmpB_in _ _
  unfold cmpV or3
  split
  · exact h1
  · split
    · exact h2
    · exact h3
theorem cmpL_in : ∀ (vs us : List (Int × Int × ByteArray)), cmpL vs us = -1 ∨ cmpL vs us = 0 ∨ cmpL vs us = 1
  | [], [] => by simp [cmpL]
  | [], _ :: _ => by simp [cmpL]
  | _ :: _, [] => by simp [cmpL]
  | x :: r, y :: s => by
    have h1 := cmpV_in x y
    have ih := cmpL_in r s
    simp only [cmpL]
    split
    · exact h1
    · exact ih
theorem key_fits (vs : List (Int × Int × ByteArray)) (h1 : ¬ 16 < vs.length) (h2 : faultL vs = 0) : (strOfNums (keyL vs)).size ≤ 140737488355328 := by
  have h3 := keyL_len vs (faultL_zero vs h2)
  rw [key_size]
  unfold kb
  rw [List.length_map]
  omega
theorem key_facts (vs us : List (Int × Int × ByteArray)) (hv : wfV vs) (hu : wfV us) (h1 : ∀ v ∈ vs, faultV v = 0) (h2 : ∀ v ∈ us, faultV v = 0) :
    Op.bytesLess (strOfNums (keyL vs)).toList (strOfNums (keyL us)).toList = (aheadL vs us).1 ∧ ((strOfNums (keyL vs)).toList == (strOfNums (keyL us)).toList) = decide (vs = us) ∧
    (((strOfNums (keyL vs)).size ≤ (strOfNums (keyL us)).size ∧ (((strOfNums (keyL us)).extract 0 (strOfNums (keyL vs)).size).toList == (strOfNums (keyL vs)).toList) = (aheadL vs us).2) ∨ (¬ (strOfNums (keyL vs)).size ≤ (strOfNums (keyL us)).size ∧ (aheadL vs us).2 = false)) ∧
    decide (cmpL vs us < 0) = (aheadL vs us).1 ∧ cmpL us vs = - cmpL vs us ∧ (cmpL vs us == 0) = decide (vs = us) := by
  obtain ⟨i1, i2, i3, i4, i5, i6⟩ := order_all vs us (fun v m => ⟨h1 v m, (hv v m).2⟩) (fun v m => ⟨h2 v m, (hu v m).2⟩)
  rw [key_list, key_list, key_take, key_size, key_size]
  refine ⟨i1, ?_, ?_, i4.symm, i5, ?_⟩
  · rw [Bool.eq_iff_iff]; simp only [beq_iff_eq, decide_eq_true_eq]; exact i2
  · by_cases hl : (kb (keyL vs)).length ≤ (kb (keyL us)).length
    · refine .inl ⟨hl, ?_⟩
      rw [Bool.eq_iff_iff, beq_iff_eq, ← i3]
      exact ⟨fun h => ⟨hl, h⟩, fun h => h.2⟩
    · refine .inr ⟨hl, ?_⟩
      cases q : (aheadL vs us).2
      · rfl
      · exact absurd (i3.2 q).1 hl
  · rw [Bool.eq_iff_iff]; simp only [beq_iff_eq, decide_eq_true_eq]; exact i6
set_option maxRecDepth 100000 in
set_option maxHeartbeats 3200000 in
theorem order_walk (a b : Value) (vs us : List (Int × Int × ByteArray)) (w : World) (ha : SeesV w w.heap.size a vs) (hb : SeesV w w.heap.size b us)
    (hr1 : (vs.length + 1) * 32 ≤ 140737488355328) (hr2 : (us.length + 1) * 32 ≤ 140737488355328) (hv : wfV vs) (hu : wfV us) :
    Calls Try.prog 3 #[a, b] w fun e w' => e = .returned (.bool true) ∧ Below w.heap.size w w' := by
  have HA : Hid (SeesV w w.heap.size a vs) := ha
  have HBb : Hid (SeesV w w.heap.size b us) := hb
  obtain ⟨ao, capa, rfl, hla, hca, hsa⟩ := ha
  obtain ⟨bo, capb, rfl, hlb, hcb, hsb⟩ := hb
  clear hsa hsb
  go_enter Try.func3, Try.ntmps3
  go_wp2_with fail
  refine (may_any _ vs w.heap.size w (Nat.le_refl _) HA.out (fun v h => (hv v h).1)).mono ?_
  rintro e w1 ⟨rfl, hb1⟩
  have B1 : Hid (Below w.heap.size w w1) := hb1
  clear hb1
  cases hm1 : mayB vs
  · go_wp2
    go_ret
    exact ⟨rfl, B1.out⟩
  go_wp2_with fail
  refine (may_any _ us w.heap.size w1 B1.out.size (HBb.out.later B1.out) (fun v h => (hu v h).1)).mono ?_
  rintro e w2 ⟨rfl, hb2⟩
  have B2 : Hid (Below w.heap.size w w2) := B1.out.trans hb2
  clear hb2 B1
  cases hm2 : mayB us
  · go_wp2
    go_ret
    exact ⟨rfl, B2.out⟩
  go_wp2_with fail
  refine (room_any _ vs w.heap.size w2 B2.out.size (HA.out.later B2.out) hr1).mono ?_
  rintro e w3 ⟨g1, cap1, rfl, ho1, hb1⟩
  have n1 : vs.length + 1 ≤ cap1 := by
    rcases ho1.2 with ⟨h', _⟩ | ⟨g', cap', cur, h', _, _, hnc, _⟩
    · simp at h'
    · simp only [Value.slice.injEq] at h'; rw [markV_len] at hnc; omega
  have B3 : Hid (Below w.heap.size w w3) := B2.out.trans (hb1.mono B2.out.size)
  have C1 : Hid (SeesV w3 w3.heap.size (.slice (some ⟨g1, 0, none⟩) vs.length cap1) vs) := ho1.sees (us := vs) (by simp) (take_front vs) (by simp) (by omega)
  clear hb1 ho1 B2
  have p1 : (vs.length : Int) ≤ (cap1 : Int) := by omega
  have p3 : vs.length ≤ cap1 := by omega
  have p5 : (0 : Int) ≤ (vs.length : Int) := by omega
  go_wp2_with fail
  obtain ⟨f1, f2, f3⟩ := may_true vs hm1
  obtain ⟨e1, e2, e3⟩ := may_true us hm2
  have KF : Hid (_ ∧ _) := key_facts vs us hv hu f3 e3
  have KZ : Hid ((strOfNums (keyL vs)).size ≤ 140737488355328 ∧ (strOfNums (keyL us)).size ≤ 140737488355328) := ⟨key_fits vs f1 f2, key_fits us e1 e2⟩
  refine (keyG _ vs w3.heap.size w3 (Nat.le_refl _) C1.out hv).mono ?_
  rw [if_neg f1, if_pos f2]
  rintro e w4 ⟨rfl, hb4⟩
  have B4 : Hid (Below w.heap.size w w4) := B3.out.trans (hb4.mono B3.out.size)
  clear hb4 B3 C1 f1 f2 f3 hm1 hm2 n1 p1 p3 p5
  go_wp2_with fail
  refine (room_any _ us w.heap.size w4 B4.out.size (HBb.out.later B4.out) hr2).mono ?_
  rintro e w5 ⟨g2, cap2, rfl, ho1, hb1⟩
  have n1 : us.length + 1 ≤ cap2 := by
    rcases ho1.2 with ⟨h', _⟩ | ⟨g', cap', cur, h', _, _, hnc, _⟩
    · simp at h'
    · simp only [Value.slice.injEq] at h'; rw [markV_len] at hnc; omega
  have B5 : Hid (Below w.heap.size w w5) := B4.out.trans (hb1.mono B4.out.size)
  have C2 : Hid (SeesV w5 w5.heap.size (.slice (some ⟨g2, 0, none⟩) us.length cap2) us) := ho1.sees (us := us) (by simp) (take_front us) (by simp) (by omega)
  clear hb1 ho1 B4
  have p1 : (us.length : Int) ≤ (cap2 : Int) := by omega
  have p3 : us.length ≤ cap2 := by omega
  have p5 : (0 : Int) ≤ (us.length : Int) := by omega
  go_wp2_with fail
  refine (keyG _ us w5.heap.size w5 (Nat.le_refl _) C2.out hu).mono ?_
  rw [if_neg e1, if_pos e2]
  rintro e w6 ⟨rfl, hb6⟩
  have B6 : Hid (Below w.heap.size w w6) := B5.out.trans (hb6.mono B5.out.size)
  clear hb6 B5 C2 e1 e2 e3 n1 p1 p3 p5
  go_wp2_with (go_at_call 8; refine (num_any _ _).mono ?_; rintro e w' ⟨rfl, rfl⟩)
  have hz1 : (strOfNums (keyL vs)).size ≤ 140737488355328 := KZ.out.1
  have hz2 : (strOfNums (keyL us)).size ≤ 140737488355328 := KZ.out.2
  refine (ahead_any _ _ vs us w.heap.size w' B6.out.size (HA.out.later B6.out) (HBb.out.later B6.out)).mono ?_
  rintro e w7 ⟨rfl, hb7⟩
  have B7 : Hid (Below w.heap.size w w7) := B6.out.trans hb7
  obtain ⟨k1, k2, k3, k4, k5, k6⟩ := KF.out
  clear KF KZ hb7 B6 hv hu
  generalize strOfNums (keyL vs) = s at *
  generalize strOfNums (keyL us) = t at *
  generalize aheadL vs us = fb at *
  obtain ⟨fi, be⟩ := fb
  simp only at k1 k3 k4
  have SA : ∀ W, Below w.heap.size w W → Calls Try.prog 10 #[.slice ao vs.length capa, .slice bo us.length capb] W fun e w' => e = .returned (.bool (decide (vs = us))) ∧ Hid (Below w.heap.size w w') := fun W h => (same_any _ _ vs us w.heap.size W h.size (HA.out.later h) (HBb.out.later h)).mono fun e w' ⟨he, hb⟩ => ⟨he, h.trans hb⟩
  have CO : ∀ W, Below w.heap.size w W → Calls Try.prog 11 #[.slice ao vs.length capa, .slice bo us.length capb] W fun e w' => e = .returned (.int .i64 (cmpL vs us)) ∧ Hid (Below w.heap.size w w') := fun W h => (compare_own _ _ vs us w.heap.size W h.size (HA.out.later h) (HBb.out.later h)).mono fun e w' ⟨he, hb⟩ => ⟨he, h.trans hb⟩
  have CP : ∀ W, Below w.heap.size w W → Calls Try.prog 11 #[.slice bo us.length capb, .slice ao vs.length capa] W fun e w' => e = .returned (.int .i64 (- cmpL vs us)) ∧ Hid (Below w.heap.size w w') := fun W h => (compare_own _ _ us vs w.heap.size W h.size (HBb.out.later h) (HA.out.later h)).mono fun e w' ⟨he, hb⟩ => ⟨by rw [he, k5], h.trans hb⟩
  have HSA : Hid _ := SA
  have HCO : Hid _ := CO
  have HCP : Hid _ := CP
  have k7 := cmpL_in vs us
  clear SA CO CP HA HBb k5
  generalize decide (vs = us) = sm at *
  generalize cmpL vs us = c at *
  go_wp2_with fail
  refine (HSA.out _ B7.out).mono ?_
  rintro e w8 ⟨rfl, B8⟩
  have k8 : (c = -1 ∧ fi = true ∧ sm = false) ∨ (c = 0 ∧ fi = false ∧ sm = true) ∨ (c = 1 ∧ fi = false ∧ sm = false) := by
    rcases k7 with rfl | rfl | rfl
    · exact .inl ⟨rfl, k4.symm, k6.symm⟩
    · exact .inr (.inl ⟨rfl, k4.symm, k6.symm⟩)
    · exact .inr (.inr ⟨rfl, k4.symm, k6.symm⟩)
  clear k4 k6 k7
  rcases k8 with ⟨rfl, rfl, rfl⟩ | ⟨rfl, rfl, rfl⟩ | ⟨rfl, rfl, rfl⟩ <;> rcases k3 with ⟨l1, l2⟩ | ⟨l1, l2⟩
  all_goals
    have l3 : decide ((s.size : Int) ≤ (t.size : Int)) = decide (s.size ≤ t.size) := by simp
    go_wp2_with fail
    refine (HCO.out _ B8.out).mono ?_
    rintro e w9 ⟨rfl, B9⟩
    go_wp2_with fail
    refine (HSA.out _ B9.out).mono ?_
    rintro e w10 ⟨rfl, B10⟩
    go_wp2_with fail
    refine (HCP.out _ B10.out).mono ?_
    rintro e w11 ⟨rfl, B11⟩
    go_wp2
    go_ret
    exact ⟨rfl, B11.out⟩
theorem wfV_of {vs : List (Int × Int × ByteArray)} (h : ∀ v ∈ vs, v.2.2.size ≤ maxLen ∧ (Lit.int .i64 v.1).wf = true ∧ (Lit.int .i64 v.2.1).wf = true) : wfV vs := by
  intro v hv
  obtain ⟨h1, _, h3⟩ := h v hv
  have h4 := bounds_i64 h3
  refine ⟨by unfold maxLen at h1; omega, ?_⟩
  exact ⟨by omega, by omega⟩
end Go.Proofs.Ytjkipbjphdfemab
