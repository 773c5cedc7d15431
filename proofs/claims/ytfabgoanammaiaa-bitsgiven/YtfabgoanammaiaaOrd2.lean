import Derived.Test.YtfabgoanammaiaaOrd1
namespace Go.Proofs.Ytfabgoanammaiaa
open Go.ChangeShapes Go.WideShapes Go.ChangeAt Go.RowKit
set_option linter.unusedVariables false

theorem eqL (a b : Int × Int × ByteArray) : (a.1 == b.1 && a.2.1 == b.2.1 && a.2.2.toList == b.2.2.toList) = decide (a = b) := by
  obtain ⟨a1, a2, a3⟩ := a
  obtain ⟨b1, b2, b3⟩ := b
  simp only [Lib.toList_data]
  by_cases h1 : a1 = b1 <;> by_cases h2 : a2 = b2 <;> by_cases h3 : a3.data.toList = b3.data.toList
  · subst h1 h2; obtain rfl := bytes_ext h3; simp
  · have : ¬ a3 = b3 := fun e => h3 (by rw [e])
    have h4 : ¬ a3.data = b3.data := fun e => h3 (by rw [e])
    simp [h1, h2, h4, this]
  all_goals simp [h1, h2]
theorem sameL_step (vs us : List (Int × Int × ByteArray)) (k : Nat) (h1 : k < vs.length) (h2 : k < us.length) : decide (vs.drop k = us.drop k) = (decide (vs[k] = us[k]) && decide (vs.drop (k + 1) = us.drop (k + 1))) := by
  rw [Bool.eq_iff_iff]
  simp only [Bool.and_eq_true, decide_eq_true_eq]
  rw [List.drop_eq_getElem_cons h1, List.drop_eq_getElem_cons h2, List.cons.injEq]
set_option maxRecDepth 100000 in
set_option maxHeartbeats 1600000 in
theorem same_any (a b : Value) (vs us : List (Int × Int × ByteArray)) (B : Nat) (w : World) (hB : B ≤ w.heap.size) (ha : SeesV w B a vs) (hb : SeesV w B b us) :
    Calls Try.prog 15 #[a, b] w fun e w' => e = .returned (.bool (decide (vs = us))) ∧ Below B w w' := by
  obtain ⟨ao, cap, rfl, hl1, hc1, hs1⟩ := ha
  obtain ⟨bo, cap2, rfl, hl2, hc2, hs2⟩ := hb
  have HA : Hid _ := hs1
  have HBs : Hid _ := hs2
  have hgd := guardV
  clear hs1 hs2
  by_cases hn : vs.length = us.length
  · go_enter Try.func15, Try.ntmps15
    go_wp2
    go_loopw [5] (fun i wr => ∃ k : Nat, k ≤ vs.length ∧ i = .int .i64 k ∧ decide (vs = us) = decide (vs.drop k = us.drop k) ∧ Below B w wr) (fun i _ => vs.length - (intOf i).toNat)
    case atStart => exact ⟨0, by omega, rfl, rfl, Below.refl _ _⟩
    case round =>
      obtain ⟨k, hk1, rfl, hcmp, hbel⟩ := hrel
      have HC : Hid (decide (vs = us) = decide (vs.drop k = us.drop k)) := hcmp
      have HBl : Hid (Below B w wr) := hbel
      clear hbel hcmp
      by_cases h1 : k < vs.length
      · have h2 : k < us.length := by omega
        obtain ⟨b1, o1, e1, hb1, x0, x1, x2⟩ := HA.out k h1
        have y0 := (HBl.out.cell (p := ⟨b1, o1 + k * 3, none⟩) hb1).trans x0
        have y1 := (HBl.out.cell (p := ⟨b1, o1 + k * 3 + 1, none⟩) hb1).trans x1
        have y2 := (HBl.out.cell (p := ⟨b1, o1 + k * 3 + 2, none⟩) hb1).trans x2
        clear x0 x1 x2
        subst e1
        obtain ⟨b2, o2, e2, hb2, x0, x1, x2⟩ := HBs.out k h2
        have z0 := (HBl.out.cell (p := ⟨b2, o2 + k * 3, none⟩) hb2).trans x0
        have z1 := (HBl.out.cell (p := ⟨b2, o2 + k * 3 + 1, none⟩) hb2).trans x1
        have z2 := (HBl.out.cell (p := ⟨b2, o2 + k * 3 + 2, none⟩) hb2).trans x2
        clear x0 x1 x2
        subst e2
        have hev := fun w => (eqV vs[k] us[k] w).trans (by rw [eqL])
        have HS : Hid _ := sameL_step vs us k h1 h2
        cases hd : decide (vs[k] = us[k])
        · rw [hd] at hev HS
          go_wp2_with fail
          go_quiet (fail)
          go_wp2
          go_ret
          exact ⟨by rw [HC.out, HS.out]; rfl, HBl.out.trans (below_drewN _)⟩
        · rw [hd] at hev HS
          go_wp2_with fail
          go_quiet (fail)
          go_wp2
          go_roundw
          case rel => exact ⟨k + 1, by omega, by go_num, by rw [HC.out, HS.out]; rfl, HBl.out.trans (below_drewN _)⟩
          case measure => simp [intOf]; omega
      · go_wp2
        go_ret
        exact ⟨by rw [HC.out, List.drop_eq_nil_of_le (by omega), List.drop_eq_nil_of_le (by omega)]; rfl, HBl.out⟩
  · have HE : Hid (decide (vs = us) = false) := by show _ = _; simp; intro e; exact hn (by rw [e])
    have hne : ((vs.length : Int) != (us.length : Int)) = true := by simp; omega
    go_enter Try.func15, Try.ntmps15
    go_wp2
    go_ret
    exact ⟨by rw [HE.out]; rfl, Below.refl _ _⟩
theorem ahead_step (vs us : List (Int × Int × ByteArray)) (k : Nat) (h1 : k < vs.length) (h2 : k < us.length) : aheadL (vs.drop k) (us.drop k) = if vs[k] = us[k] then aheadL (vs.drop (k + 1)) (us.drop (k + 1)) else (lessV vs[k] us[k], false) := by
  rw [List.drop_eq_getElem_cons h1, List.drop_eq_getElem_cons h2, aheadL]
theorem ahead_more (vs us : List (Int × Int × ByteArray)) (k : Nat) (h1 : k < vs.length) (h2 : us.length ≤ k) : aheadL (vs.drop k) (us.drop k) = (false, false) := by
  rw [List.drop_eq_getElem_cons h1, List.drop_eq_nil_of_le h2, aheadL]
theorem ahead_end (vs us : List (Int × Int × ByteArray)) (k : Nat) (h1 : k = vs.length) (h2 : k ≤ us.length) : aheadL (vs.drop k) (us.drop k) = (decide (vs.length < us.length), true) := by
  rw [List.drop_eq_nil_of_le (by omega), aheadL]
  congr 1
  rw [Bool.eq_iff_iff]
  simp only [Bool.not_eq_true', List.isEmpty_eq_false_iff, ne_eq, List.drop_eq_nil_iff, decide_eq_true_eq]
  omega
end Go.Proofs.Ytfabgoanammaiaa
