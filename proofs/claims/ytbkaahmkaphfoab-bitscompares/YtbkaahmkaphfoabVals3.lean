import Derived.Test.YtbkaahmkaphfoabVals2
namespace Go.Proofs.Ytbkaahmkaphfoab
open Go.ChangeShapes Go.WideShapes Go.ChangeAt Go.RowKit
set_option linter.unusedVariables false

set_option maxRecDepth 100000 in
theorem compare_own (a b : Value) (vs us : List (Int × Int × ByteArray)) (B : Nat) (w : World) (hB : B ≤ w.heap.size) (ha : SeesV w B a vs) (hb : SeesV w B b us) :
    Calls Try.prog 22 #[a, b] w fun e w' => e = .returned (.int .i64 (cmpL vs us)) ∧ Below B w w' := by
  go_enter Try.func22, Try.ntmps22
  go_wp2_with fail
  refine (cmpFunc a b vs us B w hB ha hb).mono ?_
  rintro e w1 ⟨rfl, hbel⟩
  have HB : Hid (Below B w w1) := hbel
  clear hbel ha hb
  go_wp2
  go_ret
  exact ⟨rfl, HB.out⟩
/-- order(less, more) -/
def ordB (x y : Bool) : Int := if x then -1 else if y then 1 else 0
theorem order_any (x y : Bool) (w : World) : Calls Try.prog 53 #[.bool x, .bool y] w fun e w' => e = .returned (.int .i64 (ordB x y)) ∧ w' = w := by
  cases x <;> cases y
  all_goals
    go_enter Try.func53, Try.ntmps53
    go_wp2
    go_ret
    exact ⟨rfl, rfl⟩
theorem compareBytes_less : ∀ x y : List UInt8, Lib.compareBytes x y = ordB (Op.bytesLess x y) (!(Op.bytesLess x y || x == y))
  | [], [] => by simp [Lib.compareBytes, Op.bytesLess, ordB]
  | [], _ :: _ => by simp [Lib.compareBytes, Op.bytesLess, ordB]
  | _ :: _, [] => by simp [Lib.compareBytes, Op.bytesLess, ordB]
  | a :: x, b :: y => by
    have ih := compareBytes_less x y
    by_cases h : a < b
    · simp [Lib.compareBytes, Op.bytesLess, ordB, h]
    · by_cases h2 : b < a
      · have hne : ¬ a = b := by intro e; subst e; exact absurd h2 h
        simp [Lib.compareBytes, Op.bytesLess, ordB, h, h2, hne]
      · have e : a = b := by
          apply UInt8.toNat_inj.1
          rw [UInt8.lt_iff_toNat_lt] at h h2
          omega
        subst e
        simp only [Lib.compareBytes, h, if_false, ih]
        simp [Op.bytesLess, h]
theorem cmpT_less (a b : ByteArray) : cmpT a b = ordB (Op.bytesLess a.toList b.toList) (!(Op.bytesLess a.toList b.toList || a.toList == b.toList)) := by
  unfold cmpT; rw [Lib.toList_data, Lib.toList_data]; exact compareBytes_less _ _
theorem cmpI_ne (a b : Int) (h : a ≠ b) : cmpI a b = ordB (decide (a < b)) true ∧ cmpI a b ≠ 0 := by
  unfold cmpI ordB
  by_cases h1 : a < b
  · simp [h1]
  · have h2 : b < a := by omega
    simp [h1, h2]
theorem cmpI_self (a : Int) : cmpI a a = 0 := by unfold cmpI; simp
set_option maxRecDepth 100000 in
set_option maxHeartbeats 800000 in
theorem ref_cmpVal (a b : Int × Int × ByteArray) (w : World) :
    Calls Try.prog 26 #[.agg #[.int .i64 a.1, .int .i64 a.2.1, .string a.2.2], .agg #[.int .i64 b.1, .int .i64 b.2.1, .string b.2.2]] w fun e w' => e = .returned (.int .i64 (cmpV a b)) ∧ Below w.heap.size w w' := by
  obtain ⟨a1, a2, a3⟩ := a
  obtain ⟨b1, b2, b3⟩ := b
  have HB : Hid (Below w.heap.size w ((w.alloc (.cells #[.int .i64 a1, .int .i64 a2, .string a3] 54)).alloc (.cells #[.int .i64 b1, .int .i64 b2, .string b3] 54))) := ((Below.refl _ _).alloc (Nat.le_refl _) _).alloc (by simp) _
  simp only
  by_cases h1 : a1 = b1
  · subst h1
    by_cases h2 : a2 = b2
    · subst h2
      have HE : Hid (cmpV (a1, a2, a3) (a1, a2, b3) = _) := (show cmpV (a1, a2, a3) (a1, a2, b3) = cmpT a3 b3 by simp [cmpV, or3, cmpI_self]).trans (cmpT_less a3 b3)
      go_enter Try.func26, Try.ntmps26
      go_wp2_with fail
      refine (order_any _ _ _).mono ?_
      rintro e w1 ⟨rfl, rfl⟩
      go_wp2
      go_ret
      exact ⟨ret_eq (by rw [HE.out, Bool.not_or]), HB.out⟩
    · have hc := cmpI_ne a2 b2 h2
      have HE : Hid (cmpV (a1, a2, a3) (a1, b2, b3) = ordB (decide (a2 < b2)) true) := by
        show _ = _
        simp only [cmpV, or3, cmpI_self]
        rw [if_neg (by simp), if_pos hc.2, hc.1]
      have t2 : (a2 != b2) = true := by simpa using h2
      clear hc
      go_enter Try.func26, Try.ntmps26
      go_wp2_with fail
      refine (order_any _ _ _).mono ?_
      rintro e w1 ⟨rfl, rfl⟩
      go_wp2
      go_ret
      exact ⟨ret_eq HE.out.symm, HB.out⟩
  · have hc := cmpI_ne a1 b1 h1
    have HE : Hid (cmpV (a1, a2, a3) (b1, b2, b3) = ordB (decide (a1 < b1)) true) := by
      show _ = _
      simp only [cmpV, or3]
      rw [if_pos hc.2, hc.1]
    have t2 : (a1 != b1) = true := by simpa using h1
    clear hc
    go_enter Try.func26, Try.ntmps26
    go_wp2_with fail
    refine (order_any _ _ _).mono ?_
    rintro e w1 ⟨rfl, rfl⟩
    go_wp2
    go_ret
    exact ⟨ret_eq HE.out.symm, HB.out⟩

set_option maxRecDepth 100000 in
set_option maxHeartbeats 1600000 in
theorem compare_ref (a b : Value) (vs us : List (Int × Int × ByteArray)) (B : Nat) (w : World) (hB : B ≤ w.heap.size) (ha : SeesV w B a vs) (hb : SeesV w B b us) :
    Calls Try.prog 23 #[a, b] w fun e w' => e = .returned (.int .i64 (cmpL vs us)) ∧ Below B w w' := by
  obtain ⟨ao, cap, rfl, hl1, hc1, hs1⟩ := ha
  obtain ⟨bo, cap2, rfl, hl2, hc2, hs2⟩ := hb
  have HA : Hid _ := hs1
  have HBs : Hid _ := hs2
  clear hs1 hs2
  go_enter Try.func23, Try.ntmps23
  go_wp2
  go_loopw [5] (fun i wr => ∃ k : Nat, k ≤ vs.length ∧ k ≤ us.length ∧ i = .int .i64 k ∧ cmpL vs us = cmpL (vs.drop k) (us.drop k) ∧ Below B w wr) (fun i _ => vs.length - (intOf i).toNat)
  case atStart => exact ⟨0, by omega, by omega, rfl, rfl, Below.refl _ _⟩
  case round =>
    obtain ⟨k, hk1, hk2, rfl, hcmp, hbel⟩ := hrel
    have HC : Hid (cmpL vs us = cmpL (vs.drop k) (us.drop k)) := hcmp
    have HBl : Hid (Below B w wr) := hbel
    have hBr : B ≤ wr.heap.size := by have := hbel.size; omega
    clear hcmp hbel
    by_cases h1 : k < vs.length
    · by_cases h2 : k < us.length
      · obtain ⟨b1, o1, e1, hb1, x0, x1, x2⟩ := HA.out k h1
        have y0 := (HBl.out.cell (p := ⟨b1, o1 + k * 3, none⟩) hb1).trans x0
        have y1 := (HBl.out.cell (p := ⟨b1, o1 + k * 3 + 1, none⟩) hb1).trans x1
        have y2 := (HBl.out.cell (p := ⟨b1, o1 + k * 3 + 2, none⟩) hb1).trans x2
        clear x0 x1 x2
        subst e1
        obtain ⟨b2, o2, e2, hb2, x0, x1, x2⟩ := HBs.out k h2
        have z0 := (HBl.out.cell (p := ⟨b2, o2 + k * 3, none⟩) hb2).trans x0
        have z1 := (HBl.out.cell (p := ⟨b2, o2 + k * 3 + 1, none⟩) hb2).trans x1
        have z2 := (HBl.out.cell (p := ⟨b2, o2 + k * 3 + 2, none⟩) hb2).trans x2
        clear x0 x1 x2
        subst e2
        have HS : Hid _ := cmpL_step vs us k h1 h2
        have HX : Hid (∀ W, W = wr.drew → Calls Try.prog 26 #[.agg #[.int .i64 vs[k].1, .int .i64 vs[k].2.1, .string vs[k].2.2], .agg #[.int .i64 us[k].1, .int .i64 us[k].2.1, .string us[k].2.2]] W fun e w' => e = .returned (.int .i64 (cmpV vs[k] us[k])) ∧ Hid (Below B w w') ∧ w'.cell? ⟨b1, o1 + k * 3, none⟩ = some (.int .i64 vs[k].1) ∧ w'.cell? ⟨b1, o1 + k * 3 + 1, none⟩ = some (.int .i64 vs[k].2.1) ∧ w'.cell? ⟨b1, o1 + k * 3 + 2, none⟩ = some (.string vs[k].2.2) ∧ w'.cell? ⟨b2, o2 + k * 3, none⟩ = some (.int .i64 us[k].1) ∧ w'.cell? ⟨b2, o2 + k * 3 + 1, none⟩ = some (.int .i64 us[k].2.1) ∧ w'.cell? ⟨b2, o2 + k * 3 + 2, none⟩ = some (.string us[k].2.2)) := fun W hW => (ref_cmpVal vs[k] us[k] W).mono fun e w' ⟨he, hb⟩ => by
          subst hW
          have hk := hb.mono (B' := B) (by exact hBr)
          exact ⟨he, HBl.out.drew.trans hk, (hk.cell (p := ⟨b1, o1 + k * 3, none⟩) hb1).trans y0, (hk.cell (p := ⟨b1, o1 + k * 3 + 1, none⟩) hb1).trans y1, (hk.cell (p := ⟨b1, o1 + k * 3 + 2, none⟩) hb1).trans y2, (hk.cell (p := ⟨b2, o2 + k * 3, none⟩) hb2).trans z0, (hk.cell (p := ⟨b2, o2 + k * 3 + 1, none⟩) hb2).trans z1, (hk.cell (p := ⟨b2, o2 + k * 3 + 2, none⟩) hb2).trans z2⟩
        go_wp2_with fail
        go_region_held3 (fun w' => w'.cell? ⟨b1, o1 + k * 3, none⟩ = some (.int .i64 vs[k].1) ∧ w'.cell? ⟨b1, o1 + k * 3 + 1, none⟩ = some (.int .i64 vs[k].2.1) ∧ w'.cell? ⟨b1, o1 + k * 3 + 2, none⟩ = some (.string vs[k].2.2) ∧ w'.cell? ⟨b2, o2 + k * 3, none⟩ = some (.int .i64 us[k].1) ∧ w'.cell? ⟨b2, o2 + k * 3 + 1, none⟩ = some (.int .i64 us[k].2.1) ∧ w'.cell? ⟨b2, o2 + k * 3 + 2, none⟩ = some (.string us[k].2.2)) (go_keep) (first | (go_at_call 26; refine (HX.out _ rfl).mono ?_; rintro e w1 ⟨rfl, HB3, k0, k1, k2, k3, k4, k5⟩))
        clear HX y0 y1 y2 z0 z1 z2 k0 k1 k2 k3 k4 k5 HBl
        generalize cmpV vs[k] us[k] = c at *
        cases hc : (c != 0)
        · have hc0 : c = 0 := by simpa using hc
          have HZ : Hid (c = 0) := hc0
          clear hc0
          go_wp2
          go_roundw
          case rel => exact ⟨k + 1, by omega, by omega, by go_num, by rw [HC.out, HS.out, if_neg (by simp [HZ.out])], HB3.out⟩
          case measure => simp [intOf]; omega
        · have HZ : Hid (c ≠ 0) := by show _ ≠ _; simpa using hc
          go_wp2
          go_ret
          exact ⟨by rw [HC.out, HS.out, if_pos HZ.out]; rfl, HB3.out⟩
      · have HM : Hid _ := cmpL_more vs us k h1 (by omega)
        have t1 : decide (vs.length < us.length) = false := by simp; omega
        have t2 : decide (us.length < vs.length) = true := by simp; omega
        go_wp2_with (go_at_call 53; refine (order_any _ _ _).mono ?_; rintro e w' ⟨rfl, rfl⟩)
        go_ret
        exact ⟨by rw [HC.out, HM.out]; rfl, HBl.out⟩
    · by_cases h2 : k < us.length
      · have HM : Hid _ := cmpL_less vs us k (by omega) h2
        have t1 : decide (vs.length < us.length) = true := by simp; omega
        have t2 : decide (us.length < vs.length) = false := by simp; omega
        go_wp2_with (go_at_call 53; refine (order_any _ _ _).mono ?_; rintro e w' ⟨rfl, rfl⟩)
        go_ret
        exact ⟨by rw [HC.out, HM.out]; rfl, HBl.out⟩
      · have HM : Hid _ := cmpL_same vs us k (by omega) (by omega)
        have t1 : decide (vs.length < us.length) = false := by simp; omega
        have t2 : decide (us.length < vs.length) = false := by simp; omega
        go_wp2_with (go_at_call 53; refine (order_any _ _ _).mono ?_; rintro e w' ⟨rfl, rfl⟩)
        go_ret
        exact ⟨by rw [HC.out, HM.out]; rfl, HBl.out⟩
end Go.Proofs.Ytbkaahmkaphfoab
