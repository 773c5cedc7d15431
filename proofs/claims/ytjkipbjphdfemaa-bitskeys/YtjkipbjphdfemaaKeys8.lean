import Derived.Test.YtjkipbjphdfemaaKeys7
namespace Go.Proofs.Ytjkipbjphdfemaa
open Go.ChangeShapes Go.WideShapes Go.ChangeAt Go.RowKit
set_option linter.unusedVariables false

set_option maxRecDepth 100000 in
set_option maxHeartbeats 1600000 in
theorem ref_fault (v : Int × Int × ByteArray) (w : World) (hs : v.2.2.size ≤ 9223372036854775807) : Calls Try.prog 41 #[.agg #[.int .i64 v.1, .int .i64 v.2.1, .string v.2.2]] w fun e w' => e = .returned (.int .i64 (faultV v)) ∧ Below w.heap.size w w' := by
  obtain ⟨kd, b, c⟩ := v
  have HB : Hid (Below w.heap.size w (w.alloc (.cells #[.int .i64 kd, .int .i64 b, .string c] 41))) := (Below.refl _ _).alloc (Nat.le_refl _) _
  simp only at hs ⊢
  by_cases hkd : kd = 0 ∨ kd = 1 ∨ kd = 2 ∨ kd = 3
  · rcases hkd with rfl | rfl | rfl | rfl
    · have HV : Hid (faultV (0, b, c) = if (b == 0 && c.toList.isEmpty) then 0 else 19) := rfl
      cases h1 : (b == 0) <;> cases h2 : c.toList.isEmpty
      all_goals
        rw [h1, h2] at HV
        go_enter Try.func41, Try.ntmps41
        go_wp2
        go_ret
        exact ⟨ret_eq (by rw [HV.out]; rfl), HB.out⟩
    · have HV : Hid (faultV (1, b, c) = if ((b == 0 || b == 1) && c.toList.isEmpty) then 0 else 19) := rfl
      cases h1 : (b == 0) <;> cases h3 : (b == 1) <;> cases h2 : c.toList.isEmpty
      all_goals
        rw [h1, h3, h2] at HV
        go_enter Try.func41, Try.ntmps41
        go_wp2
        go_ret
        exact ⟨ret_eq (by rw [HV.out]; rfl), HB.out⟩
    · have HV : Hid (faultV (2, b, c) = if c.toList.isEmpty then 0 else 19) := rfl
      cases h2 : c.toList.isEmpty
      all_goals
        rw [h2] at HV
        go_enter Try.func41, Try.ntmps41
        go_wp2
        go_ret
        exact ⟨ret_eq (by rw [HV.out]; rfl), HB.out⟩
    · have HV : Hid (faultV (3, b, c) = if (b == 0 && decide (4096 < c.size)) then 4 else if b == 0 then 0 else 19) := rfl
      by_cases h4 : 4096 < c.size
      · cases h1 : (b == 0)
        all_goals
          rw [h1, decide_eq_true h4] at HV
          go_enter Try.func41, Try.ntmps41
          go_wp2
          go_ret
          exact ⟨ret_eq (by rw [HV.out]; rfl), HB.out⟩
      · cases h1 : (b == 0)
        all_goals
          rw [h1, decide_eq_false h4] at HV
          go_enter Try.func41, Try.ntmps41
          go_wp2
          go_ret
          exact ⟨ret_eq (by rw [HV.out]; rfl), HB.out⟩
  · have HV : Hid (faultV (kd, b, c) = 19) := by show _ = _; unfold faultV; rw [if_pos (by simp only; omega)]
    have k0 : ¬ kd = 0 := by omega
    have k1 : ¬ kd = 1 := by omega
    have k2 : ¬ kd = 2 := by omega
    have k3 : ¬ kd = 3 := by omega
    go_enter Try.func41, Try.ntmps41
    go_wp2
    go_ret
    exact ⟨ret_eq (by rw [HV.out]), HB.out⟩
set_option maxRecDepth 100000 in
set_option maxHeartbeats 1600000 in
theorem ref_faults (a : Value) (vs : List (Int × Int × ByteArray)) (B : Nat) (w : World) (hB : B ≤ w.heap.size) (ha : SeesV w B a vs) (hv : ∀ v ∈ vs, v.2.2.size ≤ 9223372036854775807) :
    Calls Try.prog 30 #[a] w fun e w' => e = .returned (.int .i64 (if 16 < vs.length then 18 else faultL vs)) ∧ Below B w w' := by
  obtain ⟨ao, cap, rfl, hl1, hc1, hs1⟩ := ha
  have HA : Hid _ := hs1
  clear hs1
  by_cases hm : 16 < vs.length
  · go_enter Try.func30, Try.ntmps30
    go_wp2
    go_ret
    exact ⟨rfl, Below.refl _ _⟩
  rw [if_neg hm]
  go_enter Try.func30, Try.ntmps30
  go_wp2
  go_loopw [3] (fun i wr => ∃ k : Nat, k ≤ vs.length ∧ i = .int .i64 k ∧ faultL vs = faultL (vs.drop k) ∧ Below B w wr) (fun i _ => vs.length - (intOf i).toNat)
  case atStart => exact ⟨0, by omega, rfl, rfl, Below.refl _ _⟩
  case round =>
    obtain ⟨k, hk, rfl, hfl, hbel⟩ := hrel
    have HF : Hid (faultL vs = faultL (vs.drop k)) := hfl
    have HBl : Hid (Below B w wr) := hbel
    have hBr : B ≤ wr.heap.size := by have := hbel.size; omega
    clear hfl hbel
    by_cases h1 : k < vs.length
    · obtain ⟨b1, o1, e1, hb1, x0, x1, x2⟩ := HA.out k h1
      have y0 := (HBl.out.cell (p := ⟨b1, o1 + k * 3, none⟩) hb1).trans x0
      have y1 := (HBl.out.cell (p := ⟨b1, o1 + k * 3 + 1, none⟩) hb1).trans x1
      have y2 := (HBl.out.cell (p := ⟨b1, o1 + k * 3 + 2, none⟩) hb1).trans x2
      clear x0 x1 x2
      subst e1
      have HS : Hid (faultL (vs.drop k) = if faultV vs[k] ≠ 0 then faultV vs[k] else faultL (vs.drop (k + 1))) := faultL_step vs k h1
      have hvs := hv _ (List.getElem_mem h1)
      go_wp2_with fail
      refine (ref_fault vs[k] _ hvs).mono ?_
      rintro e w1 ⟨rfl, hb3⟩
      have HB3 : Hid (Below B w w1) := HBl.out.trans (hb3.mono hBr)
      clear hb3 HBl y0 y1 y2
      generalize faultV vs[k] = c at *
      cases hc : (c != 0)
      · have hc0 : c = 0 := by simpa using hc
        have HZ : Hid (c = 0) := hc0
        clear hc0
        go_wp2
        go_roundw
        case rel => exact ⟨k + 1, by omega, by go_num, by rw [HF.out, HS.out, if_neg (by simp [HZ.out])], HB3.out⟩
        case measure => simp [intOf]; omega
      · have HZ : Hid (c ≠ 0) := by show _ ≠ _; simpa using hc
        go_wp2
        go_ret
        exact ⟨by rw [HF.out, HS.out, if_pos HZ.out]; rfl, HB3.out⟩
    · have HE2 : Hid (faultL (vs.drop k) = 0) := faultL_end vs k (by omega)
      go_wp2
      go_ret
      exact ⟨by rw [HF.out, HE2.out]; rfl, HBl.out⟩
end Go.Proofs.Ytjkipbjphdfemaa
