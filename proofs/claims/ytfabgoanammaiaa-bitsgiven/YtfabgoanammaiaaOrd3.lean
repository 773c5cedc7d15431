import Derived.Test.YtfabgoanammaiaaOrd2
namespace Go.Proofs.Ytfabgoanammaiaa
open Go.ChangeShapes Go.WideShapes Go.ChangeAt Go.RowKit
set_option linter.unusedVariables false

/-- may, as the law says it. -/
def mayB (vs : List (Int × Int × ByteArray)) : Bool := decide (vs.length ≤ 16) && vs.all fun v => decide (faultV v = 0)
def allB (vs : List (Int × Int × ByteArray)) : Bool := vs.all fun v => decide (faultV v = 0)
theorem allB_step (vs : List (Int × Int × ByteArray)) (k : Nat) (h : k < vs.length) : allB (vs.drop k) = (decide (faultV vs[k] = 0) && allB (vs.drop (k + 1))) := by
  unfold allB; rw [List.drop_eq_getElem_cons h, List.all_cons]
set_option maxRecDepth 100000 in
set_option maxHeartbeats 6400000 in
theorem may_any (a : Value) (vs : List (Int × Int × ByteArray)) (B : Nat) (w : World) (hB : B ≤ w.heap.size) (ha : SeesV w B a vs) (hv : ∀ v ∈ vs, v.2.2.size ≤ 9223372036854775807) :
    Calls Try.prog 6 #[a] w fun e w' => e = .returned (.bool (mayB vs)) ∧ Below B w w' := by
  obtain ⟨ao, cap, rfl, hl1, hc1, hs1⟩ := ha
  have HA : Hid _ := hs1
  clear hs1
  by_cases hn : vs.length ≤ 16
  · have HM : Hid (mayB vs = allB vs) := by show _ = _; simp [mayB, hn, allB]
    go_enter Try.func6, Try.ntmps6
    go_wp2
    go_loopw [3] (fun i wr => ∃ k : Nat, k ≤ vs.length ∧ i = .int .i64 k ∧ allB vs = allB (vs.drop k) ∧ Below B w wr) (fun i _ => vs.length - (intOf i).toNat)
    case atStart => exact ⟨0, by omega, rfl, rfl, Below.refl _ _⟩
    case round =>
      obtain ⟨k, hk1, rfl, hcmp, hbel⟩ := hrel
      have HC : Hid (allB vs = allB (vs.drop k)) := hcmp
      have HBl : Hid (Below B w wr) := hbel
      have hBr : B ≤ wr.heap.size := by have := hbel.size; omega
      clear hbel hcmp
      by_cases h1 : k < vs.length
      · obtain ⟨b1, o1, e1, hb1, x0, x1, x2⟩ := HA.out k h1
        have y0 := (HBl.out.cell (p := ⟨b1, o1 + k * 3, none⟩) hb1).trans x0
        have y1 := (HBl.out.cell (p := ⟨b1, o1 + k * 3 + 1, none⟩) hb1).trans x1
        have y2 := (HBl.out.cell (p := ⟨b1, o1 + k * 3 + 2, none⟩) hb1).trans x2
        clear x0 x1 x2
        subst e1
        have hvs := hv _ (List.getElem_mem h1)
        have HS : Hid _ := allB_step vs k h1
        generalize vs[k] = v at *
        obtain ⟨kd, i, t⟩ := v
        simp only at y0 y1 y2 hvs
        have HN : Hid (Below B w (wr.alloc (.cells #[.int .i64 kd, .int .i64 i, .string t] 45))) := HBl.out.alloc hBr _
        clear HA hb1
        by_cases q0 : kd = 0
        · subst q0
          cases h3 : (i == 0) <;> cases h2 : t.toList.isEmpty
          all_goals
            have HF : Hid (decide (faultV (0, i, t) = 0) = _) := show decide (faultV (0, i, t) = 0) = decide ((if (i == 0 && t.toList.isEmpty) then (0 : Int) else 19) = 0) from rfl
            rw [h3, h2] at HF
            go_wp2
            first
            | (go_ret; exact ⟨by rw [HM.out, HC.out, HS.out, HF.out]; rfl, HN.out⟩)
            | (go_roundw
               case rel => exact ⟨k + 1, by omega, by go_num, by rw [HC.out, HS.out, HF.out]; rfl, HN.out⟩
               case measure => simp [intOf]; omega)
        by_cases q1 : kd = 1
        · subst q1
          cases h3 : (i == 0) <;> cases h4 : (i == 1) <;> cases h2 : t.toList.isEmpty
          all_goals
            have HF : Hid (decide (faultV (1, i, t) = 0) = _) := show decide (faultV (1, i, t) = 0) = decide ((if ((i == 0 || i == 1) && t.toList.isEmpty) then (0 : Int) else 19) = 0) from rfl
            rw [h3, h4, h2] at HF
            go_wp2
            first
            | (go_ret; exact ⟨by rw [HM.out, HC.out, HS.out, HF.out]; rfl, HN.out⟩)
            | (go_roundw
               case rel => exact ⟨k + 1, by omega, by go_num, by rw [HC.out, HS.out, HF.out]; rfl, HN.out⟩
               case measure => simp [intOf]; omega)
        by_cases q2 : kd = 2
        · subst q2
          cases h2 : t.toList.isEmpty
          all_goals
            have HF : Hid (decide (faultV (2, i, t) = 0) = _) := show decide (faultV (2, i, t) = 0) = decide ((if t.toList.isEmpty then (0 : Int) else 19) = 0) from rfl
            rw [h2] at HF
            go_wp2
            first
            | (go_ret; exact ⟨by rw [HM.out, HC.out, HS.out, HF.out]; rfl, HN.out⟩)
            | (go_roundw
               case rel => exact ⟨k + 1, by omega, by go_num, by rw [HC.out, HS.out, HF.out]; rfl, HN.out⟩
               case measure => simp [intOf]; omega)
        by_cases q3 : kd = 3
        · subst q3
          by_cases h2 : 4096 < t.size
          · have h5 : (t.size : Int) ≤ 4096 ↔ False := ⟨fun h => by omega, False.elim⟩
            cases h3 : (i == 0)
            all_goals
              have HF : Hid (decide (faultV (3, i, t) = 0) = _) := show decide (faultV (3, i, t) = 0) = decide ((if (i == 0 && decide (4096 < t.size)) then (4 : Int) else if i == 0 then 0 else 19) = 0) from rfl
              rw [h3, decide_eq_true h2] at HF
              go_wp2
              all_goals (go_ret; exact ⟨by rw [HM.out, HC.out, HS.out, HF.out]; rfl, HN.out⟩)
          · have h5 : (t.size : Int) ≤ 4096 := by omega
            cases h3 : (i == 0)
            all_goals
              have HF : Hid (decide (faultV (3, i, t) = 0) = _) := show decide (faultV (3, i, t) = 0) = decide ((if (i == 0 && decide (4096 < t.size)) then (4 : Int) else if i == 0 then 0 else 19) = 0) from rfl
              rw [h3, decide_eq_false h2] at HF
              go_wp2
              first
              | (go_ret; exact ⟨by rw [HM.out, HC.out, HS.out, HF.out]; rfl, HN.out⟩)
              | (go_roundw
                 case rel => exact ⟨k + 1, by omega, by go_num, by rw [HC.out, HS.out, HF.out]; rfl, HN.out⟩
                 case measure => simp [intOf]; omega)
        have HF : Hid (decide (faultV (kd, i, t) = 0) = false) := by
          show _ = _
          unfold faultV
          rw [if_pos (by simp only; omega)]
          rfl
        have g0 : (kd == 0) = false := by simpa using q0
        have g1 : (kd == 1) = false := by simpa using q1
        have g2 : (kd == 2) = false := by simpa using q2
        have g3 : (kd == 3) = false := by simpa using q3
        go_wp2
        go_ret
        exact ⟨by rw [HM.out, HC.out, HS.out, HF.out]; rfl, HN.out⟩
      · have HE : Hid (allB (vs.drop k) = true) := by show _ = _; rw [List.drop_eq_nil_of_le (by omega)]; rfl
        go_wp2
        go_ret
        exact ⟨by rw [HM.out, HC.out, HE.out]; rfl, HBl.out⟩
  · have HM : Hid (mayB vs = false) := by show _ = _; simp [mayB, hn]
    go_enter Try.func6, Try.ntmps6
    go_wp2
    go_ret
    exact ⟨by rw [HM.out]; rfl, Below.refl _ _⟩
end Go.Proofs.Ytfabgoanammaiaa
