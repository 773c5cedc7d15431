import Derived.Test.YtfabgoanammaiaaKeys5
import Derived.Test.YtfabgoanammaiaaKeys2
import Derived.Deep.DrawnRows
namespace Go.Proofs.Ytfabgoanammaiaa
open Go.ChangeShapes Go.WideShapes Go.ChangeAt Go.RowKit
set_option linter.unusedVariables false

def faultV (v : Int × Int × ByteArray) : Int := if v.1 < 0 ∨ 3 < v.1 then 19 else if v.1 = 0 then fault0 v else if v.1 = 1 then fault1 v else if v.1 = 2 then fault2 v else fault3 v
def faultL : List (Int × Int × ByteArray) → Int
  | [] => 0
  | v :: r => if faultV v ≠ 0 then faultV v else faultL r
theorem layE_0 (w : World) : Calls Try.prog 21 #[.int .i64 0] w fun e w' => e = .returned (.agg #[.func (.func 43) #[] #[], .func (.func 44) #[] #[], .func (.func 45) #[] #[], .func (.func 46) #[] #[], .func (.func 47) #[] #[]]) ∧ Below w.heap.size w w' := layoutOf_0 w
theorem layE_1 (w : World) : Calls Try.prog 21 #[.int .i64 1] w fun e w' => e = .returned (.agg #[.func (.func 48) #[] #[], .func (.func 49) #[] #[], .func (.func 50) #[] #[], .func (.func 51) #[] #[], .func (.func 52) #[] #[]]) ∧ Below w.heap.size w w' := layoutOf_1 w
theorem layE_2 (w : World) : Calls Try.prog 21 #[.int .i64 2] w fun e w' => e = .returned (.agg #[.func (.func 53) #[] #[], .func (.func 54) #[] #[], .func (.func 55) #[] #[], .func (.func 56) #[] #[], .func (.func 57) #[] #[]]) ∧ Below w.heap.size w w' := layoutOf_2 w
theorem layE_3 (w : World) : Calls Try.prog 21 #[.int .i64 3] w fun e w' => e = .returned (.agg #[.func (.func 58) #[] #[], .func (.func 59) #[] #[], .func (.func 60) #[] #[], .func (.func 61) #[] #[], .func (.func 62) #[] #[]]) ∧ Below w.heap.size w w' := layoutOf_3 w
theorem faultL_step (vs : List (Int × Int × ByteArray)) (k : Nat) (h : k < vs.length) : faultL (vs.drop k) = if faultV vs[k] ≠ 0 then faultV vs[k] else faultL (vs.drop (k + 1)) := by
  rw [List.drop_eq_getElem_cons h, faultL]
theorem faultL_end (vs : List (Int × Int × ByteArray)) (k : Nat) (h : vs.length ≤ k) : faultL (vs.drop k) = 0 := by
  rw [List.drop_eq_nil_of_le h, faultL]
/-- What stands while a value's layout is asked for: its three cells, and all below B as it was. -/
def CkS (w : World) (B n : Nat) (kd i : Int) (t : ByteArray) (W : World) : Prop :=
  (Below B w W ∧ B ≤ W.heap.size ∧ n < W.heap.size) ∧ W.cell? ⟨n, 0, none⟩ = some (.int .i64 kd) ∧ W.cell? ⟨n, 1, none⟩ = some (.int .i64 i) ∧ W.cell? ⟨n, 2, none⟩ = some (.string t)
theorem CkS.later {w W W' : World} {B n : Nat} {kd i : Int} {t : ByteArray} (h : CkS w B n kd i t W) (hb : Below W.heap.size W W') : CkS w B n kd i t W' := by
  obtain ⟨⟨h1, h2, h3⟩, c0, c1, c2⟩ := h
  have hz := hb.size
  exact ⟨⟨h1.trans (hb.mono h2), by omega, by omega⟩, by rw [hb.cell (p := ⟨n, 0, none⟩) h3]; exact c0, by rw [hb.cell (p := ⟨n, 1, none⟩) h3]; exact c1, by rw [hb.cell (p := ⟨n, 2, none⟩) h3]; exact c2⟩
theorem CkS.drew {w W : World} {B n : Nat} {kd i : Int} {t : ByteArray} (h : CkS w B n kd i t W) : CkS w B n kd i t W.drew := h.later (Below.refl _ _).drew
theorem CkS.keep {w W : World} {B n : Nat} {kd i : Int} {t : ByteArray} (h : CkS w B n kd i t W) : CkS w B n kd i t W ∧ W.cell? ⟨n, 0, none⟩ = some (.int .i64 kd) ∧ W.cell? ⟨n, 1, none⟩ = some (.int .i64 i) ∧ W.cell? ⟨n, 2, none⟩ = some (.string t) := ⟨h, h.2⟩
theorem CkS.new {w wr : World} {B : Nat} (kd i : Int) (t : ByteArray) (hb : Below B w wr) (hB : B ≤ wr.heap.size) : CkS w B wr.heap.size kd i t (wr.alloc (.cells #[.int .i64 kd, .int .i64 i, .string t] 45)) := by
  have := lt_alloc wr (.cells #[.int .i64 kd, .int .i64 i, .string t] 45)
  exact ⟨⟨hb.alloc hB _, by omega, this⟩, by simp [go_sem], by simp [go_sem], by simp [go_sem]⟩
theorem CkS.call {w W : World} {B n : Nat} {kd i : Int} {t : ByteArray} {f : FuncId} {args : Array Value} {r : Ending} (h : CkS w B n kd i t W) (hc : Calls Try.prog f args W fun e w' => e = r ∧ Below W.heap.size W w') : Calls Try.prog f args W fun e w' => e = r ∧ CkS w B n kd i t w' :=
  hc.mono fun _ _ h2 => ⟨h2.1, h.later h2.2⟩
theorem fld0_0 (w : World) : Sem.run Try.prog (Instr.field 53 (.agg #[.func (.func 43) #[] #[], .func (.func 44) #[] #[], .func (.func 45) #[] #[], .func (.func 46) #[] #[], .func (.func 47) #[] #[]]) 0) w = .ok (.func (.func 43) #[] #[]) w := by kernel_rfl
theorem fld0_1 (w : World) : Sem.run Try.prog (Instr.field 53 (.agg #[.func (.func 43) #[] #[], .func (.func 44) #[] #[], .func (.func 45) #[] #[], .func (.func 46) #[] #[], .func (.func 47) #[] #[]]) 1) w = .ok (.func (.func 44) #[] #[]) w := by kernel_rfl
theorem fld0_3 (w : World) : Sem.run Try.prog (Instr.field 53 (.agg #[.func (.func 43) #[] #[], .func (.func 44) #[] #[], .func (.func 45) #[] #[], .func (.func 46) #[] #[], .func (.func 47) #[] #[]]) 3) w = .ok (.func (.func 46) #[] #[]) w := by kernel_rfl
theorem fld1_0 (w : World) : Sem.run Try.prog (Instr.field 53 (.agg #[.func (.func 48) #[] #[], .func (.func 49) #[] #[], .func (.func 50) #[] #[], .func (.func 51) #[] #[], .func (.func 52) #[] #[]]) 0) w = .ok (.func (.func 48) #[] #[]) w := by kernel_rfl
theorem fld1_1 (w : World) : Sem.run Try.prog (Instr.field 53 (.agg #[.func (.func 48) #[] #[], .func (.func 49) #[] #[], .func (.func 50) #[] #[], .func (.func 51) #[] #[], .func (.func 52) #[] #[]]) 1) w = .ok (.func (.func 49) #[] #[]) w := by kernel_rfl
theorem fld1_3 (w : World) : Sem.run Try.prog (Instr.field 53 (.agg #[.func (.func 48) #[] #[], .func (.func 49) #[] #[], .func (.func 50) #[] #[], .func (.func 51) #[] #[], .func (.func 52) #[] #[]]) 3) w = .ok (.func (.func 51) #[] #[]) w := by kernel_rfl
theorem fld2_0 (w : World) : Sem.run Try.prog (Instr.field 53 (.agg #[.func (.func 53) #[] #[], .func (.func 54) #[] #[], .func (.func 55) #[] #[], .func (.func 56) #[] #[], .func (.func 57) #[] #[]]) 0) w = .ok (.func (.func 53) #[] #[]) w := by kernel_rfl
theorem fld2_1 (w : World) : Sem.run Try.prog (Instr.field 53 (.agg #[.func (.func 53) #[] #[], .func (.func 54) #[] #[], .func (.func 55) #[] #[], .func (.func 56) #[] #[], .func (.func 57) #[] #[]]) 1) w = .ok (.func (.func 54) #[] #[]) w := by kernel_rfl
theorem fld2_3 (w : World) : Sem.run Try.prog (Instr.field 53 (.agg #[.func (.func 53) #[] #[], .func (.func 54) #[] #[], .func (.func 55) #[] #[], .func (.func 56) #[] #[], .func (.func 57) #[] #[]]) 3) w = .ok (.func (.func 56) #[] #[]) w := by kernel_rfl
theorem fld3_0 (w : World) : Sem.run Try.prog (Instr.field 53 (.agg #[.func (.func 58) #[] #[], .func (.func 59) #[] #[], .func (.func 60) #[] #[], .func (.func 61) #[] #[], .func (.func 62) #[] #[]]) 0) w = .ok (.func (.func 58) #[] #[]) w := by kernel_rfl
theorem fld3_1 (w : World) : Sem.run Try.prog (Instr.field 53 (.agg #[.func (.func 58) #[] #[], .func (.func 59) #[] #[], .func (.func 60) #[] #[], .func (.func 61) #[] #[], .func (.func 62) #[] #[]]) 1) w = .ok (.func (.func 59) #[] #[]) w := by kernel_rfl
theorem fld3_3 (w : World) : Sem.run Try.prog (Instr.field 53 (.agg #[.func (.func 58) #[] #[], .func (.func 59) #[] #[], .func (.func 60) #[] #[], .func (.func 61) #[] #[], .func (.func 62) #[] #[]]) 3) w = .ok (.func (.func 61) #[] #[]) w := by kernel_rfl
attribute [local go_sem ↓] Go.wp_at_zero Go.wp_at_succ
attribute [local go_sem] fld0_0 fld0_1 fld0_3 fld1_0 fld1_1 fld1_3 fld2_0 fld2_1 fld2_3 fld3_0 fld3_1 fld3_3
set_option maxRecDepth 100000 in
set_option maxHeartbeats 3200000 in
theorem check_any (a : Value) (vs : List (Int × Int × ByteArray)) (B : Nat) (w : World) (hB : B ≤ w.heap.size) (ha : SeesV w B a vs) (hv : ∀ v ∈ vs, v.2.2.size ≤ 9223372036854775807) :
    Calls Try.prog 20 #[a] w fun e w' => e = .returned (.int .i64 (if 16 < vs.length then 18 else faultL vs)) ∧ Below B w w' := by
  obtain ⟨ao, cap, rfl, hl1, hc1, hs1⟩ := ha
  have HA : Hid _ := hs1
  clear hs1
  by_cases hm : 16 < vs.length
  · go_enter Try.func20, Try.ntmps20
    go_wp2
    go_ret
    exact ⟨rfl, Below.refl _ _⟩
  rw [if_neg hm]
  go_enter Try.func20, Try.ntmps20
  go_wp2
  go_loopw [11] (fun i wr => ∃ k : Nat, k ≤ vs.length ∧ i = .int .i64 k ∧ faultL vs = faultL (vs.drop k) ∧ Below B w wr) (fun i _ => vs.length - (intOf i).toNat)
  case atStart => exact ⟨0, by omega, rfl, rfl, Below.refl _ _⟩
  case round =>
    obtain ⟨k, hk, rfl, hfl, hbel⟩ := hrel
    have HF : Hid (faultL vs = faultL (vs.drop k)) := hfl
    have HBl : Hid (Below B w wr) := hbel
    have hBr : B ≤ wr.heap.size := by have := hbel.size; omega
    clear hfl hbel
    by_cases h1 : k < vs.length
    · obtain ⟨b1, o1, e1, hb1, x0, x1, x2⟩ := HA.out k h1
      have y0 := (HBl.out.cell (p := ⟨b1, o1 + k * 3, none⟩) hb1).trans x0
      have y1 := (HBl.out.cell (p := ⟨b1, o1 + k * 3 + 1, none⟩) hb1).trans x1
      have y2 := (HBl.out.cell (p := ⟨b1, o1 + k * 3 + 2, none⟩) hb1).trans x2
      clear x0 x1 x2
      subst e1
      have hS := faultL_step vs k h1
      have hvs := hv _ (List.getElem_mem h1)
      have hn1 : b1 < wr.heap.size := by omega
      generalize hvk : vs[k] = v at *
      obtain ⟨kd, i, t⟩ := v
      simp only at y0 y1 y2 hvs
      have HS : Hid (faultL (vs.drop k) = if faultV (kd, i, t) ≠ 0 then faultV (kd, i, t) else faultL (vs.drop (k + 1))) := hS
      clear hS hvk
      have HBa : Hid (Below B w (wr.alloc (.cells #[.int .i64 kd, .int .i64 i, .string t] 45))) := HBl.out.alloc hBr _
      by_cases q1 : kd < 0
      · have HV : Hid (faultV (kd, i, t) = 19) := by show _ = _; unfold faultV; rw [if_pos (.inl q1)]
        go_wp2
        go_ret
        exact ⟨by rw [HF.out, HS.out, HV.out]; rfl, HBa.out⟩
      by_cases q2 : 3 < kd
      · have HV : Hid (faultV (kd, i, t) = 19) := by show _ = _; unfold faultV; rw [if_pos (.inr q2)]
        go_wp2
        go_ret
        exact ⟨by rw [HF.out, HS.out, HV.out]; rfl, HBa.out⟩
      have hkd : kd = 0 ∨ kd = 1 ∨ kd = 2 ∨ kd = 3 := by omega
      clear q1 q2
      rcases hkd with rfl | rfl | rfl | rfl
      · have HV : Hid (faultV (0, i, t) = fault0 (0, i, t)) := by show _ = _; unfold faultV; rw [if_neg (by simp), if_pos rfl]
        go_wp2_with fail
        have hs0 := CkS.new 0 i t HBl.out hBr
        have c0 := hs0.2.1
        have c1 := hs0.2.2.1
        have c2 := hs0.2.2.2
        clear y0 y1 y2 hn1 HBl HBa hBr
        generalize wr.alloc (.cells #[.int .i64 0, .int .i64 i, .string t] 45) = W at *
        generalize wr.heap.size = n at *
        go_region_held3 (fun W' => CkS w B n 0 i t W' ∧ W'.cell? ⟨n, 0, none⟩ = some (.int .i64 0) ∧ W'.cell? ⟨n, 1, none⟩ = some (.int .i64 i) ∧ W'.cell? ⟨n, 2, none⟩ = some (.string t)) (first | assumption | exact CkS.keep (by assumption) | exact CkS.keep (CkS.drew (by assumption)) | exact CkS.keep (CkS.drew (And.left (by assumption)))) (first | (go_at_call 21; refine (CkS.call (by first | assumption | exact And.left (by assumption)) (layE_0 _)).mono ?_; rintro e w' ⟨rfl, hSx⟩) | (go_at_call 43; refine (CkS.call (by first | assumption | exact And.left (by assumption)) (check0 (0, i, t) _)).mono ?_; rintro e w' ⟨rfl, hSy⟩))
        have HB3 : Hid (Below B w _) := hSy.1.1
        clear hs0 c0 c1 c2 hSx hSy
        rw [← HV.out]
        generalize faultV (0, i, t) = c at *
        cases hc : (c != 0)
        · have hc0 : c = 0 := by simpa using hc
          have HZ : Hid (c = 0) := hc0
          clear hc0
          go_wp2
          go_roundw
          case rel => exact ⟨k + 1, by omega, by go_num, by rw [HF.out, HS.out, if_neg (by simp [HZ.out])], HB3.out⟩
          case measure => simp [intOf]; omega
        · have HZ : Hid (c ≠ 0) := by show _ ≠ _; simpa using hc
          go_wp2
          go_ret
          exact ⟨by rw [HF.out, HS.out, if_pos HZ.out]; rfl, HB3.out⟩
      · have HV : Hid (faultV (1, i, t) = fault1 (1, i, t)) := by show _ = _; unfold faultV; rw [if_neg (by simp), if_neg (by simp), if_pos rfl]
        go_wp2_with fail
        have hs0 := CkS.new 1 i t HBl.out hBr
        have c0 := hs0.2.1
        have c1 := hs0.2.2.1
        have c2 := hs0.2.2.2
        clear y0 y1 y2 hn1 HBl HBa hBr
        generalize wr.alloc (.cells #[.int .i64 1, .int .i64 i, .string t] 45) = W at *
        generalize wr.heap.size = n at *
        go_region_held3 (fun W' => CkS w B n 1 i t W' ∧ W'.cell? ⟨n, 0, none⟩ = some (.int .i64 1) ∧ W'.cell? ⟨n, 1, none⟩ = some (.int .i64 i) ∧ W'.cell? ⟨n, 2, none⟩ = some (.string t)) (first | assumption | exact CkS.keep (by assumption) | exact CkS.keep (CkS.drew (by assumption)) | exact CkS.keep (CkS.drew (And.left (by assumption)))) (first | (go_at_call 21; refine (CkS.call (by first | assumption | exact And.left (by assumption)) (layE_1 _)).mono ?_; rintro e w' ⟨rfl, hSx⟩) | (go_at_call 48; refine (CkS.call (by first | assumption | exact And.left (by assumption)) (check1 (1, i, t) _)).mono ?_; rintro e w' ⟨rfl, hSy⟩))
        have HB3 : Hid (Below B w _) := hSy.1.1
        clear hs0 c0 c1 c2 hSx hSy
        rw [← HV.out]
        generalize faultV (1, i, t) = c at *
        cases hc : (c != 0)
        · have hc0 : c = 0 := by simpa using hc
          have HZ : Hid (c = 0) := hc0
          clear hc0
          go_wp2
          go_roundw
          case rel => exact ⟨k + 1, by omega, by go_num, by rw [HF.out, HS.out, if_neg (by simp [HZ.out])], HB3.out⟩
          case measure => simp [intOf]; omega
        · have HZ : Hid (c ≠ 0) := by show _ ≠ _; simpa using hc
          go_wp2
          go_ret
          exact ⟨by rw [HF.out, HS.out, if_pos HZ.out]; rfl, HB3.out⟩
      · have HV : Hid (faultV (2, i, t) = fault2 (2, i, t)) := by show _ = _; unfold faultV; rw [if_neg (by simp), if_neg (by simp), if_neg (by simp), if_pos rfl]
        go_wp2_with fail
        have hs0 := CkS.new 2 i t HBl.out hBr
        have c0 := hs0.2.1
        have c1 := hs0.2.2.1
        have c2 := hs0.2.2.2
        clear y0 y1 y2 hn1 HBl HBa hBr
        generalize wr.alloc (.cells #[.int .i64 2, .int .i64 i, .string t] 45) = W at *
        generalize wr.heap.size = n at *
        go_region_held3 (fun W' => CkS w B n 2 i t W' ∧ W'.cell? ⟨n, 0, none⟩ = some (.int .i64 2) ∧ W'.cell? ⟨n, 1, none⟩ = some (.int .i64 i) ∧ W'.cell? ⟨n, 2, none⟩ = some (.string t)) (first | assumption | exact CkS.keep (by assumption) | exact CkS.keep (CkS.drew (by assumption)) | exact CkS.keep (CkS.drew (And.left (by assumption)))) (first | (go_at_call 21; refine (CkS.call (by first | assumption | exact And.left (by assumption)) (layE_2 _)).mono ?_; rintro e w' ⟨rfl, hSx⟩) | (go_at_call 53; refine (CkS.call (by first | assumption | exact And.left (by assumption)) (check2 (2, i, t) _)).mono ?_; rintro e w' ⟨rfl, hSy⟩))
        have HB3 : Hid (Below B w _) := hSy.1.1
        clear hs0 c0 c1 c2 hSx hSy
        rw [← HV.out]
        generalize faultV (2, i, t) = c at *
        cases hc : (c != 0)
        · have hc0 : c = 0 := by simpa using hc
          have HZ : Hid (c = 0) := hc0
          clear hc0
          go_wp2
          go_roundw
          case rel => exact ⟨k + 1, by omega, by go_num, by rw [HF.out, HS.out, if_neg (by simp [HZ.out])], HB3.out⟩
          case measure => simp [intOf]; omega
        · have HZ : Hid (c ≠ 0) := by show _ ≠ _; simpa using hc
          go_wp2
          go_ret
          exact ⟨by rw [HF.out, HS.out, if_pos HZ.out]; rfl, HB3.out⟩
      · have HV : Hid (faultV (3, i, t) = fault3 (3, i, t)) := by show _ = _; unfold faultV; rw [if_neg (by simp), if_neg (by simp), if_neg (by simp), if_neg (by simp)]
        go_wp2_with fail
        have hs0 := CkS.new 3 i t HBl.out hBr
        have c0 := hs0.2.1
        have c1 := hs0.2.2.1
        have c2 := hs0.2.2.2
        clear y0 y1 y2 hn1 HBl HBa hBr
        generalize wr.alloc (.cells #[.int .i64 3, .int .i64 i, .string t] 45) = W at *
        generalize wr.heap.size = n at *
        go_region_held3 (fun W' => CkS w B n 3 i t W' ∧ W'.cell? ⟨n, 0, none⟩ = some (.int .i64 3) ∧ W'.cell? ⟨n, 1, none⟩ = some (.int .i64 i) ∧ W'.cell? ⟨n, 2, none⟩ = some (.string t)) (first | assumption | exact CkS.keep (by assumption) | exact CkS.keep (CkS.drew (by assumption)) | exact CkS.keep (CkS.drew (And.left (by assumption)))) (first | (go_at_call 21; refine (CkS.call (by first | assumption | exact And.left (by assumption)) (layE_3 _)).mono ?_; rintro e w' ⟨rfl, hSx⟩) | (go_at_call 58; refine (CkS.call (by first | assumption | exact And.left (by assumption)) (check3 (3, i, t) _ hvs)).mono ?_; rintro e w' ⟨rfl, hSy⟩))
        have HB3 : Hid (Below B w _) := hSy.1.1
        clear hs0 c0 c1 c2 hSx hSy
        rw [← HV.out]
        generalize faultV (3, i, t) = c at *
        cases hc : (c != 0)
        · have hc0 : c = 0 := by simpa using hc
          have HZ : Hid (c = 0) := hc0
          clear hc0
          go_wp2
          go_roundw
          case rel => exact ⟨k + 1, by omega, by go_num, by rw [HF.out, HS.out, if_neg (by simp [HZ.out])], HB3.out⟩
          case measure => simp [intOf]; omega
        · have HZ : Hid (c ≠ 0) := by show _ ≠ _; simpa using hc
          go_wp2
          go_ret
          exact ⟨by rw [HF.out, HS.out, if_pos HZ.out]; rfl, HB3.out⟩
    · have HE := faultL_end vs k (by omega)
      have HE2 : Hid (faultL (vs.drop k) = 0) := HE
      clear HE
      go_wp2
      go_ret
      exact ⟨by rw [HF.out, HE2.out]; rfl, HBl.out⟩
end Go.Proofs.Ytfabgoanammaiaa
