import Derived.Test.YtjcffcpmegpjeaaGreatDoorTextsLaw
import Derived.Test.YtjcffcpmegpjeaaGreatDoorRows8
import Derived.Test.YtjcffcpmegpjeaaGreatDoorPnA
import Derived.Test.YtjcffcpmegpjeaaGreatDoorPnE3
namespace Go.Proofs.YtjcffcpmegpjeaaGreatDoor
open Go.ChangeShapes Go.WideShapes Go.ChangeAt Go.RowKit
set_option linter.unusedVariables false
set_option maxRecDepth 100000
/-- What is wrong with a value of a column. -/
def colE (v : VL) (c : CD) : Int := if faultV v ≠ 0 then faultV v else if v.1 = 0 then (if c.2.2 = true then 166 else 0) else if v.1 = c.2.1 then 0 else 163
def rowE : List VL → List CD → Int
  | v :: vs, c :: cs => if colE v c ≠ 0 then colE v c else rowE vs cs
  | _, _ => 0
def zeroV : VL := (0, 0, ⟨#[]⟩)
/-- The values of a row's key. -/
def keyVs (num : Int) (ks : List Int) (vs : List VL) : List VL := (2, num, ⟨#[]⟩) :: ks.map fun k => vs.getD k.toNat zeroV
def keyT (num : Int) (ks : List Int) (vs : List VL) : ByteArray := strOfNums (keyL (keyVs num ks vs))
def datT (vs : List VL) : ByteArray := strOfNums (rowAll vs)
/-- What is wrong with a row of a table; 0: nothing. -/
def rpE (num : Int) (cs : List CD) (ks : List Int) (vs : List VL) : Int :=
  if vs.length ≠ cs.length then 167 else if rowE vs cs ≠ 0 then rowE vs cs else if 160 < (keyT num ks vs).size ∨ 512 < (datT vs).size then 72 else 0
end Go.Proofs.YtjcffcpmegpjeaaGreatDoor

namespace Go.Proofs.YtjcffcpmegpjeaaGreatDoor
open Go.ChangeShapes Go.WideShapes Go.ChangeAt Go.RowKit
set_option linter.unusedVariables false
set_option maxRecDepth 100000
/-- No error, or one that holds the number. -/
def errO (c : Int) : Value := if c = 0 then .nilIface else .iface 90 (.agg #[.int .i64 c])
theorem errO_nil : errO 0 = .nilIface := if_pos rfl
theorem errO_not {c : Int} (h : c ≠ 0) : errO c = .iface 90 (.agg #[.int .i64 c]) := if_neg h
theorem faultIfT (b : Bool) (c : Int) (hc : c ≠ 0) (w : World) : Calls Tryz.prog 48 #[.bool b, .int .i64 c] w fun e w' => e = .returned (errO (if b then c else 0)) ∧ w' = w := by
  rcases b with _ | _
  · rw [if_neg (by simp), errO_nil]
    go_enter Tryz.func48, Tryz.ntmps48
    go_wp2
    go_ret
    exact ⟨rfl, rfl⟩
  · rw [if_pos rfl, errO_not hc]
    go_enter Tryz.func48, Tryz.ntmps48
    go_wp2
    go_ret
    exact ⟨rfl, rfl⟩
theorem boxVal (w : World) (v : VL) : Below w.heap.size w (w.alloc (.cells #[.int .i64 v.1, .int .i64 v.2.1, .string v.2.2] 59)) := (Below.refl _ _).alloc (Nat.le_refl _) _
theorem isNullT (v : VL) (w : World) : Calls Tryz.prog 49 #[.agg #[.int .i64 v.1, .int .i64 v.2.1, .string v.2.2]] w fun e w' => e = .returned (.bool (decide (v.1 = 0))) ∧ Below w.heap.size w w' := by
  have HB : Hid _ := boxVal w v
  obtain ⟨k, i, t⟩ := v
  dsimp only at *
  by_cases h : k = 0
  · subst h
    go_enter Tryz.func49, Tryz.ntmps49
    go_wp2
    go_ret
    exact ⟨rfl, HB.out⟩
  · have hb : (k == 0) = false := beq_eq_false_iff_ne.2 h
    have HE : Hid (decide (k = 0) = false) := decide_eq_false h
    generalize decide (k = 0) = x at *
    clear h
    go_enter Tryz.func49, Tryz.ntmps49
    go_wp2
    go_ret
    exact ⟨by rw [HE.out]; rfl, HB.out⟩
def VOK (v : VL) : Prop := v.2.2.size ≤ 9223372036854775807 ∧ -9223372036854775808 ≤ v.2.1 ∧ v.2.1 ≤ 9223372036854775807
/-- What is wrong with a value of a type. -/
def chkE (v : VL) (k : Int) : Int := if faultV v ≠ 0 then faultV v else if v.1 = 0 then 0 else if v.1 = k then 0 else 163
theorem sees_one (w : World) (v : VL) : SeesV (w.alloc (.cells #[.int .i64 v.1, .int .i64 v.2.1, .string v.2.2] 59)) (w.heap.size + 1) (.slice (some ⟨w.heap.size, 0, none⟩) 1 1) [v] := by
  refine ⟨_, 1, rfl, Nat.le_refl _, by simp, fun i hi => ⟨w.heap.size, 0, rfl, by omega, ?_⟩⟩
  have : i = 0 := by simpa using hi
  subst this
  refine ⟨?_, ?_, ?_⟩ <;> simp
theorem faultL_one (v : VL) : faultL [v] = faultV v := by
  simp only [faultL]
  split <;> simp_all
set_option maxHeartbeats 4000000 in
theorem checkT (v : VL) (k : Int) (w : World) (hv : VOK v) : Calls Tryz.prog 47 #[.agg #[.int .i64 v.1, .int .i64 v.2.1, .string v.2.2], .int .i64 k] w fun e w' => e = .returned (errO (chkE v k)) ∧ Below w.heap.size w w' := by
  have HB1 : Hid (Below w.heap.size w (w.alloc (.cells #[.int .i64 v.1, .int .i64 v.2.1, .string v.2.2] 59))) := boxVal w v
  have hs1 : (w.alloc (.cells #[.int .i64 v.1, .int .i64 v.2.1, .string v.2.2] 59)).heap.size = w.heap.size + 1 := szAl _ _
  have HB2 : Hid (Below w.heap.size w ((w.alloc (.cells #[.int .i64 v.1, .int .i64 v.2.1, .string v.2.2] 59)).alloc (.cells #[.int .i64 v.1, .int .i64 v.2.1, .string v.2.2] 59))) := HB1.out.alloc (by omega) _
  have HS : Hid _ := sees_one (w.alloc (.cells #[.int .i64 v.1, .int .i64 v.2.1, .string v.2.2] 59)) v
  have hs2 : ((w.alloc (.cells #[.int .i64 v.1, .int .i64 v.2.1, .string v.2.2] 59)).alloc (.cells #[.int .i64 v.1, .int .i64 v.2.1, .string v.2.2] 59)).heap.size = w.heap.size + 2 := by rw [szAl, hs1]
  have HK : Hid (Calls Tryz.prog 78 #[.slice (some ⟨w.heap.size + 1, 0, none⟩) 1 1] ((w.alloc (.cells #[.int .i64 v.1, .int .i64 v.2.1, .string v.2.2] 59)).alloc (.cells #[.int .i64 v.1, .int .i64 v.2.1, .string v.2.2] 59)) fun e w' => ∃ s, e = .returned (.tuple #[.string s, .int .i64 (faultV v)]) ∧ Below (w.heap.size + 2) ((w.alloc (.cells #[.int .i64 v.1, .int .i64 v.2.1, .string v.2.2] 59)).alloc (.cells #[.int .i64 v.1, .int .i64 v.2.1, .string v.2.2] 59)) w') := by
    have h := HS.out
    rw [hs1] at h
    refine (keyG _ [v] (w.heap.size + 2) _ (by omega) h (fun u hu => by rw [List.mem_singleton.1 hu]; exact hv)).mono ?_
    rintro e w' ⟨rfl, hb⟩
    rw [if_neg (by simp), faultL_one]
    by_cases hf : faultV v = 0
    · rw [if_pos hf, hf]; exact ⟨_, rfl, hb⟩
    · rw [if_neg hf]; exact ⟨_, rfl, hb⟩
  have hc0 : ((w.alloc (.cells #[.int .i64 v.1, .int .i64 v.2.1, .string v.2.2] 59)).alloc (.cells #[.int .i64 v.1, .int .i64 v.2.1, .string v.2.2] 59)).heap[w.heap.size]? = some (.cells #[.int .i64 v.1, .int .i64 v.2.1, .string v.2.2] 59) := by
    rw [Below.heap_alloc _ _ _ (by omega)]
    show (w.heap.push _)[w.heap.size]? = _
    simp
  have HN : Hid (∀ w, _) := fun w => isNullT v w
  have HE : Hid (chkE v k = if faultV v ≠ 0 then faultV v else if v.1 = 0 then 0 else if v.1 = k then 0 else 163) := rfl
  generalize faultV v = f at *
  clear HS hs1 hv
  by_cases hf : f = 0
  · subst hf
    have HE2 : Hid (chkE v k = if v.1 = 0 then 0 else if v.1 = k then 0 else 163) := by
      show _ = _
      rw [HE.out, if_neg (by simp)]
    obtain ⟨kd, i, t⟩ := v
    dsimp only at *
    go_enter Tryz.func47, Tryz.ntmps47
    go_wp2_with fail
    refine Calls.mono HK.out ?_
    rintro e w3 ⟨s, rfl, hb3⟩
    have c0 : w3.heap[w.heap.size]? = some (.cells #[.int .i64 kd, .int .i64 i, .string t] 59) := by rw [hb3.block _ (by omega)]; exact hc0
    have d0 : w3.cell? ⟨w.heap.size, 0, none⟩ = some (.int .i64 kd) := by unfold World.cell?; rw [c0]; rfl
    have d1 : w3.cell? ⟨w.heap.size, 1, none⟩ = some (.int .i64 i) := by unfold World.cell?; rw [c0]; rfl
    have d2 : w3.cell? ⟨w.heap.size, 2, none⟩ = some (.string t) := by unfold World.cell?; rw [c0]; rfl
    have HB3 : Hid (Below w.heap.size w w3) := HB2.out.trans (hb3.mono (by omega))
    have hsz3 : w.heap.size < w3.heap.size := by have := hb3.size; omega
    clear hb3 HK c0 hc0
    go_wp2_with fail
    refine (HN.out w3).mono ?_
    rintro e w4 ⟨rfl, hb4⟩
    have HB4 : Hid (Below w.heap.size w w4) := HB3.out.trans (hb4.mono (by omega))
    have e0 : w4.cell? ⟨w.heap.size, 0, none⟩ = some (.int .i64 kd) := by rw [hb4.cell (p := ⟨w.heap.size, 0, none⟩) hsz3]; exact d0
    clear hb4 d0 d1 d2 HB3 HN
    by_cases hk : kd = 0
    · have HE3 : Hid (chkE (kd, i, t) k = 0) := by
        show _ = _
        rw [HE2.out, if_pos hk]
      rw [decide_eq_true hk]
      clear hk
      have HF : Hid (∀ w, _) := fun w => faultIfT false 163 (by decide) w
      go_wp2_with fail
      refine (HF.out w4).mono ?_
      rintro e w5 ⟨rfl, rfl⟩
      rw [if_neg (by simp), errO_nil]
      go_wp2
      go_ret
      exact ⟨by rw [HE3.out, errO_nil]; rfl, HB4.out⟩
    · rw [decide_eq_false hk]
      by_cases hkk : kd = k
      · have HE3 : Hid (chkE (kd, i, t) k = 0) := by
          show _ = _
          rw [HE2.out, if_neg hk, if_pos hkk]
        have hb : (kd != k) = false := by simp [hkk]
        clear hk hkk
        have HF : Hid (∀ w, _) := fun w => faultIfT false 163 (by decide) w
        go_wp2_with fail
        refine (HF.out w4).mono ?_
        rintro e w5 ⟨rfl, rfl⟩
        rw [if_neg (by simp), errO_nil]
        go_wp2
        go_ret
        exact ⟨by rw [HE3.out, errO_nil]; rfl, HB4.out⟩
      · have HE3 : Hid (chkE (kd, i, t) k = 163) := by
          show _ = _
          rw [HE2.out, if_neg hk, if_neg hkk]
        have hb : (kd != k) = true := by simp [hkk]
        clear hk hkk
        have HF : Hid (∀ w, _) := fun w => faultIfT true 163 (by decide) w
        go_wp2_with fail
        refine (HF.out w4).mono ?_
        rintro e w5 ⟨rfl, rfl⟩
        first | rw [if_pos rfl, errO_not (by decide)] | rw [if_pos trivial, errO_not (by decide)]
        go_wp2
        go_ret
        exact ⟨by rw [HE3.out, errO_not (by decide)]; rfl, HB4.out⟩
  · have HE2 : Hid (chkE v k = f) := by
      show _ = _
      rw [HE.out, if_pos hf]
    have hfb : (f != 0) = true := by simp [hf]
    obtain ⟨kd, i, t⟩ := v
    dsimp only at *
    go_enter Tryz.func47, Tryz.ntmps47
    go_wp2_with fail
    refine Calls.mono HK.out ?_
    rintro e w3 ⟨s, rfl, hb3⟩
    have HB3 : Hid (Below w.heap.size w w3) := HB2.out.trans (hb3.mono (by omega))
    have HNE : Hid (f ≠ 0) := hf
    clear hb3 hf
    go_wp2
    go_ret
    exact ⟨by rw [HE2.out, errO_not HNE.out]; rfl, HB3.out⟩
end Go.Proofs.YtjcffcpmegpjeaaGreatDoor
