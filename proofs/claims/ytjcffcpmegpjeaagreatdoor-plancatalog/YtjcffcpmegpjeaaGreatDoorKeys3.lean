import Derived.Test.YtjcffcpmegpjeaaGreatDoorVals4
import Derived.Test.YtjcffcpmegpjeaaGreatDoorOwnB
namespace Go.Proofs.YtjcffcpmegpjeaaGreatDoor
open Go.ChangeShapes Go.WideShapes Go.ChangeAt Go.RowKit
set_option linter.unusedVariables false
set_option maxRecDepth 100000

theorem refuse_any (b : Bool) (w : World) : Calls Tryz.prog 146 #[.bool b] w fun e w' => e = .returned (.int .i64 (if b then 0 else 19)) ∧ w' = w := by
  cases b
  all_goals
    go_enter Tryz.func146, Tryz.ntmps146
    go_wp2
    go_ret
    exact ⟨rfl, rfl⟩
/-- The errors of a value of each kind. -/
def fault0 (v : Int × Int × ByteArray) : Int := if v.2.1 == 0 && v.2.2.toList.isEmpty then 0 else 19
def fault1 (v : Int × Int × ByteArray) : Int := if (v.2.1 == 0 || v.2.1 == 1) && v.2.2.toList.isEmpty then 0 else 19
def fault2 (v : Int × Int × ByteArray) : Int := if v.2.2.toList.isEmpty then 0 else 19
def fault3 (v : Int × Int × ByteArray) : Int := if v.2.1 == 0 && decide (4096 < v.2.2.size) then 4 else if v.2.1 == 0 then 0 else 19
set_option maxRecDepth 100000 in
theorem check0 (v : Int × Int × ByteArray) (w : World) : Calls Tryz.prog 119 #[.agg #[.int .i64 v.1, .int .i64 v.2.1, .string v.2.2]] w fun e w' => e = .returned (.int .i64 (fault0 v)) ∧ Below w.heap.size w w' := by
  obtain ⟨a, b, c⟩ := v
  have HB : Hid (Below w.heap.size w (w.alloc (.cells #[.int .i64 a, .int .i64 b, .string c] 59))) := (Below.refl _ _).alloc (Nat.le_refl _) _
  simp only
  cases h1 : (b == 0) <;> cases h2 : c.toList.isEmpty
  all_goals
    have HF : Hid (fault0 (a, b, c) = _) := show fault0 (a, b, c) = if (b == 0 && c.toList.isEmpty) then 0 else 19 from rfl
    rw [h1, h2] at HF
    go_enter Tryz.func119, Tryz.ntmps119
    go_wp2_with (go_at_call 146; refine (refuse_any _ _).mono ?_; rintro e w' ⟨rfl, rfl⟩)
    go_ret
    exact ⟨ret_eq (by rw [HF.out]; rfl), HB.out⟩
set_option maxRecDepth 100000 in
theorem check2 (v : Int × Int × ByteArray) (w : World) : Calls Tryz.prog 129 #[.agg #[.int .i64 v.1, .int .i64 v.2.1, .string v.2.2]] w fun e w' => e = .returned (.int .i64 (fault2 v)) ∧ Below w.heap.size w w' := by
  obtain ⟨a, b, c⟩ := v
  have HB : Hid (Below w.heap.size w (w.alloc (.cells #[.int .i64 a, .int .i64 b, .string c] 59))) := (Below.refl _ _).alloc (Nat.le_refl _) _
  simp only
  cases h2 : c.toList.isEmpty
  all_goals
    have HF : Hid (fault2 (a, b, c) = _) := show fault2 (a, b, c) = if c.toList.isEmpty then 0 else 19 from rfl
    rw [h2] at HF
    go_enter Tryz.func129, Tryz.ntmps129
    go_wp2_with (go_at_call 146; refine (refuse_any _ _).mono ?_; rintro e w' ⟨rfl, rfl⟩)
    go_ret
    exact ⟨ret_eq (by rw [HF.out]; rfl), HB.out⟩
set_option maxRecDepth 100000 in
theorem check1 (v : Int × Int × ByteArray) (w : World) : Calls Tryz.prog 124 #[.agg #[.int .i64 v.1, .int .i64 v.2.1, .string v.2.2]] w fun e w' => e = .returned (.int .i64 (fault1 v)) ∧ Below w.heap.size w w' := by
  obtain ⟨a, b, c⟩ := v
  have HB : Hid (Below w.heap.size w (w.alloc (.cells #[.int .i64 a, .int .i64 b, .string c] 59))) := (Below.refl _ _).alloc (Nat.le_refl _) _
  simp only
  cases h1 : (b == 0) <;> cases h3 : (b == 1) <;> cases h2 : c.toList.isEmpty
  all_goals
    have HF : Hid (fault1 (a, b, c) = _) := show fault1 (a, b, c) = if ((b == 0 || b == 1) && c.toList.isEmpty) then 0 else 19 from rfl
    rw [h1, h3, h2] at HF
    go_enter Tryz.func124, Tryz.ntmps124
    go_wp2_with (go_at_call 146; refine (refuse_any _ _).mono ?_; rintro e w' ⟨rfl, rfl⟩)
    go_ret
    exact ⟨ret_eq (by rw [HF.out]; rfl), HB.out⟩
set_option maxRecDepth 100000 in
theorem check3 (v : Int × Int × ByteArray) (w : World) (hs : v.2.2.size ≤ 9223372036854775807) : Calls Tryz.prog 134 #[.agg #[.int .i64 v.1, .int .i64 v.2.1, .string v.2.2]] w fun e w' => e = .returned (.int .i64 (fault3 v)) ∧ Below w.heap.size w w' := by
  obtain ⟨a, b, c⟩ := v
  have HB : Hid (Below w.heap.size w (w.alloc (.cells #[.int .i64 a, .int .i64 b, .string c] 59))) := (Below.refl _ _).alloc (Nat.le_refl _) _
  simp only at hs ⊢
  cases h1 : (b == 0) <;> by_cases h2 : 4096 < c.size
  all_goals
    have HF : Hid (fault3 (a, b, c) = _) := show fault3 (a, b, c) = if (b == 0 && decide (4096 < c.size)) then 4 else if b == 0 then 0 else 19 from rfl
    first | rw [h1, decide_eq_true h2] at HF | rw [h1, decide_eq_false h2] at HF
    go_enter Tryz.func134, Tryz.ntmps134
    go_wp2_with (go_at_call 146; refine (refuse_any _ _).mono ?_; rintro e w' ⟨rfl, rfl⟩)
    go_ret
    exact ⟨ret_eq (by rw [HF.out]; rfl), HB.out⟩
end Go.Proofs.YtjcffcpmegpjeaaGreatDoor

namespace Go.Proofs.YtjcffcpmegpjeaaGreatDoor
open Go.ChangeShapes Go.WideShapes Go.ChangeAt Go.RowKit
set_option linter.unusedVariables false
set_option maxRecDepth 100000

def lenT : ByteArray := ⟨#[0, 1, 2, 2, 3, 3, 3, 3, 4, 4, 4, 4, 4, 4, 4, 4, 5, 5, 5, 5, 5, 5, 5, 5, 5, 5, 5, 5, 5, 5, 5, 5, 6, 6, 6, 6, 6, 6, 6, 6, 6, 6, 6, 6, 6, 6, 6, 6, 6, 6, 6, 6, 6, 6, 6, 6, 6, 6, 6, 6, 6, 6, 6, 6, 7, 7, 7, 7, 7, 7, 7, 7, 7, 7, 7, 7, 7, 7, 7, 7, 7, 7, 7, 7, 7, 7, 7, 7, 7, 7, 7, 7, 7, 7, 7, 7, 7, 7, 7, 7, 7, 7, 7, 7, 7, 7, 7, 7, 7, 7, 7, 7, 7, 7, 7, 7, 7, 7, 7, 7, 7, 7, 7, 7, 7, 7, 7, 7, 8, 8, 8, 8, 8, 8, 8, 8, 8, 8, 8, 8, 8, 8, 8, 8, 8, 8, 8, 8, 8, 8, 8, 8, 8, 8, 8, 8, 8, 8, 8, 8, 8, 8, 8, 8, 8, 8, 8, 8, 8, 8, 8, 8, 8, 8, 8, 8, 8, 8, 8, 8, 8, 8, 8, 8, 8, 8, 8, 8, 8, 8, 8, 8, 8, 8, 8, 8, 8, 8, 8, 8, 8, 8, 8, 8, 8, 8, 8, 8, 8, 8, 8, 8, 8, 8, 8, 8, 8, 8, 8, 8, 8, 8, 8, 8, 8, 8, 8, 8, 8, 8, 8, 8, 8, 8, 8, 8, 8, 8, 8, 8, 8, 8, 8, 8, 8, 8, 8, 8, 8, 8, 8, 8, 8, 8, 8, 8]⟩
theorem lenT_all : ∀ i : Fin 256, ∃ h : i.val < lenT.size, lenT[i.val].toNat ≤ 8 ∧ (lenT[i.val].toNat = 0 ↔ i.val = 0) := by decide +kernel
/-- The least number of bytes that holds u. -/
def szF : Nat → Nat → Nat
  | 0, _ => 0
  | f + 1, u => if u = 0 then 0 else szF f (u / 256) + 1
def szB (u : Nat) : Nat := szF 8 u
theorem szF_zero (f : Nat) : szF f 0 = 0 := by cases f <;> simp [szF]
theorem szF_pos (f u : Nat) (h : 0 < u) : szF (f + 1) u = szF f (u / 256) + 1 := by
  have : u ≠ 0 := by omega
  simp [szF, this]
theorem szB_0 : szB 0 = 0 := szF_zero 8
theorem szB_1 (u : Nat) (h : 1 ≤ u) (h2 : u < 256) : szB u = 1 := by
  unfold szB
  rw [szF_pos 7 _ (by omega)]
  rw [show u / 256 = 0 from by omega, szF_zero]
theorem szB_2 (u : Nat) (h : 256 ≤ u) (h2 : u < 65536) : szB u = 2 := by
  unfold szB
  rw [szF_pos 7 _ (by omega), szF_pos 6 _ (by omega)]
  rw [show u / 256 / 256 = 0 from by omega, szF_zero]
theorem szB_3 (u : Nat) (h : 65536 ≤ u) (h2 : u < 16777216) : szB u = 3 := by
  unfold szB
  rw [szF_pos 7 _ (by omega), szF_pos 6 _ (by omega), szF_pos 5 _ (by omega)]
  rw [show u / 256 / 256 / 256 = 0 from by omega, szF_zero]
theorem szB_4 (u : Nat) (h : 16777216 ≤ u) (h2 : u < 4294967296) : szB u = 4 := by
  unfold szB
  rw [szF_pos 7 _ (by omega), szF_pos 6 _ (by omega), szF_pos 5 _ (by omega), szF_pos 4 _ (by omega)]
  rw [show u / 256 / 256 / 256 / 256 = 0 from by omega, szF_zero]
theorem szB_5 (u : Nat) (h : 4294967296 ≤ u) (h2 : u < 1099511627776) : szB u = 5 := by
  unfold szB
  rw [szF_pos 7 _ (by omega), szF_pos 6 _ (by omega), szF_pos 5 _ (by omega), szF_pos 4 _ (by omega), szF_pos 3 _ (by omega)]
  rw [show u / 256 / 256 / 256 / 256 / 256 = 0 from by omega, szF_zero]
theorem szB_6 (u : Nat) (h : 1099511627776 ≤ u) (h2 : u < 281474976710656) : szB u = 6 := by
  unfold szB
  rw [szF_pos 7 _ (by omega), szF_pos 6 _ (by omega), szF_pos 5 _ (by omega), szF_pos 4 _ (by omega), szF_pos 3 _ (by omega), szF_pos 2 _ (by omega)]
  rw [show u / 256 / 256 / 256 / 256 / 256 / 256 = 0 from by omega, szF_zero]
theorem szB_7 (u : Nat) (h : 281474976710656 ≤ u) (h2 : u < 72057594037927936) : szB u = 7 := by
  unfold szB
  rw [szF_pos 7 _ (by omega), szF_pos 6 _ (by omega), szF_pos 5 _ (by omega), szF_pos 4 _ (by omega), szF_pos 3 _ (by omega), szF_pos 2 _ (by omega), szF_pos 1 _ (by omega)]
  rw [show u / 256 / 256 / 256 / 256 / 256 / 256 / 256 = 0 from by omega, szF_zero]
theorem szB_8 (u : Nat) (h : 72057594037927936 ≤ u) (h2 : u < 18446744073709551616) : szB u = 8 := by
  unfold szB
  rw [szF_pos 7 _ (by omega), szF_pos 6 _ (by omega), szF_pos 5 _ (by omega), szF_pos 4 _ (by omega), szF_pos 3 _ (by omega), szF_pos 2 _ (by omega), szF_pos 1 _ (by omega), szF_pos 0 _ (by omega)]
  simp [szF]
theorem len_fin (j : Int) (i : Int) (hj : 0 ≤ j) (hj2 : j ≤ 56) (h0 : 0 ≤ i) (h1 : i < 256) (hh : i.toNat < lenT.size) : ∃ t : Int, wrap64 (j + wrap64 (lenT[i.toNat].toNat : Int)) = j + t ∧ wrap64 (wrap64 (lenT[i.toNat].toNat : Int)) = t ∧ 0 ≤ t ∧ t ≤ 8 ∧ (t = 0 ↔ i = 0) := by
  obtain ⟨h, a, b⟩ := lenT_all ⟨i.toNat, by omega⟩
  simp only at h a b
  refine ⟨(lenT[i.toNat].toNat : Int), ?_, ?_, by omega, by omega, by omega⟩
  · unfold wrap64; omega
  · unfold wrap64; omega

theorem ret_t {a : Int} (n : Int) (h : a = n) : Ending.returned (.int .i64 a) = .returned (.int .i64 n) := by rw [h]
theorem lenT_size : lenT.size = 256 := by decide +kernel
set_option maxRecDepth 100000 in
set_option maxHeartbeats 1600000 in
theorem len_0 (v : Int) (w : World) (h0 : 0 ≤ v) (r0 : v < 256) : Calls Tryz.prog 160 #[.int .u64 v] w fun e w' => (∃ L : Int, e = .returned (.int .i64 L) ∧ 0 ≤ L ∧ L ≤ 64 ∧ (L + 7) / 8 = szB v.toNat) ∧ w' = w := by
  have H0 : Hid (v = 0 → szB v.toNat = 0) := fun h => by rw [h]; exact szB_0
  have H1 : Hid (v ≠ 0 → szB v.toNat = 1) := fun h => szB_1 v.toNat (by omega) (by omega)
  obtain ⟨t, e1, e2, t0, t8, tz⟩ := len_fin 0 (v) (by omega) (by omega) (by omega) (by omega) (by rw [lenT_size]; omega)
  have HE1 : Hid (wrap64 (0 + wrap64 (lenT[(v).toNat]'(by rw [lenT_size]; omega)).toNat) = 0 + t) := e1
  have HE2 : Hid (wrap64 (wrap64 (lenT[(v).toNat]'(by rw [lenT_size]; omega)).toNat) = t) := e2
  have HT : Hid (0 ≤ t ∧ t ≤ 8 ∧ (t = 0 ↔ v = 0)) := ⟨t0, t8, tz⟩
  clear e1 e2 t0 t8 tz
  go_enter Tryz.func160, Tryz.ntmps160
  go_wp2
  go_ret
  obtain ⟨t0, t8, tz⟩ := HT.out
  refine ⟨⟨t, ret_t t HE2.out, t0, by omega, ?_⟩, rfl⟩
  by_cases hz : v = 0
  · rw [H0.out hz]; omega
  · rw [H1.out hz]; omega
set_option maxRecDepth 100000 in
set_option maxHeartbeats 1600000 in
theorem len_1 (v : Int) (w : World) (h0 : 256 ≤ v) (r0 : v < 65536) : Calls Tryz.prog 160 #[.int .u64 v] w fun e w' => (∃ L : Int, e = .returned (.int .i64 L) ∧ 0 ≤ L ∧ L ≤ 64 ∧ (L + 7) / 8 = szB v.toNat) ∧ w' = w := by
  have H1 : Hid (szB v.toNat = 2) := szB_2 v.toNat (by omega) (by omega)
  obtain ⟨t, e1, e2, t0, t8, tz⟩ := len_fin 8 (v / 256) (by omega) (by omega) (by omega) (by omega) (by rw [lenT_size]; omega)
  have HE1 : Hid (wrap64 (8 + wrap64 (lenT[(v / 256).toNat]'(by rw [lenT_size]; omega)).toNat) = 8 + t) := e1
  have HE2 : Hid (wrap64 (wrap64 (lenT[(v / 256).toNat]'(by rw [lenT_size]; omega)).toNat) = t) := e2
  have HT : Hid (0 ≤ t ∧ t ≤ 8 ∧ (t = 0 ↔ v / 256 = 0)) := ⟨t0, t8, tz⟩
  clear e1 e2 t0 t8 tz
  go_enter Tryz.func160, Tryz.ntmps160
  go_wp2
  go_ret
  obtain ⟨t0, t8, tz⟩ := HT.out
  refine ⟨⟨8 + t, ret_t _ HE1.out, by omega, by omega, ?_⟩, rfl⟩
  rw [H1.out]; omega
set_option maxRecDepth 100000 in
set_option maxHeartbeats 1600000 in
theorem len_2 (v : Int) (w : World) (h0 : 65536 ≤ v) (r0 : v < 16777216) : Calls Tryz.prog 160 #[.int .u64 v] w fun e w' => (∃ L : Int, e = .returned (.int .i64 L) ∧ 0 ≤ L ∧ L ≤ 64 ∧ (L + 7) / 8 = szB v.toNat) ∧ w' = w := by
  have H1 : Hid (szB v.toNat = 3) := szB_3 v.toNat (by omega) (by omega)
  obtain ⟨t, e1, e2, t0, t8, tz⟩ := len_fin 16 (v / 65536) (by omega) (by omega) (by omega) (by omega) (by rw [lenT_size]; omega)
  have HE1 : Hid (wrap64 (16 + wrap64 (lenT[(v / 65536).toNat]'(by rw [lenT_size]; omega)).toNat) = 16 + t) := e1
  have HE2 : Hid (wrap64 (wrap64 (lenT[(v / 65536).toNat]'(by rw [lenT_size]; omega)).toNat) = t) := e2
  have HT : Hid (0 ≤ t ∧ t ≤ 8 ∧ (t = 0 ↔ v / 65536 = 0)) := ⟨t0, t8, tz⟩
  clear e1 e2 t0 t8 tz
  go_enter Tryz.func160, Tryz.ntmps160
  go_wp2
  go_ret
  obtain ⟨t0, t8, tz⟩ := HT.out
  refine ⟨⟨16 + t, ret_t _ HE1.out, by omega, by omega, ?_⟩, rfl⟩
  rw [H1.out]; omega
set_option maxRecDepth 100000 in
set_option maxHeartbeats 1600000 in
theorem len_3 (v : Int) (w : World) (h0 : 16777216 ≤ v) (r0 : v < 4294967296) : Calls Tryz.prog 160 #[.int .u64 v] w fun e w' => (∃ L : Int, e = .returned (.int .i64 L) ∧ 0 ≤ L ∧ L ≤ 64 ∧ (L + 7) / 8 = szB v.toNat) ∧ w' = w := by
  have H1 : Hid (szB v.toNat = 4) := szB_4 v.toNat (by omega) (by omega)
  obtain ⟨t, e1, e2, t0, t8, tz⟩ := len_fin 24 (v / 65536 / 256) (by omega) (by omega) (by omega) (by omega) (by rw [lenT_size]; omega)
  have HE1 : Hid (wrap64 (24 + wrap64 (lenT[(v / 65536 / 256).toNat]'(by rw [lenT_size]; omega)).toNat) = 24 + t) := e1
  have HE2 : Hid (wrap64 (wrap64 (lenT[(v / 65536 / 256).toNat]'(by rw [lenT_size]; omega)).toNat) = t) := e2
  have HT : Hid (0 ≤ t ∧ t ≤ 8 ∧ (t = 0 ↔ v / 65536 / 256 = 0)) := ⟨t0, t8, tz⟩
  clear e1 e2 t0 t8 tz
  go_enter Tryz.func160, Tryz.ntmps160
  go_wp2
  go_ret
  obtain ⟨t0, t8, tz⟩ := HT.out
  refine ⟨⟨24 + t, ret_t _ HE1.out, by omega, by omega, ?_⟩, rfl⟩
  rw [H1.out]; omega
set_option maxRecDepth 100000 in
set_option maxHeartbeats 1600000 in
theorem len_4 (v : Int) (w : World) (h0 : 4294967296 ≤ v) (r0 : v < 1099511627776) : Calls Tryz.prog 160 #[.int .u64 v] w fun e w' => (∃ L : Int, e = .returned (.int .i64 L) ∧ 0 ≤ L ∧ L ≤ 64 ∧ (L + 7) / 8 = szB v.toNat) ∧ w' = w := by
  have H1 : Hid (szB v.toNat = 5) := szB_5 v.toNat (by omega) (by omega)
  obtain ⟨t, e1, e2, t0, t8, tz⟩ := len_fin 32 (v / 4294967296) (by omega) (by omega) (by omega) (by omega) (by rw [lenT_size]; omega)
  have HE1 : Hid (wrap64 (32 + wrap64 (lenT[(v / 4294967296).toNat]'(by rw [lenT_size]; omega)).toNat) = 32 + t) := e1
  have HE2 : Hid (wrap64 (wrap64 (lenT[(v / 4294967296).toNat]'(by rw [lenT_size]; omega)).toNat) = t) := e2
  have HT : Hid (0 ≤ t ∧ t ≤ 8 ∧ (t = 0 ↔ v / 4294967296 = 0)) := ⟨t0, t8, tz⟩
  clear e1 e2 t0 t8 tz
  go_enter Tryz.func160, Tryz.ntmps160
  go_wp2
  go_ret
  obtain ⟨t0, t8, tz⟩ := HT.out
  refine ⟨⟨32 + t, ret_t _ HE1.out, by omega, by omega, ?_⟩, rfl⟩
  rw [H1.out]; omega
set_option maxRecDepth 100000 in
set_option maxHeartbeats 1600000 in
theorem len_5 (v : Int) (w : World) (h0 : 1099511627776 ≤ v) (r0 : v < 281474976710656) : Calls Tryz.prog 160 #[.int .u64 v] w fun e w' => (∃ L : Int, e = .returned (.int .i64 L) ∧ 0 ≤ L ∧ L ≤ 64 ∧ (L + 7) / 8 = szB v.toNat) ∧ w' = w := by
  have H1 : Hid (szB v.toNat = 6) := szB_6 v.toNat (by omega) (by omega)
  obtain ⟨t, e1, e2, t0, t8, tz⟩ := len_fin 40 (v / 4294967296 / 256) (by omega) (by omega) (by omega) (by omega) (by rw [lenT_size]; omega)
  have HE1 : Hid (wrap64 (40 + wrap64 (lenT[(v / 4294967296 / 256).toNat]'(by rw [lenT_size]; omega)).toNat) = 40 + t) := e1
  have HE2 : Hid (wrap64 (wrap64 (lenT[(v / 4294967296 / 256).toNat]'(by rw [lenT_size]; omega)).toNat) = t) := e2
  have HT : Hid (0 ≤ t ∧ t ≤ 8 ∧ (t = 0 ↔ v / 4294967296 / 256 = 0)) := ⟨t0, t8, tz⟩
  clear e1 e2 t0 t8 tz
  go_enter Tryz.func160, Tryz.ntmps160
  go_wp2
  go_ret
  obtain ⟨t0, t8, tz⟩ := HT.out
  refine ⟨⟨40 + t, ret_t _ HE1.out, by omega, by omega, ?_⟩, rfl⟩
  rw [H1.out]; omega
set_option maxRecDepth 100000 in
set_option maxHeartbeats 1600000 in
theorem len_6 (v : Int) (w : World) (h0 : 281474976710656 ≤ v) (r0 : v < 72057594037927936) : Calls Tryz.prog 160 #[.int .u64 v] w fun e w' => (∃ L : Int, e = .returned (.int .i64 L) ∧ 0 ≤ L ∧ L ≤ 64 ∧ (L + 7) / 8 = szB v.toNat) ∧ w' = w := by
  have H1 : Hid (szB v.toNat = 7) := szB_7 v.toNat (by omega) (by omega)
  obtain ⟨t, e1, e2, t0, t8, tz⟩ := len_fin 48 (v / 4294967296 / 65536) (by omega) (by omega) (by omega) (by omega) (by rw [lenT_size]; omega)
  have HE1 : Hid (wrap64 (48 + wrap64 (lenT[(v / 4294967296 / 65536).toNat]'(by rw [lenT_size]; omega)).toNat) = 48 + t) := e1
  have HE2 : Hid (wrap64 (wrap64 (lenT[(v / 4294967296 / 65536).toNat]'(by rw [lenT_size]; omega)).toNat) = t) := e2
  have HT : Hid (0 ≤ t ∧ t ≤ 8 ∧ (t = 0 ↔ v / 4294967296 / 65536 = 0)) := ⟨t0, t8, tz⟩
  clear e1 e2 t0 t8 tz
  go_enter Tryz.func160, Tryz.ntmps160
  go_wp2
  go_ret
  obtain ⟨t0, t8, tz⟩ := HT.out
  refine ⟨⟨48 + t, ret_t _ HE1.out, by omega, by omega, ?_⟩, rfl⟩
  rw [H1.out]; omega
set_option maxRecDepth 100000 in
set_option maxHeartbeats 1600000 in
theorem len_7 (v : Int) (w : World) (h0 : 72057594037927936 ≤ v) (r0 : v < 18446744073709551616) : Calls Tryz.prog 160 #[.int .u64 v] w fun e w' => (∃ L : Int, e = .returned (.int .i64 L) ∧ 0 ≤ L ∧ L ≤ 64 ∧ (L + 7) / 8 = szB v.toNat) ∧ w' = w := by
  have H1 : Hid (szB v.toNat = 8) := szB_8 v.toNat (by omega) (by omega)
  obtain ⟨t, e1, e2, t0, t8, tz⟩ := len_fin 56 (v / 4294967296 / 65536 / 256) (by omega) (by omega) (by omega) (by omega) (by rw [lenT_size]; omega)
  have HE1 : Hid (wrap64 (56 + wrap64 (lenT[(v / 4294967296 / 65536 / 256).toNat]'(by rw [lenT_size]; omega)).toNat) = 56 + t) := e1
  have HE2 : Hid (wrap64 (wrap64 (lenT[(v / 4294967296 / 65536 / 256).toNat]'(by rw [lenT_size]; omega)).toNat) = t) := e2
  have HT : Hid (0 ≤ t ∧ t ≤ 8 ∧ (t = 0 ↔ v / 4294967296 / 65536 / 256 = 0)) := ⟨t0, t8, tz⟩
  clear e1 e2 t0 t8 tz
  go_enter Tryz.func160, Tryz.ntmps160
  go_wp2
  go_ret
  obtain ⟨t0, t8, tz⟩ := HT.out
  refine ⟨⟨56 + t, ret_t _ HE1.out, by omega, by omega, ?_⟩, rfl⟩
  rw [H1.out]; omega
theorem len_any (u : Nat) (w : World) (hu : u < 18446744073709551616) : Calls Tryz.prog 160 #[.int .u64 u] w fun e w' => (∃ L : Int, e = .returned (.int .i64 L) ∧ 0 ≤ L ∧ L ≤ 64 ∧ (L + 7) / 8 = szB u) ∧ w' = w := by
  by_cases r0 : u < 256
  · exact len_0 (u : Int) w (by omega) (by omega)
  by_cases r1 : u < 65536
  · exact len_1 (u : Int) w (by omega) (by omega)
  by_cases r2 : u < 16777216
  · exact len_2 (u : Int) w (by omega) (by omega)
  by_cases r3 : u < 4294967296
  · exact len_3 (u : Int) w (by omega) (by omega)
  by_cases r4 : u < 1099511627776
  · exact len_4 (u : Int) w (by omega) (by omega)
  by_cases r5 : u < 281474976710656
  · exact len_5 (u : Int) w (by omega) (by omega)
  by_cases r6 : u < 72057594037927936
  · exact len_6 (u : Int) w (by omega) (by omega)
  exact len_7 (u : Int) w (by omega) (by omega)
end Go.Proofs.YtjcffcpmegpjeaaGreatDoor
