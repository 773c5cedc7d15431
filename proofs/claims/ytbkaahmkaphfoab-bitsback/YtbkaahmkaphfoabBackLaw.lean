import Derived.Test.YtbkaahmkaphfoabBack1
namespace Go.Proofs.Ytbkaahmkaphfoab
open Go.ChangeShapes Go.WideShapes Go.ChangeAt Go.RowKit
set_option linter.unusedVariables false
theorem num_any (x : Int) (w : World) (_h0 : -9223372036854775808 ≤ x) (_h1 : x ≤ 9223372036854775807) :
    Calls Try.prog 10 #[.int .i64 x] w fun e w' => e = .returned (.int .i64 x) ∧ w' = w := by
  go_enter Try.func10, Try.ntmps10
  go_wp2
  go_ret
  exact ⟨rfl, rfl⟩
theorem below_next {B : Nat} {a w w' : World} (h : Below B a w) (hB : B ≤ a.heap.size) (k : Below w.heap.size w w') : Below B a w' :=
  h.trans (k.mono (Nat.le_trans hB h.size))
theorem nonempty_nums (xs : List Int) (h : 1 ≤ xs.length) : (strOfNums xs).toList.isEmpty = false := by
  rw [Lib.toList_data, strOfNums_data]
  cases xs with
  | nil => simp at h
  | cons x xs => rfl
theorem sizes3 (a b c : ByteArray) : (a ++ b ++ c).size = a.size + b.size + c.size := by simp
theorem back_u' (h t : ByteArray) (v : Int) (v0 : 0 ≤ v) (v1 : v ≤ 18446744073709551615) : rU (h ++ strOfNums (uvB v) ++ t) h.size = (v, (h.size : Int) + ((strOfNums (uvB v)).size : Nat), 0) := by
  obtain ⟨m, rfl⟩ := Int.eq_ofNat_of_zero_le v0
  rw [strOfNums_size]
  exact back_u h t m (by omega)
theorem back_s' (h t : ByteArray) (i : Int) (i0 : -9223372036854775808 ≤ i) (i1 : i ≤ 9223372036854775807) : rS (h ++ strOfNums (uvB (svV i)) ++ t) h.size = (i, (h.size : Int) + ((strOfNums (uvB (svV i))).size : Nat), 0) := by
  rw [strOfNums_size]
  exact back_s h t i i0 i1
theorem back_4' (h t : ByteArray) (n : Int) (n0 : 0 ≤ n) (n1 : n ≤ 4294967295) : rF (h ++ strOfNums (fxB 4 n) ++ t) h.size = (n, (h.size : Int) + 4, 0) := by
  obtain ⟨m, rfl⟩ := Int.eq_ofNat_of_zero_le n0
  exact back_n h t 4 m (by omega)
theorem back_8' (h t : ByteArray) (v : Int) (v0 : 0 ≤ v) (v1 : v ≤ 18446744073709551615) : rX (h ++ strOfNums (fxB 8 v) ++ t) h.size = (v, (h.size : Int) + 8, 0) := by
  obtain ⟨m, rfl⟩ := Int.eq_ofNat_of_zero_le v0
  exact back_n h t 8 m (by omega)
set_option maxRecDepth 100000 in
set_option maxHeartbeats 3200000 in
theorem back_walk (h t : ByteArray) (v i n : Int) (w : World) (zh : h.size ≤ 140737488351232) (zt : t.size ≤ 140737488351232) (v0 : 0 ≤ v) (v1 : v ≤ 18446744073709551615) (i0 : -9223372036854775808 ≤ i) (i1 : i ≤ 9223372036854775807) (n0 : 0 ≤ n) (n1 : n ≤ 4294967295) :
    Calls Try.prog 7 #[.string h, .string t, .int .u64 v, .int .i64 i, .int .u32 n] w fun e w' => e = .returned (.bool true) ∧ Below w.heap.size w w' := by
  have lu : (strOfNums (uvB v)).size ≤ 10 := by rw [strOfNums_size]; exact (uvB_len v).1
  have ls : (strOfNums (uvB (svV i))).size ≤ 10 := by rw [strOfNums_size]; exact (uvB_len _).1
  have l4 : (strOfNums (fxB 4 n)).size = 4 := by rw [strOfNums_size, fxB_len]
  have l8 : (strOfNums (fxB 8 v)).size = 8 := by rw [strOfNums_size, fxB_len]
  have HU : Hid _ := back_u' h t v v0 v1
  have HS : Hid _ := back_s' h t i i0 i1
  have H4 : Hid _ := back_4' h t n n0 n1
  have H8 : Hid _ := back_8' h t v v0 v1
  have nu := nonempty_nums (uvB v) (uvB_len v).2
  have ns := nonempty_nums (uvB (svV i)) (uvB_len _).2
  go_enter Try.func7, Try.ntmps7
  go_wp2_with fail
  refine (uvarint v w v0 v1).mono ?_
  rintro e w1 ⟨rfl, k1⟩
  have B1 : Hid (Below w.heap.size w w1) := k1
  clear k1
  generalize strOfNums (uvB v) = U at *
  go_wp2_with fail
  refine (ReadUvarint_any _ _ w1 (by omega) (by omega) (by rw [sizes3]; omega)).mono ?_
  rintro e w2 ⟨rfl, k2⟩
  have B2 : Hid (Below w.heap.size w w2) := below_next B1.out (Nat.le_refl _) k2
  rw [HU.out]
  clear k2 B1 HU
  go_wp2_with (go_at_call 10; refine (num_any _ _ (by omega) (by omega)).mono ?_; rintro e w' ⟨rfl, rfl⟩)
  refine (svarint i _ i0 i1).mono ?_
  rintro e w3 ⟨rfl, k3⟩
  have B3 : Hid (Below w.heap.size w w3) := below_next B2.out (Nat.le_refl _) k3
  clear k3 B2 nu
  generalize strOfNums (uvB (svV i)) = V at *
  go_wp2_with fail
  refine (ReadSvarint_any _ _ w3 (by omega) (by omega) (by rw [sizes3]; omega)).mono ?_
  rintro e w4 ⟨rfl, k4⟩
  have B4 : Hid (Below w.heap.size w w4) := below_next B3.out (Nat.le_refl _) k4
  rw [HS.out]
  clear k4 B3 HS
  go_wp2_with (go_at_call 10; refine (num_any _ _ (by omega) (by omega)).mono ?_; rintro e w' ⟨rfl, rfl⟩)
  refine (fixed32 n _ n0 n1).mono ?_
  rintro e w5 ⟨rfl, k5⟩
  have B5 : Hid (Below w.heap.size w w5) := below_next B4.out (Nat.le_refl _) k5
  clear k5 B4 ns
  generalize strOfNums (fxB 4 n) = F at *
  have lf : F.size ≤ 4 := by omega
  have L4 : Hid (F.size = 4) := l4
  clear l4
  go_wp2_with fail
  refine (ReadFixed32_any _ _ w5 (by omega) (by omega) (by rw [sizes3]; omega)).mono ?_
  rintro e w6 ⟨rfl, k6⟩
  have B6 : Hid (Below w.heap.size w w6) := below_next B5.out (Nat.le_refl _) k6
  rw [H4.out]
  clear k6 B5 H4
  have t4 : ((F.size : Int) != 4) = false := by have := L4.out; simp; omega
  go_wp2_with (go_at_call 10; refine (num_any _ _ (by omega) (by omega)).mono ?_; rintro e w' ⟨rfl, rfl⟩)
  refine (fixed64 v _ v0 v1).mono ?_
  rintro e w7 ⟨rfl, k7⟩
  have B7 : Hid (Below w.heap.size w w7) := below_next B6.out (Nat.le_refl _) k7
  clear k7 B6
  generalize strOfNums (fxB 8 v) = X at *
  have lx : X.size ≤ 8 := by omega
  have L8 : Hid (X.size = 8) := l8
  clear l8
  go_wp2_with fail
  refine (ReadFixed64_any _ _ w7 (by omega) (by omega) (by rw [sizes3]; omega)).mono ?_
  rintro e w8 ⟨rfl, k8⟩
  have B8 : Hid (Below w.heap.size w w8) := below_next B7.out (Nat.le_refl _) k8
  rw [H8.out]
  clear k8 B7 H8
  have t8 : ((X.size : Int) == 8) = true := by have := L8.out; simp; omega
  go_wp2_with (go_at_call 10; refine (num_any _ _ (by omega) (by omega)).mono ?_; rintro e w' ⟨rfl, rfl⟩)
  go_ret
  exact ⟨rfl, B8.out⟩
theorem blobV_ok (t : ByteArray) (h : t.size ≤ 1048576) : blobV t = (strOfNums (uvB t.size) ++ t, 0) := by unfold blobV; rw [if_pos h]
theorem size_le1 (a : ByteArray) (b : ByteArray) : (a ++ b).size = a.size + b.size := by simp
set_option maxRecDepth 100000 in
set_option maxHeartbeats 3200000 in
theorem bitsBack_walk (a0 a1 : ByteArray) (a2 a3 a4 : Int) (w2 : (Lit.int .u64 a2).wf = true) (w3 : (Lit.int .i64 a3).wf = true) (w4 : (Lit.int .u32 a4).wf = true) (w : World) (z0 : a0.size ≤ 140737488351232) (z1 : a1.size ≤ 140737488351232) :
    Calls Try.prog 3 #[.string a0, .string a1, .int .u64 a2, .int .i64 a3, .int .u32 a4] w fun e w' => e = .returned (.bool true) ∧ Below w.heap.size w w' := by
  have b2 := bounds_u64 w2
  have b3 := bounds_i64 w3
  have b4 := bounds_u32 w4
  clear w2 w3 w4
  have lu : (strOfNums (uvB a2)).size ≤ 10 := by rw [strOfNums_size]; exact (uvB_len a2).1
  have l1 : 1 ≤ (strOfNums (uvB a2)).size := by rw [strOfNums_size]; exact (uvB_len a2).2
  have HS : Hid _ := back_short a0 a2 b2.1 b2.2
  go_enter Try.func3, Try.ntmps3
  go_wp2_with fail
  refine (back_walk a0 a1 a2 a3 a4 w z0 z1 b2.1 b2.2 b3.1 b3.2 b4.1 b4.2).mono ?_
  rintro e w1 ⟨rfl, k1⟩
  have B1 : Hid (Below w.heap.size w w1) := k1
  clear k1
  go_wp2_with fail
  refine (uvarint a2 w1 b2.1 b2.2).mono ?_
  rintro e w2 ⟨rfl, k2⟩
  have B2 : Hid (Below w.heap.size w w2) := below_next B1.out (Nat.le_refl _) k2
  clear k2 B1
  generalize strOfNums (uvB a2) = U at *
  have ex : (U.extract 0 (U.size - 1)).size ≤ 10 := by rw [ByteArray.size_extract]; omega
  have hsl : ((U.size : Int) - 1) = ((U.size - 1 : Nat) : Int) := by omega
  have HX : Hid _ := hsl
  clear hsl
  go_wp2_with fail
  refine (ReadUvarint_any _ _ w2 (by omega) (by omega) (by rw [size_le1]; omega)).mono ?_
  rintro e w3 ⟨rfl, k3⟩
  have B3 : Hid (Below w.heap.size w w3) := below_next B2.out (Nat.le_refl _) k3
  rw [HS.out]
  clear k3 B2 HS
  by_cases hz : a1.size ≤ 1048576
  · go_wp2_with (go_at_call 10; refine (num_any _ _ (by omega) (by omega)).mono ?_; rintro e w' ⟨rfl, rfl⟩)
    refine (blob a1 _ z1).mono ?_
    rintro e w4 ⟨rfl, k4⟩
    have B4 : Hid (Below w.heap.size w w4) := below_next B3.out (Nat.le_refl _) k4
    rw [blobV_ok a1 hz]
    have HBk : Hid _ := back_b a0 a1 hz
    have lb : (strOfNums (uvB a1.size) ++ a1).size ≤ 1048600 := by rw [size_le1, strOfNums_size]; have := (uvB_len (a1.size : Int)).1; omega
    clear k4 B3
    generalize strOfNums (uvB a1.size) ++ a1 = T at *
    go_wp2_with fail
    refine (ReadBlob_any _ _ w4 (by omega) (by omega) (by rw [sizes3]; omega)).mono ?_
    rintro e w5 ⟨rfl, k5⟩
    have B5 : Hid (Below w.heap.size w w5) := below_next B4.out (Nat.le_refl _) k5
    rw [HBk.out]
    clear k5 B4 HBk
    go_wp2_with (go_at_call 10; refine (num_any _ _ (by omega) (by omega)).mono ?_; rintro e w' ⟨rfl, rfl⟩)
    go_ret
    exact ⟨rfl, B5.out⟩
  · go_wp2_with (go_at_call 10; refine (num_any _ _ (by omega) (by omega)).mono ?_; rintro e w' ⟨rfl, rfl⟩)
    go_ret
    exact ⟨rfl, B3.out⟩
end Go.Proofs.Ytbkaahmkaphfoab
