import Derived.Test.YtjkipbjphdfemaaDoorCrc9
import Derived.Test.YtjkipbjphdfemaaDoorCrc6
namespace Go.Proofs.YtjkipbjphdfemaaDoor
open Go.ChangeShapes Go.WideShapes Go.ChangeAt Go.RowKit Go.MuLone
set_option linter.unusedVariables false

theorem num_any (e : Int) (w : World) : Calls Tryd.prog 9 #[.int .i64 e] w fun r w' => r = .returned (.int .i64 e) ∧ w' = w := by
  go_enter Tryd.func9, Tryd.ntmps9
  go_wp2
  go_ret
  exact ⟨rfl, rfl⟩
theorem join_list (x y z : ByteArray) : (x ++ y ++ z).data.toList = x.data.toList ++ y.data.toList ++ z.data.toList := by
  rw [ByteArray.data_append, Array.toList_append, ByteArray.data_append, Array.toList_append]
theorem join_comb (x y z : List UInt8) : itN (8 * (y.length + z.length)) (crN x) ^^^ (itN (8 * z.length) (crN y) ^^^ crN z) = crN (x ++ y ++ z) := by
  rw [← crN_join y z, List.append_assoc, crN_join x (y ++ z), List.length_append]
theorem blen (x : ByteArray) : x.data.toList.length = x.size := by rw [Array.length_toList]; rfl
set_option maxRecDepth 100000 in
set_option maxHeartbeats 3200000 in
theorem joined_walk (x y z : ByteArray) (w : World) (hx : x.size ≤ 140737488351232) (hy : y.size ≤ 140737488351232) (hz : z.size ≤ 140737488351232) (hT : HalfAt w) :
    Calls Tryd.prog 4 #[.string x, .string y, .string z] w fun e w' => e = .returned (.bool true) ∧ Below w.heap.size w w' := by
  have HT : Hid (HalfAt w) := hT
  clear hT
  have hadd : ∀ (w : World), (Op.stringOp .add x y).run Tryd.prog w = .ok (.string (x ++ y)) w := fun w => run_string_add_sum w _ _ (by omega)
  have hadd2 : ∀ (w : World), (Op.stringOp .add (x ++ y) z).run Tryd.prog w = .ok (.string (x ++ y ++ z)) w := fun w => run_string_add_sum w _ _ (by rw [ByteArray.size_append]; omega)
  go_enter Tryd.func4, Tryd.ntmps4
  go_wp2_with fail
  refine (checksum_new _ w (by decide) HT.out).mono ?_
  rw [show crN (ByteArray.mk #[49, 50, 51, 52, 53, 54, 55, 56, 57]).data.toList = 3808858755 from crN_nine]
  rintro e v1 ⟨rfl, hv1⟩
  have B1 : Hid (Below w.heap.size w v1) := hv1
  have HT1 : Hid (HalfAt v1) := HT.out.later hv1
  clear hv1
  go_wp2_with fail
  refine (checksum_none v1 HT1.out).mono ?_
  rintro e v2 ⟨rfl, hv2⟩
  have B2 : Hid (Below w.heap.size w v2) := B1.out.trans (hv2.mono B1.out.size)
  have HT2 : Hid (HalfAt v2) := HT1.out.later hv2
  clear hv2 B1 HT1
  go_wp2_with fail
  refine (checksum_new (x ++ y ++ z) v2 (by rw [ByteArray.size_append, ByteArray.size_append]; omega) HT2.out).mono ?_
  rw [join_list]
  rintro e v3 ⟨rfl, hv⟩
  have B3 : Hid (Below w.heap.size w v3) := B2.out.trans (hv.mono B2.out.size)
  have HT3 : Hid (HalfAt v3) := HT2.out.later hv
  clear hv B2 HT2
  go_wp2_with fail
  refine (checksum_three x y z v3 (by omega) (by omega) (by omega) HT3.out).mono ?_
  rintro e v4 ⟨rfl, hv⟩
  have B4 : Hid (Below w.heap.size w v4) := B3.out.trans (hv.mono B3.out.size)
  have HT4 : Hid (HalfAt v4) := HT3.out.later hv
  clear hv B3 HT3
  go_wp2_with fail
  refine (checksum_new x v4 (by omega) HT4.out).mono ?_
  rintro e v5 ⟨rfl, hv⟩
  have B5 : Hid (Below w.heap.size w v5) := B4.out.trans (hv.mono B4.out.size)
  have HT5 : Hid (HalfAt v5) := HT4.out.later hv
  clear hv B4 HT4
  go_wp2_with fail
  refine (extend_crN x.data.toList y v5 (by omega) HT5.out).mono ?_
  rintro e v6 ⟨rfl, hv⟩
  have B6 : Hid (Below w.heap.size w v6) := B5.out.trans (hv.mono B5.out.size)
  have HT6 : Hid (HalfAt v6) := HT5.out.later hv
  clear hv B5 HT5
  go_wp2_with fail
  refine (extend_crN (x.data.toList ++ y.data.toList) z v6 (by omega) HT6.out).mono ?_
  rintro e v7 ⟨rfl, hv⟩
  have B7 : Hid (Below w.heap.size w v7) := B6.out.trans (hv.mono B6.out.size)
  have HT7 : Hid (HalfAt v7) := HT6.out.later hv
  clear hv B6 HT6
  have hw1 : wrap64 ((y.size : Int) + (z.size : Int)) = (y.size : Int) + (z.size : Int) := by unfold wrap64; omega
  by_cases hlen : 1048576 < y.size + z.size
  · have h1 : (1048576 : Int) < (y.size : Int) + (z.size : Int) := by omega
    go_wp2
    go_ret
    exact ⟨rfl, B7.out⟩
  have h1 : (y.size : Int) + (z.size : Int) ≤ 1048576 := by omega
  have HJ : Hid (itN (8 * (y.size + z.size)) (crN x.data.toList) ^^^ (itN (8 * z.size) (crN y.data.toList) ^^^ crN z.data.toList) = crN (x.data.toList ++ y.data.toList ++ z.data.toList)) := by
    have := join_comb x.data.toList y.data.toList z.data.toList
    rw [blen, blen] at this
    exact this
  have lx := crN_lt x.data.toList
  have ly := crN_lt y.data.toList
  have lz := crN_lt z.data.toList
  have li := itN_lt (8 * z.size) _ ly
  have lc : itN (8 * z.size) (crN y.data.toList) ^^^ crN z.data.toList < 4294967296 := Nat.xor_lt_two_pow (n := 32) li lz
  go_wp2_with fail
  refine (checksum_new y v7 (by omega) HT7.out).mono ?_
  rintro e v8 ⟨rfl, hv⟩
  have B8 : Hid (Below w.heap.size w v8) := B7.out.trans (hv.mono B7.out.size)
  have HT8 : Hid (HalfAt v8) := HT7.out.later hv
  clear hv B7 HT7
  go_wp2_with fail
  refine (checksum_new z v8 (by omega) HT8.out).mono ?_
  rintro e v9 ⟨rfl, hv⟩
  have B9 : Hid (Below w.heap.size w v9) := B8.out.trans (hv.mono B8.out.size)
  have HT9 : Hid (HalfAt v9) := HT8.out.later hv
  clear hv B8 HT8
  go_wp2_with fail
  refine (combine_any _ _ (z.size : Int) v9 ly lz (by omega) (by omega)).mono ?_
  rintro e v10 ⟨rfl, rfl⟩
  rw [Int.toNat_natCast]
  go_wp2_with fail
  refine (checksum_new x v10 (by omega) HT9.out).mono ?_
  rintro e v11 ⟨rfl, hv⟩
  have B11 : Hid (Below w.heap.size w v11) := B9.out.trans (hv.mono B9.out.size)
  have HT11 : Hid (HalfAt v11) := HT9.out.later hv
  clear hv B9 HT9
  go_wp2_with fail
  refine (combine_any _ _ ((y.size : Int) + (z.size : Int)) v11 lx lc (by omega) (by omega)).mono ?_
  rintro e v12 ⟨rfl, rfl⟩
  rw [show ((y.size : Int) + (z.size : Int)).toNat = y.size + z.size by omega, HJ.out]
  go_wp2_with (go_at_call 9; refine (num_any _ _).mono ?_; rintro e w' ⟨rfl, rfl⟩)
  go_ret
  exact ⟨rfl, B11.out⟩
end Go.Proofs.YtjkipbjphdfemaaDoor
