import Derived.Test.YtbkaahmkaphfoaaNumbers2
namespace Go.Proofs.Ytbkaahmkaphfoaa
open Go.ChangeShapes Go.WideShapes Go.ChangeAt Go.RowKit
theorem num_any (x : Int) (w : World) (_h0 : -9223372036854775808 ≤ x) (_h1 : x ≤ 9223372036854775807) :
    Calls Try.prog 10 #[.int .i64 x] w fun e w' => e = .returned (.int .i64 x) ∧ w' = w := by
  go_enter Try.func10, Try.ntmps10
  go_wp2
  go_ret
  exact ⟨rfl, rfl⟩
theorem below_next {B : Nat} {a w w' : World} (h : Below B a w) (hB : B ≤ a.heap.size) (k : Below w.heap.size w w') : Below B a w' :=
  h.trans (k.mono (Nat.le_trans hB h.size))
set_option maxRecDepth 100000 in
set_option maxHeartbeats 1600000 in
theorem numbers_walk (a0 : Int) (a1 : Int) (a2 : Int) (a3 : ByteArray) (w0 : (Lit.int .u64 a0).wf = true) (w1 : (Lit.int .i64 a1).wf = true) (w2 : (Lit.int .u32 a2).wf = true) (w : World) (z3 : a3.size ≤ 140737488351232) :
    Calls Try.prog 6 #[.int .u64 a0, .int .i64 a1, .int .u32 a2, .string a3] w fun e w' => e = .returned (.bool true) ∧ Below w.heap.size w w' := by
  have b0 := bounds_u64 w0
  have b1 := bounds_i64 w1
  have b2 := bounds_u32 w2
  have b3 : 0 ≤ (blobV a3).2 ∧ (blobV a3).2 ≤ 19 := by unfold blobV; split <;> simp
  clear w0 w1 w2
  go_enter Try.func6, Try.ntmps6
  go_wp2_with fail
  refine (uvarint _ _ b0.1 b0.2).mono ?_
  rintro e w1 ⟨rfl, k1⟩
  have H1 : Hid (Below w.heap.size w w1) := k1
  clear k1
  go_wp2_with fail
  refine (ref_uvarint _ _ b0.1 b0.2).mono ?_
  rintro e w2 ⟨rfl, k2⟩
  have H2 : Hid (Below w.heap.size w w2) := below_next H1.out (Nat.le_refl _) k2
  clear k2 H1
  go_wp2_with fail
  refine (svarint _ _ b1.1 b1.2).mono ?_
  rintro e w3 ⟨rfl, k3⟩
  have H3 : Hid (Below w.heap.size w w3) := below_next H2.out (Nat.le_refl _) k3
  clear k3 H2
  go_wp2_with fail
  refine (ref_svarint _ _ b1.1 b1.2).mono ?_
  rintro e w4 ⟨rfl, k4⟩
  have H4 : Hid (Below w.heap.size w w4) := below_next H3.out (Nat.le_refl _) k4
  clear k4 H3
  go_wp2_with fail
  refine (fixed32 _ _ b2.1 b2.2).mono ?_
  rintro e w5 ⟨rfl, k5⟩
  have H5 : Hid (Below w.heap.size w w5) := below_next H4.out (Nat.le_refl _) k5
  clear k5 H4
  go_wp2_with fail
  refine (ref_fixed32 _ _ b2.1 b2.2).mono ?_
  rintro e w6 ⟨rfl, k6⟩
  have H6 : Hid (Below w.heap.size w w6) := below_next H5.out (Nat.le_refl _) k6
  clear k6 H5
  go_wp2_with fail
  refine (fixed64 _ _ b0.1 b0.2).mono ?_
  rintro e w7 ⟨rfl, k7⟩
  have H7 : Hid (Below w.heap.size w w7) := below_next H6.out (Nat.le_refl _) k7
  clear k7 H6
  go_wp2_with fail
  refine (ref_fixed64 _ _ b0.1 b0.2).mono ?_
  rintro e w8 ⟨rfl, k8⟩
  have H8 : Hid (Below w.heap.size w w8) := below_next H7.out (Nat.le_refl _) k8
  clear k8 H7
  go_wp2_with fail
  refine (blob _ _ z3).mono ?_
  rintro e w9 ⟨rfl, k9⟩
  have H9 : Hid (Below w.heap.size w w9) := below_next H8.out (Nat.le_refl _) k9
  clear k9 H8
  go_wp2_with fail
  refine (ref_blob _ _ z3).mono ?_
  rintro e w10 ⟨rfl, k10⟩
  have H10 : Hid (Below w.heap.size w w10) := below_next H9.out (Nat.le_refl _) k10
  clear k10 H9
  go_wp2_with (go_at_call 10; refine (num_any _ _ (by omega) (by omega)).mono ?_; rintro e w' ⟨rfl, rfl⟩)
  go_ret
  exact ⟨rfl, H10.out⟩
end Go.Proofs.Ytbkaahmkaphfoaa
