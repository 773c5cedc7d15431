import Derived.Test.YtbkaahmkaphfoabReads7
namespace Go.Proofs.Ytbkaahmkaphfoab
open Go.ChangeShapes Go.WideShapes Go.ChangeAt Go.RowKit
set_option linter.unusedVariables false
theorem num_any (x : Int) (w : World) (_h0 : -9223372036854775808 ≤ x) (_h1 : x ≤ 9223372036854775807) :
    Calls Try.prog 10 #[.int .i64 x] w fun e w' => e = .returned (.int .i64 x) ∧ w' = w := by
  go_enter Try.func10, Try.ntmps10
  go_wp2
  go_ret
  exact ⟨rfl, rfl⟩
theorem below_next {B : Nat} {a w w' : World} (h : Below B a w) (hB : B ≤ a.heap.size) (k : Below w.heap.size w w') : Below B a w' :=
  h.trans (k.mono (Nat.le_trans hB h.size))
theorem rbV_bound (s : ByteArray) (p m : Nat) : 0 ≤ (rbV s p m).2.2 ∧ (rbV s p m).2.2 ≤ 19 := by
  unfold rbV
  have := ruV_bound s p
  repeat' split
  all_goals simp only []; omega
theorem rd3_bound {A : Type} (s : ByteArray) (at_ : Int) (z : A) (t : Nat → A × Nat × Int) (h : ∀ p, 0 ≤ (t p).2.2 ∧ (t p).2.2 ≤ 19) : 0 ≤ (rd3 s at_ z t).2.2 ∧ (rd3 s at_ z t).2.2 ≤ 19 := by
  unfold rd3
  have := h at_.toNat
  repeat' split
  all_goals simp only []; omega
theorem fxE_bound (s : ByteArray) (p n : Nat) : 0 ≤ fxE s p n ∧ fxE s p n ≤ 19 := by unfold fxE; split <;> simp
set_option maxRecDepth 100000 in
set_option maxHeartbeats 1600000 in
theorem reads_walk (a0 : ByteArray) (a1 : Int) (w1 : (Lit.int .i64 a1).wf = true) (w : World) (z0 : a0.size ≤ 140737488351232) :
    Calls Try.prog 4 #[.string a0, .int .i64 a1] w fun e w' => e = .returned (.bool true) ∧ Below w.heap.size w w' := by
  have b1 := bounds_i64 w1
  have e1 : 0 ≤ (rU a0 a1).2.2 ∧ (rU a0 a1).2.2 ≤ 19 := rd3_bound a0 a1 0 (tU a0) (fun p => by have := ruV_bound a0 p; unfold tU; simp only []; omega)
  have e2 : 0 ≤ (rS a0 a1).2.2 ∧ (rS a0 a1).2.2 ≤ 19 := rd3_bound a0 a1 0 (tS a0) (fun p => by have := ruV_bound a0 p; unfold tS; simp only []; omega)
  have e3 : 0 ≤ (rF a0 a1).2.2 ∧ (rF a0 a1).2.2 ≤ 19 := rd3_bound a0 a1 0 (tF a0) (fun p => fxE_bound a0 p 4)
  have e4 : 0 ≤ (rX a0 a1).2.2 ∧ (rX a0 a1).2.2 ≤ 19 := rd3_bound a0 a1 0 (tX a0) (fun p => fxE_bound a0 p 8)
  have e5 : 0 ≤ (rB a0 a1).2.2 ∧ (rB a0 a1).2.2 ≤ 19 := rd3_bound a0 a1 ByteArray.empty (tB a0) (fun p => rbV_bound a0 p 1048576)
  clear w1
  go_enter Try.func4, Try.ntmps4
  go_wp2_with fail
  refine (ReadUvarint_any a0 a1 w b1.1 b1.2 z0).mono ?_
  rintro e w1 ⟨rfl, k1⟩
  have H1 : Hid (Below w.heap.size w w1) := k1
  clear k1
  go_wp2_with (first | (go_at_call 13; refine (ref_uv a0 a1 _ z0).mono ?_; rintro e w' ⟨rfl, rfl⟩) | (go_at_call 10; refine (num_any _ _ (by omega) (by omega)).mono ?_; rintro e w' ⟨rfl, rfl⟩))
  refine (ReadSvarint_any a0 a1 _ b1.1 b1.2 z0).mono ?_
  rintro e w2 ⟨rfl, k2⟩
  have H2 : Hid (Below w.heap.size w w2) := below_next H1.out (Nat.le_refl _) k2
  clear k2 H1
  go_wp2_with (first | (go_at_call 15; refine (ref_sv a0 a1 _ z0).mono ?_; rintro e w' ⟨rfl, rfl⟩) | (go_at_call 10; refine (num_any _ _ (by omega) (by omega)).mono ?_; rintro e w' ⟨rfl, rfl⟩))
  refine (ReadFixed32_any a0 a1 _ b1.1 b1.2 z0).mono ?_
  rintro e w3 ⟨rfl, k3⟩
  have H3 : Hid (Below w.heap.size w w3) := below_next H2.out (Nat.le_refl _) k3
  clear k3 H2
  go_wp2_with (first | (go_at_call 17; refine (ref_f32 a0 a1 _ z0).mono ?_; rintro e w' ⟨rfl, rfl⟩) | (go_at_call 10; refine (num_any _ _ (by omega) (by omega)).mono ?_; rintro e w' ⟨rfl, rfl⟩))
  refine (ReadFixed64_any a0 a1 _ b1.1 b1.2 z0).mono ?_
  rintro e w4 ⟨rfl, k4⟩
  have H4 : Hid (Below w.heap.size w w4) := below_next H3.out (Nat.le_refl _) k4
  clear k4 H3
  go_wp2_with (first | (go_at_call 19; refine (ref_f64 a0 a1 _ z0).mono ?_; rintro e w' ⟨rfl, rfl⟩) | (go_at_call 10; refine (num_any _ _ (by omega) (by omega)).mono ?_; rintro e w' ⟨rfl, rfl⟩))
  refine (ReadBlob_any a0 a1 _ b1.1 b1.2 z0).mono ?_
  rintro e w5 ⟨rfl, k5⟩
  have H5 : Hid (Below w.heap.size w w5) := below_next H4.out (Nat.le_refl _) k5
  clear k5 H4
  go_wp2_with (first | (go_at_call 20; refine (ref_blob_read a0 a1 _ z0).mono ?_; rintro e w' ⟨rfl, rfl⟩) | (go_at_call 10; refine (num_any _ _ (by omega) (by omega)).mono ?_; rintro e w' ⟨rfl, rfl⟩))
  go_ret
  exact ⟨rfl, H5.out⟩
end Go.Proofs.Ytbkaahmkaphfoab
