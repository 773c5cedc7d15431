import Derived.Test.YtbkaahmkaphfoaaWordsLaw
namespace Go.Proofs.Ytbkaahmkaphfoaa
open Go.ChangeShapes Go.WideShapes Go.ChangeAt Go.RowKit
theorem time_ok (t : Int) (w : World) (h : t ≤ 4611686018427387903) :
    Calls Try.prog 8 #[.int .u64 t] w fun e w' => e = .returned (.tuple #[.int .u64 t, .int .i64 0]) ∧ w' = w := by
  have := time8 t w; rw [show timeV t = (t, 0) from by unfold timeV; rw [if_pos h]] at this; exact this
theorem txn_ok (t : Int) (w : World) (h0 : 0 ≤ t) (h : t ≤ 4611686018427387903) :
    Calls Try.prog 9 #[.int .u64 t] w fun e w' => e = .returned (.tuple #[.int .u64 (9223372036854775808 + t), .int .i64 0]) ∧ w' = w := by
  have := txn9 t w h0; rw [show txnV t = (9223372036854775808 + t, 0) from by unfold txnV; rw [if_pos h]] at this; exact this
theorem split_time (t : Int) (w : World) (h0 : 0 ≤ t) (h : t ≤ 4611686018427387903) :
    Calls Try.prog 11 #[.int .u64 t] w fun e w' => e = .returned (.tuple #[.int .i64 1, .int .u64 t]) ∧ w' = w := by
  have := split11 t w h0 (by omega); rw [show splitV t = (1, t) from by unfold splitV; rw [if_pos h]] at this; exact this
theorem split_txn (t : Int) (w : World) (h0 : 0 ≤ t) (h : t ≤ 4611686018427387903) :
    Calls Try.prog 11 #[.int .u64 (9223372036854775808 + t)] w fun e w' => e = .returned (.tuple #[.int .i64 2, .int .u64 t]) ∧ w' = w := by
  have := split11 (9223372036854775808 + t) w (by omega) (by omega)
  rw [show splitV (9223372036854775808 + t) = (2, t) from by unfold splitV; rw [if_neg (by omega), if_neg (by omega), if_pos (by omega)]; congr 1; omega] at this; exact this
theorem split_inf (w : World) :
    Calls Try.prog 11 #[.int .u64 9223372036854775807] w fun e w' => e = .returned (.tuple #[.int .i64 3, .int .u64 0]) ∧ w' = w := by
  have := split11 9223372036854775807 w (by omega) (by omega)
  rw [show splitV 9223372036854775807 = (3, 0) from by unfold splitV; rw [if_neg (by omega), if_pos rfl]] at this; exact this
theorem link_ok (x : Int) (m : Bool) (w : World) (h0 : 0 ≤ x) (h1 : x ≤ 2147483647) :
    Calls Try.prog 12 #[.int .i64 x, .bool m] w fun e w' => e = .returned (.tuple #[.int .u64 (2 * x + (if m then 1 else 0)), .int .i64 0]) ∧ w' = w := by
  have := link12 x m w (by omega) (by omega); rw [show linkV x m = (2 * x + (if m then 1 else 0), 0) from by unfold linkV; rw [if_pos ⟨h0, h1⟩]] at this; exact this
theorem of_one (x : Int) (w : World) (h0 : 0 ≤ x) (h1 : x ≤ 2147483647) :
    Calls Try.prog 13 #[.int .u64 (2 * x + 1)] w fun e w' => e = .returned (.tuple #[.int .i64 x, .bool true, .int .i64 0]) ∧ w' = w := by
  have := of13 (2 * x + 1) w (by omega) (by omega)
  rw [show ofLinkV (2 * x + 1) = (x, true, 0) from by
    unfold ofLinkV
    rw [if_pos (by omega), show (2 * x + 1) / 2 = x from by omega, show (2 * x + 1) % 2 = 1 from by omega]
    rfl] at this
  exact this
theorem of_zero (x : Int) (w : World) (h0 : 0 ≤ x) (h1 : x ≤ 2147483647) :
    Calls Try.prog 13 #[.int .u64 (2 * x)] w fun e w' => e = .returned (.tuple #[.int .i64 x, .bool false, .int .i64 0]) ∧ w' = w := by
  have := of13 (2 * x) w (by omega) (by omega)
  rw [show ofLinkV (2 * x) = (x, false, 0) from by
    unfold ofLinkV
    rw [if_pos (by omega), show (2 * x) / 2 = x from by omega, show (2 * x) % 2 = 0 from by omega]
    rfl] at this
  exact this
set_option maxHeartbeats 800000 in
set_option maxRecDepth 100000 in
theorem apart_walk (a0 : Int) (a1 : Int) (a2 : Int) (a3 : Bool) (w0 : (Lit.int .u64 a0).wf = true) (w1 : (Lit.int .u64 a1).wf = true) (w2 : (Lit.int .i64 a2).wf = true) (w : World) :
    Calls Try.prog 4 #[.int .u64 a0, .int .u64 a1, .int .i64 a2, .bool a3] w fun e w' => e = .returned (.bool true) ∧ Grown w w' := by
  have b0 := bounds_u64 w0
  have b1 := bounds_u64 w1
  have b2 := bounds_i64 w2
  clear w0 w1 w2
  go_enter Try.func4, Try.ntmps4
  go_wp2_with fail
  have d0 : 0 ≤ a0 % 4611686018427387904 ∧ a0 % 4611686018427387904 ≤ 4611686018427387903 := by omega
  have d1 : 0 ≤ a1 % 4611686018427387904 ∧ a1 % 4611686018427387904 ≤ 4611686018427387903 := by omega
  generalize a0 % 4611686018427387904 = a at *
  generalize a1 % 4611686018427387904 = b at *
  obtain ⟨d00, d01⟩ := d0
  obtain ⟨d10, d11⟩ := d1
  clear b0 b1
  refine (time_ok _ _ d01).mono ?_
  rintro e w' ⟨rfl, rfl⟩
  go_wp2_with fail
  refine (time_ok _ _ d11).mono ?_
  rintro e w' ⟨rfl, rfl⟩
  go_wp2_with fail
  refine (txn_ok _ _ d00 d01).mono ?_
  rintro e w' ⟨rfl, rfl⟩
  go_wp2_with fail
  refine (txn_ok _ _ d10 d11).mono ?_
  rintro e w' ⟨rfl, rfl⟩
  have hab : (9223372036854775808 + a == 9223372036854775808 + b) = (a == b) := by rw [Bool.eq_iff_iff, beq_iff_eq, beq_iff_eq]; omega
  go_wp2_with (go_at_call 10; refine (num10 _ _ (by omega) (by omega)).mono ?_; rintro e w' ⟨rfl, rfl⟩)
  refine (split_time _ _ d00 d01).mono ?_
  rintro e w' ⟨rfl, rfl⟩
  go_wp2_with fail
  refine (split_txn _ _ d00 d01).mono ?_
  rintro e w' ⟨rfl, rfl⟩
  go_wp2_with fail
  refine (split_inf _).mono ?_
  rintro e w' ⟨rfl, rfl⟩
  by_cases hs : 0 ≤ a2 ∧ a2 ≤ 2147483647
  · obtain ⟨s0, s1⟩ := hs
    go_wp2_with fail
    refine (link_ok _ _ _ s0 s1).mono ?_
    rintro e w' ⟨rfl, rfl⟩
    go_wp2_with fail
    · refine (of_one _ _ s0 s1).mono ?_
      rintro e w' ⟨rfl, rfl⟩
      go_wp2_with (go_at_call 10; refine (num10 _ _ (by omega) (by omega)).mono ?_; rintro e w' ⟨rfl, rfl⟩)
      go_ret
      exact ⟨rfl, Grown.refl _⟩
    · refine (of_zero _ _ s0 s1).mono ?_
      rintro e w' ⟨rfl, rfl⟩
      go_wp2_with (go_at_call 10; refine (num10 _ _ (by omega) (by omega)).mono ?_; rintro e w' ⟨rfl, rfl⟩)
      go_ret
      exact ⟨rfl, Grown.refl _⟩
  · go_wp2_with fail
    all_goals first | (exfalso; omega) | (go_ret; exact ⟨rfl, Grown.refl _⟩)
end Go.Proofs.Ytbkaahmkaphfoaa
