import Derived.Test.YtbkaahmkaphfoaaWords
namespace Go.Proofs.Ytbkaahmkaphfoaa
open Go.ChangeShapes Go.WideShapes Go.ChangeAt Go.RowKit
theorem num10 (x : Int) (w : World) (_h0 : -9223372036854775808 ≤ x) (_h1 : x ≤ 9223372036854775807) :
    Calls Try.prog 10 #[.int .i64 x] w fun e w' => e = .returned (.int .i64 x) ∧ w' = w := by
  go_enter Try.func10, Try.ntmps10
  go_wp2
  go_ret
  exact ⟨rfl, rfl⟩
theorem timeB (t : Int) : 0 ≤ (timeV t).2 ∧ (timeV t).2 ≤ 19 := by unfold timeV; split <;> simp
theorem txnB (t : Int) : 0 ≤ (txnV t).2 ∧ (txnV t).2 ≤ 19 := by unfold txnV; split <;> simp
theorem splitB (t : Int) : 0 ≤ (splitV t).1 ∧ (splitV t).1 ≤ 19 := by unfold splitV; (repeat' split) <;> simp
theorem linkB (t : Int) (m : Bool) : 0 ≤ (linkV t m).2 ∧ (linkV t m).2 ≤ 19 := by unfold linkV; split <;> simp
theorem ofLinkB (t : Int) : 0 ≤ (ofLinkV t).2.2 ∧ (ofLinkV t).2.2 ≤ 19 := by unfold ofLinkV; split <;> simp
theorem words_walk (a0 : Int) (a1 : Int) (a2 : Bool) (a3 : Int) (w0 : (Lit.int .u64 a0).wf = true) (w1 : (Lit.int .i64 a1).wf = true) (w3 : (Lit.int .u64 a3).wf = true) (w : World) :
    Calls Try.prog 5 #[.int .u64 a0, .int .i64 a1, .bool a2, .int .u64 a3] w fun e w' => e = .returned (.bool true) ∧ Grown w w' := by
  have b0 := bounds_u64 w0
  have b1 := bounds_i64 w1
  have b3 := bounds_u64 w3
  have c0 := timeB a0
  have c1 := txnB a0
  have c2 := splitB a3
  have c3 := linkB a1 a2
  have c4 := ofLinkB a3
  clear w0 w1 w3
  go_enter Try.func5, Try.ntmps5
  go_wp2_with (first
    | (go_at_call 8; refine (time8 _ _).mono ?_; rintro e w' ⟨rfl, rfl⟩)
    | (go_at_call 14; refine (time14 _ _).mono ?_; rintro e w' ⟨rfl, rfl⟩)
    | (go_at_call 9; refine (txn9 _ _ b0.1).mono ?_; rintro e w' ⟨rfl, rfl⟩)
    | (go_at_call 15; refine (txn15 _ _ b0.1).mono ?_; rintro e w' ⟨rfl, rfl⟩)
    | (go_at_call 11; refine (split11 _ _ b3.1 b3.2).mono ?_; rintro e w' ⟨rfl, rfl⟩)
    | (go_at_call 16; refine (split16 _ _ b3.1 b3.2).mono ?_; rintro e w' ⟨rfl, rfl⟩)
    | (go_at_call 12; refine (link12 _ _ _ b1.1 b1.2).mono ?_; rintro e w' ⟨rfl, rfl⟩)
    | (go_at_call 17; refine (link17 _ _ _ b1.1 b1.2).mono ?_; rintro e w' ⟨rfl, rfl⟩)
    | (go_at_call 13; refine (of13 _ _ b3.1 b3.2).mono ?_; rintro e w' ⟨rfl, rfl⟩)
    | (go_at_call 18; refine (of18 _ _ b3.1 b3.2).mono ?_; rintro e w' ⟨rfl, rfl⟩)
    | (go_at_call 10; refine (num10 _ _ (by omega) (by omega)).mono ?_; rintro e w' ⟨rfl, rfl⟩))
  go_ret
  exact ⟨rfl, by repeat (first | exact Grown.refl _ | apply Grown.drew | apply Grown.alloc)⟩
end Go.Proofs.Ytbkaahmkaphfoaa
