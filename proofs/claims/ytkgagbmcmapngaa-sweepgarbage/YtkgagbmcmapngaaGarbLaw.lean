import Derived.Test.YtkgagbmcmapngaaWords
namespace Go.Proofs.Ytkgagbmcmapngaa
open Go.ChangeShapes Go.WideShapes Go.ChangeAt Go.RowKit
set_option linter.unusedVariables false
set_option maxRecDepth 100000
/-- What is garbage, of two words and a floor. -/
def garb (b e f : Int) : Bool := if (splitV b).1 = 3 then true else if (splitV b).1 = 1 then (if (splitV e).1 = 1 then decide ((splitV e).2 ≤ f) else false) else false
theorem garb_inf (e f : Int) : garb 9223372036854775807 e f = true := by
  have h : (splitV 9223372036854775807).1 = 3 := by decide
  unfold garb; rw [if_pos h]
theorem retB {a b : Bool} (h : a = b) : Ending.returned (.bool a) = .returned (.bool b) := by rw [h]
theorem garbage_prog (b e f : Int) (w : World) (hb0 : 0 ≤ b) (hb1 : b ≤ 18446744073709551615) (he0 : 0 ≤ e) (he1 : e ≤ 18446744073709551615) : Calls Try.prog 4 #[.int .u64 b, .int .u64 e, .int .u64 f] w fun x w' => x = .returned (.bool (garb b e f)) ∧ w' = w := by
  go_enter Try.func4, Try.ntmps4
  go_wp2_with fail
  refine (split11 b _ hb0 hb1).mono ?_
  rintro x w1 ⟨rfl, rfl⟩
  go_wp2_with fail
  refine (split11 e _ he0 he1).mono ?_
  rintro x w1 ⟨rfl, rfl⟩
  generalize hB : (splitV b).1 = B
  generalize hB2 : (splitV b).2 = B2
  generalize hE : (splitV e).1 = E
  generalize hE2 : (splitV e).2 = E2
  go_wp2
  all_goals go_ret
  all_goals refine ⟨retB ?_, rfl⟩
  all_goals unfold garb
  all_goals rw [hB, hE, hE2]
  all_goals clear hB hB2 hE hE2
  all_goals (try simp only [beq_iff_eq, beq_eq_false_iff_ne, ne_eq] at *)
  all_goals ((repeat' split) <;> (first | omega | simp_all))
theorem garbage_ref (b e f : Int) (w : World) (hb0 : 0 ≤ b) (hb1 : b ≤ 18446744073709551615) (he0 : 0 ≤ e) (he1 : e ≤ 18446744073709551615) : Calls Try.prog 5 #[.int .u64 b, .int .u64 e, .int .u64 f] w fun x w' => x = .returned (.bool (garb b e f)) ∧ w' = w := by
  go_enter Try.func5, Try.ntmps5
  go_wp2_with fail
  refine (split16 b _ hb0 hb1).mono ?_
  rintro x w1 ⟨rfl, rfl⟩
  go_wp2_with fail
  refine (split16 e _ he0 he1).mono ?_
  rintro x w1 ⟨rfl, rfl⟩
  generalize hB : (splitV b).1 = B
  generalize hB2 : (splitV b).2 = B2
  generalize hE : (splitV e).1 = E
  generalize hE2 : (splitV e).2 = E2
  go_wp2
  all_goals go_ret
  all_goals refine ⟨retB ?_, rfl⟩
  all_goals unfold garb
  all_goals rw [hB, hE, hE2]
  all_goals clear hB hB2 hE hE2
  all_goals (try simp only [beq_iff_eq, beq_eq_false_iff_ne, ne_eq] at *)
  all_goals ((repeat' split) <;> (first | omega | simp_all))
theorem garbage_walk (b e f : Int) (h0 : (Lit.int .u64 b).wf = true) (h1 : (Lit.int .u64 e).wf = true) (w : World) : Calls Try.prog 3 #[.int .u64 b, .int .u64 e, .int .u64 f] w fun x w' => x = .returned (.bool true) ∧ w' = w := by
  have b0 := bounds_u64 h0
  have b1 := bounds_u64 h1
  go_enter Try.func3, Try.ntmps3
  go_wp2_with fail
  refine (garbage_prog _ _ _ _ b0.1 b0.2 b1.1 b1.2).mono ?_
  rintro x w1 ⟨rfl, rfl⟩
  generalize hB : garb b e f = B
  go_wp2_with fail
  refine (garbage_prog _ _ _ _ (by omega) (by omega) b1.1 b1.2).mono ?_
  rintro x w1 ⟨rfl, rfl⟩
  rw [garb_inf]
  go_wp2_with fail
  refine (garbage_ref _ _ _ _ b0.1 b0.2 b1.1 b1.2).mono ?_
  rintro x w1 ⟨rfl, rfl⟩
  rw [hB]
  go_wp2
  all_goals go_ret
  all_goals first | exact ⟨rfl, rfl⟩ | (refine ⟨retB ?_, rfl⟩; simp_all)
end Go.Proofs.Ytkgagbmcmapngaa
