import Derived.Test.YtngkooonfldphaaChecked
import Derived.WalkKit
import Derived.ProofKit
import Derived.Below
import Derived.RegionCalls
import Derived.Deep.RegionHeld3
import Derived.Laws.Rows
namespace Go.Proofs.Ytngkooonfldphaa
open Go.ChangeShapes Go.WideShapes Go.ChangeAt Go.RowKit
set_option linter.unusedVariables false
set_option maxRecDepth 100000
/-- The table of the begin word. -/
def jB (own : Bool) (s e a : Int) : Int := if own then 1 else if s = 2 then (if e = 0 then 5 else if e ≤ a then 2 else 0) else if s = 3 then (if e ≤ a then 1 else 0) else if s = 5 then 4 else 0
/-- The table of the end word. -/
def jE (own : Bool) (s e a : Int) : Int := if own then 0 else if s = 2 then (if e = 0 then 5 else if e ≤ a then 3 else 1) else if s = 3 then (if e ≤ a then 0 else 1) else if s = 1 ∨ s = 4 then 1 else if s = 5 then 4 else 0
theorem jB_own (s e a : Int) : jB true s e a = 1 := rfl
theorem jE_own (s e a : Int) : jE true s e a = 0 := rfl
theorem retI {k : IntKind} {a b : Int} (h : a = b) : Ending.returned (.int k a) = .returned (.int k b) := by rw [h]
theorem judgeB (own : Bool) (s e a : Int) (w : World) : Calls Try.prog 5 #[.bool own, .int .i64 s, .int .u64 e, .int .u64 a] w fun x w' => x = .returned (.int .i64 (jB own s e a)) ∧ w' = w := by
  go_enter Try.func5, Try.ntmps5
  cases own
  · go_wp2
    all_goals go_ret
    all_goals refine ⟨retI ?_, rfl⟩
    all_goals unfold jB
    all_goals (try simp only [beq_iff_eq, beq_eq_false_iff_ne, ne_eq, Bool.false_eq_true, if_false] at *)
    all_goals ((repeat' split) <;> omega)
  · go_wp2
    go_ret
    exact ⟨rfl, rfl⟩
theorem judgeE (own : Bool) (s e a : Int) (w : World) : Calls Try.prog 6 #[.bool own, .int .i64 s, .int .u64 e, .int .u64 a] w fun x w' => x = .returned (.int .i64 (jE own s e a)) ∧ w' = w := by
  go_enter Try.func6, Try.ntmps6
  cases own
  · go_wp2
    all_goals go_ret
    all_goals refine ⟨retI ?_, rfl⟩
    all_goals unfold jE
    all_goals (try simp only [beq_iff_eq, beq_eq_false_iff_ne, ne_eq, Bool.false_eq_true, if_false] at *)
    all_goals ((repeat' split) <;> omega)
  · go_wp2
    go_ret
    exact ⟨rfl, rfl⟩
theorem ref_judgeB (own : Bool) (s e a : Int) (w : World) : Calls Try.prog 8 #[.bool own, .int .i64 s, .int .u64 e, .int .u64 a] w fun x w' => x = .returned (.int .i64 (jB own s e a)) ∧ w' = w := by
  go_enter Try.func8, Try.ntmps8
  cases own
  · go_wp2
    all_goals go_ret
    all_goals refine ⟨retI ?_, rfl⟩
    all_goals unfold jB
    all_goals (try simp only [beq_iff_eq, beq_eq_false_iff_ne, ne_eq, Bool.false_eq_true, if_false] at *)
    all_goals ((repeat' split) <;> omega)
  · go_wp2
    go_ret
    exact ⟨rfl, rfl⟩
theorem ref_judgeE (own : Bool) (s e a : Int) (w : World) : Calls Try.prog 9 #[.bool own, .int .i64 s, .int .u64 e, .int .u64 a] w fun x w' => x = .returned (.int .i64 (jE own s e a)) ∧ w' = w := by
  go_enter Try.func9, Try.ntmps9
  cases own
  · go_wp2
    all_goals go_ret
    all_goals refine ⟨retI ?_, rfl⟩
    all_goals unfold jE
    all_goals (try simp only [beq_iff_eq, beq_eq_false_iff_ne, ne_eq, Bool.false_eq_true, if_false] at *)
    all_goals ((repeat' split) <;> omega)
  · go_wp2
    go_ret
    exact ⟨rfl, rfl⟩
theorem judges_walk (own : Bool) (s e a : Int) (w : World) : Calls Try.prog 4 #[.bool own, .int .i64 s, .int .u64 e, .int .u64 a] w fun x w' => x = .returned (.bool true) ∧ w' = w := by
  go_enter Try.func4, Try.ntmps4
  go_wp2_with fail
  refine (judgeB _ _ _ _ _).mono ?_
  rintro x w1 ⟨rfl, rfl⟩
  go_wp2_with fail
  refine (judgeE _ _ _ _ _).mono ?_
  rintro x w1 ⟨rfl, rfl⟩
  generalize hB : jB own s e a = B
  generalize hE : jE own s e a = E
  go_wp2_with fail
  refine (ref_judgeB _ _ _ _ _).mono ?_
  rintro x w1 ⟨rfl, rfl⟩
  rw [hB]
  go_wp2_with fail
  refine (ref_judgeE _ _ _ _ _).mono ?_
  rintro x w1 ⟨rfl, rfl⟩
  rw [hE]
  go_wp2
  go_ret
  exact ⟨by simp, rfl⟩
end Go.Proofs.Ytngkooonfldphaa
