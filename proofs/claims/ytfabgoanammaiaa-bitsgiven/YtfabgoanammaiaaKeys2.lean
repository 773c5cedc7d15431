import Derived.Test.YtfabgoanammaiaaVals4
import Derived.Test.YtfabgoanammaiaaOwnB
namespace Go.Proofs.Ytfabgoanammaiaa
open Go.ChangeShapes Go.WideShapes Go.ChangeAt Go.RowKit
set_option linter.unusedVariables false

theorem refuse_any (b : Bool) (w : World) : Calls Try.prog 65 #[.bool b] w fun e w' => e = .returned (.int .i64 (if b then 0 else 19)) ∧ w' = w := by
  cases b
  all_goals
    go_enter Try.func65, Try.ntmps65
    go_wp2
    go_ret
    exact ⟨rfl, rfl⟩
/-- The errors of a value of each kind. -/
def fault0 (v : Int × Int × ByteArray) : Int := if v.2.1 == 0 && v.2.2.toList.isEmpty then 0 else 19
def fault1 (v : Int × Int × ByteArray) : Int := if (v.2.1 == 0 || v.2.1 == 1) && v.2.2.toList.isEmpty then 0 else 19
def fault2 (v : Int × Int × ByteArray) : Int := if v.2.2.toList.isEmpty then 0 else 19
def fault3 (v : Int × Int × ByteArray) : Int := if v.2.1 == 0 && decide (4096 < v.2.2.size) then 4 else if v.2.1 == 0 then 0 else 19
set_option maxRecDepth 100000 in
theorem check0 (v : Int × Int × ByteArray) (w : World) : Calls Try.prog 43 #[.agg #[.int .i64 v.1, .int .i64 v.2.1, .string v.2.2]] w fun e w' => e = .returned (.int .i64 (fault0 v)) ∧ Below w.heap.size w w' := by
  obtain ⟨a, b, c⟩ := v
  have HB : Hid (Below w.heap.size w (w.alloc (.cells #[.int .i64 a, .int .i64 b, .string c] 45))) := (Below.refl _ _).alloc (Nat.le_refl _) _
  simp only
  cases h1 : (b == 0) <;> cases h2 : c.toList.isEmpty
  all_goals
    have HF : Hid (fault0 (a, b, c) = _) := show fault0 (a, b, c) = if (b == 0 && c.toList.isEmpty) then 0 else 19 from rfl
    rw [h1, h2] at HF
    go_enter Try.func43, Try.ntmps43
    go_wp2_with (go_at_call 65; refine (refuse_any _ _).mono ?_; rintro e w' ⟨rfl, rfl⟩)
    go_ret
    exact ⟨ret_eq (by rw [HF.out]; rfl), HB.out⟩
set_option maxRecDepth 100000 in
theorem check2 (v : Int × Int × ByteArray) (w : World) : Calls Try.prog 53 #[.agg #[.int .i64 v.1, .int .i64 v.2.1, .string v.2.2]] w fun e w' => e = .returned (.int .i64 (fault2 v)) ∧ Below w.heap.size w w' := by
  obtain ⟨a, b, c⟩ := v
  have HB : Hid (Below w.heap.size w (w.alloc (.cells #[.int .i64 a, .int .i64 b, .string c] 45))) := (Below.refl _ _).alloc (Nat.le_refl _) _
  simp only
  cases h2 : c.toList.isEmpty
  all_goals
    have HF : Hid (fault2 (a, b, c) = _) := show fault2 (a, b, c) = if c.toList.isEmpty then 0 else 19 from rfl
    rw [h2] at HF
    go_enter Try.func53, Try.ntmps53
    go_wp2_with (go_at_call 65; refine (refuse_any _ _).mono ?_; rintro e w' ⟨rfl, rfl⟩)
    go_ret
    exact ⟨ret_eq (by rw [HF.out]; rfl), HB.out⟩
set_option maxRecDepth 100000 in
theorem check1 (v : Int × Int × ByteArray) (w : World) : Calls Try.prog 48 #[.agg #[.int .i64 v.1, .int .i64 v.2.1, .string v.2.2]] w fun e w' => e = .returned (.int .i64 (fault1 v)) ∧ Below w.heap.size w w' := by
  obtain ⟨a, b, c⟩ := v
  have HB : Hid (Below w.heap.size w (w.alloc (.cells #[.int .i64 a, .int .i64 b, .string c] 45))) := (Below.refl _ _).alloc (Nat.le_refl _) _
  simp only
  cases h1 : (b == 0) <;> cases h3 : (b == 1) <;> cases h2 : c.toList.isEmpty
  all_goals
    have HF : Hid (fault1 (a, b, c) = _) := show fault1 (a, b, c) = if ((b == 0 || b == 1) && c.toList.isEmpty) then 0 else 19 from rfl
    rw [h1, h3, h2] at HF
    go_enter Try.func48, Try.ntmps48
    go_wp2_with (go_at_call 65; refine (refuse_any _ _).mono ?_; rintro e w' ⟨rfl, rfl⟩)
    go_ret
    exact ⟨ret_eq (by rw [HF.out]; rfl), HB.out⟩
set_option maxRecDepth 100000 in
theorem check3 (v : Int × Int × ByteArray) (w : World) (hs : v.2.2.size ≤ 9223372036854775807) : Calls Try.prog 58 #[.agg #[.int .i64 v.1, .int .i64 v.2.1, .string v.2.2]] w fun e w' => e = .returned (.int .i64 (fault3 v)) ∧ Below w.heap.size w w' := by
  obtain ⟨a, b, c⟩ := v
  have HB : Hid (Below w.heap.size w (w.alloc (.cells #[.int .i64 a, .int .i64 b, .string c] 45))) := (Below.refl _ _).alloc (Nat.le_refl _) _
  simp only at hs ⊢
  cases h1 : (b == 0) <;> by_cases h2 : 4096 < c.size
  all_goals
    have HF : Hid (fault3 (a, b, c) = _) := show fault3 (a, b, c) = if (b == 0 && decide (4096 < c.size)) then 4 else if b == 0 then 0 else 19 from rfl
    first | rw [h1, decide_eq_true h2] at HF | rw [h1, decide_eq_false h2] at HF
    go_enter Try.func58, Try.ntmps58
    go_wp2_with (go_at_call 65; refine (refuse_any _ _).mono ?_; rintro e w' ⟨rfl, rfl⟩)
    go_ret
    exact ⟨ret_eq (by rw [HF.out]; rfl), HB.out⟩
end Go.Proofs.Ytfabgoanammaiaa
