import Derived.Test.YtlidkdnfibfnfaaGreatDoorLxS1
namespace Go.Proofs.YtlidkdnfibfnfaaGreatDoor
open Go.ChangeShapes Go.WideShapes Go.ChangeAt Go.RowKit
set_option linter.unusedVariables false
set_option maxRecDepth 100000
/-- How reading gives up: the error and the place. -/
def gaveUp (c p : Int) : Ending := .panicked [{ v := .iface 40 (.agg #[.int .i64 c, .int .i64 p]), recovered := false }]
theorem isNameT (t : ByteArray) (w : World) (hz : t.size ≤ 140737488355328) : Calls Tryz.prog 63 #[.string t] w fun e w' => e = .returned (.bool (decide (1 ≤ t.size ∧ t.size ≤ 32))) ∧ w' = w := by
  by_cases h1 : 1 ≤ t.size
  · by_cases h2 : t.size ≤ 32
    · have : (1 : Int) ≤ (t.size : Int) := by omega
      have : (t.size : Int) ≤ 32 := by omega
      rw [decide_eq_true ⟨h1, h2⟩]
      go_enter Tryz.func63, Tryz.ntmps63
      go_wp2
      go_ret
      exact ⟨by first | rfl | (simp; done) | (simp; omega), rfl⟩
    · have : (1 : Int) ≤ (t.size : Int) := by omega
      have : ¬ (t.size : Int) ≤ 32 := by omega
      rw [decide_eq_false (fun h => h2 h.2)]
      go_enter Tryz.func63, Tryz.ntmps63
      go_wp2
      go_ret
      exact ⟨by first | rfl | (simp; done) | (simp; omega), rfl⟩
  · have : ¬ (1 : Int) ≤ (t.size : Int) := by omega
    rw [decide_eq_false (fun h => h1 h.1)]
    go_enter Tryz.func63, Tryz.ntmps63
    go_wp2
    go_ret
    exact ⟨by first | rfl | (simp; done) | (simp; omega), rfl⟩
theorem nameAt_ok (t : ByteArray) (p : Int) (w : World) (h : 1 ≤ t.size ∧ t.size ≤ 32) : Calls Tryz.prog 50 #[.string t, .int .i64 p] w fun e w' => e = .returned (.agg (tkC ⟨1, t, 0, 0⟩)) ∧ Below w.heap.size w w' := by
  go_enter Tryz.func50, Tryz.ntmps50
  go_wp2_with fail
  refine (isNameT t _ (by omega)).mono ?_
  rintro e w1 ⟨rfl, rfl⟩
  rw [decide_eq_true h]
  go_wp2
  exact bodyPost_ret (results_cell_row rfl _ _ w.heap.size _ _ (0, 0) _ (by rfl) (heap_alloc_new w _) Tryz.underlying30 rfl infoTk) rfl ⟨rfl, belTk w _⟩
theorem nameAt_no (t : ByteArray) (p : Int) (w : World) (hz : t.size ≤ 140737488355328) (h : ¬ (1 ≤ t.size ∧ t.size ≤ 32)) : Calls Tryz.prog 50 #[.string t, .int .i64 p] w fun e w' => e = gaveUp 153 p ∧ Below w.heap.size w w' := by
  go_enter Tryz.func50, Tryz.ntmps50
  go_wp2_with fail
  refine (isNameT t _ hz).mono ?_
  rintro e w1 ⟨rfl, rfl⟩
  rw [decide_eq_false h]
  go_wp2
  exact ⟨rfl, rfl, belTk w _⟩
theorem textAt_ok (t : ByteArray) (p : Int) (w : World) (h : t.size ≤ 4096) : Calls Tryz.prog 44 #[.string t, .int .i64 p] w fun e w' => e = .returned (.agg (tkC ⟨4, t, 0, 0⟩)) ∧ Below w.heap.size w w' := by
  have : ¬ (4096 : Int) < (t.size : Int) := by omega
  go_enter Tryz.func44, Tryz.ntmps44
  go_wp2
  exact bodyPost_ret (results_cell_row rfl _ _ w.heap.size _ _ (0, 0) _ (by rfl) (heap_alloc_new w _) Tryz.underlying30 rfl infoTk) rfl ⟨rfl, belTk w _⟩
theorem textAt_no (t : ByteArray) (p : Int) (w : World) (hz : t.size ≤ 140737488355328) (h : ¬ t.size ≤ 4096) : Calls Tryz.prog 44 #[.string t, .int .i64 p] w fun e w' => e = gaveUp 4 p ∧ Below w.heap.size w w' := by
  have : (4096 : Int) < (t.size : Int) := by omega
  go_enter Tryz.func44, Tryz.ntmps44
  go_wp2
  exact ⟨rfl, rfl, belTk w _⟩
end Go.Proofs.YtlidkdnfibfnfaaGreatDoor
