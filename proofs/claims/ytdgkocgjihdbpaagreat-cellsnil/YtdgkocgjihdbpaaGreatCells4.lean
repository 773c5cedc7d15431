import Derived.Test.YtdgkocgjihdbpaaGreatCells3
namespace Go.Proofs.YtdgkocgjihdbpaaGreat
open Go.ChangeShapes Go.WideShapes Go.ChangeAt Go.RowKit
set_option linter.unusedVariables false

set_option maxRecDepth 100000 in
set_option maxHeartbeats 800000 in
theorem ref_shape (b n wd c : Nat) (sp : Option Addr) (w : World) (hz : n ≤ 1099511627776) (h1 : w.cell? ⟨b, 0, none⟩ = some (.int .i64 (wd : Int))) (h2 : w.cell? ⟨b, 1, none⟩ = some (.slice sp (n + 1) c)) : Calls Tryz.prog 38 #[.pointer (some ⟨b, 0, none⟩)] w fun e w' => e = .returned (.tuple #[.int .i64 (n : Int), .int .i64 (wd : Int)]) ∧ w' = w.drew := by
  have hw1 : IntKind.i64.wrap ((n : Int) + 1 - 1) = (n : Int) := by rw [IntKind.wrap_i64]; omega
  have hw2 : IntKind.i64.wrap (n : Int) = (n : Int) := by rw [IntKind.wrap_i64]; omega
  have hw3 : (n : Int) + 1 - 1 = (n : Int) := by omega
  go_enter Tryz.func38, Tryz.ntmps38
  go_wp2
  have s1 : w.drew.cell? ⟨b, 0, none⟩ = some (.int .i64 (wd : Int)) := h1
  have s2 : w.drew.cell? ⟨b, 1, none⟩ = some (.slice sp (n + 1) c) := h2
  go_region_held3 (fun w'' => w''.cell? ⟨b, 0, none⟩ = some (.int .i64 (wd : Int)) ∧ w''.cell? ⟨b, 1, none⟩ = some (.slice sp (n + 1) c)) (first | assumption | exact ⟨s1, s2⟩) (fail)
  go_wp2
  go_ret2
  exact ⟨rfl, rfl⟩
set_option maxRecDepth 100000 in
set_option maxHeartbeats 800000 in
theorem ref_shape_nil (w : World) : Calls Tryz.prog 38 #[.pointer none] w fun e w' => e = .returned (.tuple #[.int .i64 0, .int .i64 0]) ∧ w' = w := by
  go_enter Tryz.func38, Tryz.ntmps38
  go_wp2
  go_ret2
  exact ⟨rfl, rfl⟩
set_option maxRecDepth 100000 in
set_option maxHeartbeats 800000 in
theorem shape_nil (w : World) : Calls Tryz.prog 72 #[.pointer none] w fun e w' => e = .returned (.tuple #[.int .i64 0, .int .i64 0]) ∧ w' = w := by
  go_enter Tryz.func72, Tryz.ntmps72
  go_wp2_with fail
  refine (missing_nil w).mono ?_
  rintro e w' ⟨rfl, rfl⟩
  go_wp2
  go_ret2
  exact ⟨rfl, rfl⟩
end Go.Proofs.YtdgkocgjihdbpaaGreat
