import Derived.Test.YtdjklcmkcccpeaaGreatCells2
namespace Go.Proofs.YtdjklcmkcccpeaaGreat
open Go.ChangeShapes Go.WideShapes Go.ChangeAt Go.RowKit
set_option linter.unusedVariables false

set_option maxRecDepth 100000 in
set_option maxHeartbeats 800000 in
/-- A nil arena is missing. -/
theorem missing_nil (w : World) : Calls Tryz.prog 66 #[.pointer none] w fun e w' => e = .returned (.bool true) ∧ w' = w := by
  go_enter Tryz.func66, Tryz.ntmps66
  go_wp2
  go_ret
  exact ⟨rfl, rfl⟩
set_option maxRecDepth 100000 in
set_option maxHeartbeats 800000 in
/-- One that New made is not. -/
theorem missing_not (b wd : Nat) (w : World) (h0 : 0 < wd) (h1 : w.cell? ⟨b, 0, none⟩ = some (.int .i64 (wd : Int))) : Calls Tryz.prog 66 #[.pointer (some ⟨b, 0, none⟩)] w fun e w' => e = .returned (.bool false) ∧ w' = w := by
  have hne : ((wd : Int) == 0) = false := by simp; omega
  go_enter Tryz.func66, Tryz.ntmps66
  go_wp2
  go_ret
  exact ⟨rfl, rfl⟩
set_option maxRecDepth 100000 in
set_option maxHeartbeats 800000 in
theorem shape_any (b n wd c : Nat) (sp : Option Addr) (w : World) (h0 : 0 < wd) (h1 : w.cell? ⟨b, 0, none⟩ = some (.int .i64 (wd : Int))) (h2 : w.cell? ⟨b, 1, none⟩ = some (.slice sp n c)) : Calls Tryz.prog 62 #[.pointer (some ⟨b, 0, none⟩)] w fun e w' => e = .returned (.tuple #[.int .i64 (n : Int), .int .i64 (wd : Int)]) ∧ w' = w.drew := by
  go_enter Tryz.func62, Tryz.ntmps62
  go_wp2_with fail
  refine (missing_not b wd w h0 h1).mono ?_
  rintro e w' ⟨rfl, rfl⟩
  go_wp2
  have s1 : w'.drew.cell? ⟨b, 0, none⟩ = some (.int .i64 (wd : Int)) := h1
  have s2 : w'.drew.cell? ⟨b, 1, none⟩ = some (.slice sp n c) := h2
  go_region_held3 (fun w'' => w''.cell? ⟨b, 0, none⟩ = some (.int .i64 (wd : Int)) ∧ w''.cell? ⟨b, 1, none⟩ = some (.slice sp n c)) (first | assumption | exact ⟨s1, s2⟩) (fail)
  go_wp2
  go_ret2
  exact ⟨rfl, rfl⟩
set_option maxRecDepth 100000 in
set_option maxHeartbeats 800000 in
theorem new_refused (n wd : Int) (w : World) (h : ¬ (1 ≤ n ∧ n ≤ 4096 ∧ 1 ≤ wd ∧ wd ≤ 16)) : Calls Tryz.prog 38 #[.int .i64 n, .int .i64 wd] w fun e w' => e = .returned (.tuple #[.pointer none, .int .i64 20]) ∧ w' = w := by
  by_cases h1 : 1 ≤ n
  · by_cases h2 : n ≤ 4096
    · by_cases h3 : 1 ≤ wd
      · have h4 : ¬ wd ≤ 16 := fun h4 => h ⟨h1, h2, h3, h4⟩
        clear h
        go_enter Tryz.func38, Tryz.ntmps38
        go_wp2
        go_ret2
        exact ⟨rfl, rfl⟩
      · clear h
        go_enter Tryz.func38, Tryz.ntmps38
        go_wp2
        go_ret2
        exact ⟨rfl, rfl⟩
    · clear h
      go_enter Tryz.func38, Tryz.ntmps38
      go_wp2
      go_ret2
      exact ⟨rfl, rfl⟩
  · clear h
    go_enter Tryz.func38, Tryz.ntmps38
    go_wp2
    go_ret2
    exact ⟨rfl, rfl⟩
end Go.Proofs.YtdjklcmkcccpeaaGreat
