import Derived.Test.YtadfopnlcpnokaaGreatChecked
import Derived.WalkKit
import Derived.ProofKit
import Derived.Below
import Derived.RegionCalls
import Derived.Deep.RegionHeld3
import Derived.Laws.Rows
import Derived.Lib.CleanWalkFns
namespace Go.Proofs.YtadfopnlcpnokaaGreat
open Go.ChangeShapes Go.WideShapes Go.ChangeAt Go.RowKit
set_option linter.unusedVariables false

def BelS (w W : World) : Prop := Below w.heap.size w W
theorem BelS.drew {w W : World} (h : BelS w W) : BelS w W.drew := Below.drew h
theorem BelS.step {w W W' : World} (h : BelS w W) (hb : Below W.heap.size W W') : BelS w W' := Below.trans h (hb.mono h.size)
set_option maxRecDepth 100000 in
theorem newN (a b : Int) (w : World) : Calls Tryz.prog 9 #[.pointer none, .int .i64 a, .int .i64 b] w fun e w' => e = .returned (.tuple #[.pointer none, .int .i64 1]) ∧ Below w.heap.size w w' := by
  go_enter Tryz.func9, Tryz.ntmps9
  go_wp2
  go_ret2
  exact ⟨rfl, Below.refl _ _⟩
set_option maxRecDepth 100000 in
theorem bucketsN (w : World) : Calls Tryz.prog 13 #[.pointer none] w fun e w' => e = .returned (.int .i64 0) ∧ Below w.heap.size w w' := by
  go_enter Tryz.func13, Tryz.ntmps13
  go_wp2
  go_ret
  exact ⟨rfl, Below.refl _ _⟩
set_option maxRecDepth 100000 in
theorem accN (w : World) : Calls Tryz.prog 14 #[.pointer none] w fun e w' => e = .returned (.int .i64 0) ∧ Below w.heap.size w w' := by
  go_enter Tryz.func14, Tryz.ntmps14
  go_wp2
  go_ret
  exact ⟨rfl, Below.refl _ _⟩
set_option maxRecDepth 100000 in
theorem insertN (a b : Int) (w : World) : Calls Tryz.prog 15 #[.pointer none, .int .i64 a, .int .i64 b] w fun e w' => e = .returned (.pointer none) ∧ Below w.heap.size w w' := by
  go_enter Tryz.func15, Tryz.ntmps15
  go_wp2
  go_ret
  exact ⟨rfl, Below.refl _ _⟩
set_option maxRecDepth 100000 in
theorem walkN (a : Int) (w : World) : Calls Tryz.prog 16 #[.pointer none, .int .i64 a] w fun e w' => e = .returned (.pointer none) ∧ Below w.heap.size w w' := by
  go_enter Tryz.func16, Tryz.ntmps16
  go_wp2
  go_ret
  exact ⟨rfl, Below.refl _ _⟩
set_option maxRecDepth 100000 in
theorem behindN (a : Int) (w : World) : Calls Tryz.prog 17 #[.pointer none, .int .i64 a] w fun e w' => e = .returned (.pointer none) ∧ Below w.heap.size w w' := by
  go_enter Tryz.func17, Tryz.ntmps17
  go_wp2
  go_ret
  exact ⟨rfl, Below.refl _ _⟩
set_option maxRecDepth 100000 in
theorem removeN (a b : Int) (w : World) : Calls Tryz.prog 18 #[.pointer none, .int .i64 a, .int .i64 b] w fun e w' => e = .returned (.pointer none) ∧ Below w.heap.size w w' := by
  go_enter Tryz.func18, Tryz.ntmps18
  go_wp2
  go_ret
  exact ⟨rfl, Below.refl _ _⟩
set_option maxRecDepth 100000 in
theorem lookN (a : Int) (v : Value) (w : World) : Calls Tryz.prog 49 #[.pointer none, .int .i64 a, v] w fun e w' => e = .returned (.int .i64 1) ∧ Below w.heap.size w w' := by
  go_enter Tryz.func49, Tryz.ntmps49
  go_wp2
  go_ret
  exact ⟨rfl, Below.refl _ _⟩
set_option maxRecDepth 100000 in
theorem iStepN (w : World) : Calls Tryz.prog 19 #[.pointer none] w fun e w' => e = .returned (.bool true) ∧ Below w.heap.size w w' := by
  go_enter Tryz.func19, Tryz.ntmps19
  go_wp2
  go_ret
  exact ⟨rfl, Below.refl _ _⟩
set_option maxRecDepth 100000 in
theorem iCodeN (w : World) : Calls Tryz.prog 20 #[.pointer none] w fun e w' => e = .returned (.int .i64 1) ∧ Below w.heap.size w w' := by
  go_enter Tryz.func20, Tryz.ntmps20
  go_wp2
  go_ret
  exact ⟨rfl, Below.refl _ _⟩
set_option maxRecDepth 100000 in
theorem kStepN (w : World) : Calls Tryz.prog 22 #[.pointer none] w fun e w' => e = .returned (.bool true) ∧ Below w.heap.size w w' := by
  go_enter Tryz.func22, Tryz.ntmps22
  go_wp2
  go_ret
  exact ⟨rfl, Below.refl _ _⟩
set_option maxRecDepth 100000 in
theorem kCodeN (w : World) : Calls Tryz.prog 23 #[.pointer none] w fun e w' => e = .returned (.int .i64 1) ∧ Below w.heap.size w w' := by
  go_enter Tryz.func23, Tryz.ntmps23
  go_wp2
  go_ret
  exact ⟨rfl, Below.refl _ _⟩
set_option maxRecDepth 100000 in
theorem rStepN (w : World) : Calls Tryz.prog 26 #[.pointer none] w fun e w' => e = .returned (.bool true) ∧ Below w.heap.size w w' := by
  go_enter Tryz.func26, Tryz.ntmps26
  go_wp2
  go_ret
  exact ⟨rfl, Below.refl _ _⟩
set_option maxRecDepth 100000 in
theorem rCodeN (w : World) : Calls Tryz.prog 27 #[.pointer none] w fun e w' => e = .returned (.int .i64 1) ∧ Below w.heap.size w w' := by
  go_enter Tryz.func27, Tryz.ntmps27
  go_wp2
  go_ret
  exact ⟨rfl, Below.refl _ _⟩
set_option maxRecDepth 100000 in
theorem iTriesN (w : World) : Calls Tryz.prog 21 #[.pointer none] w fun e w' => e = .returned (.int .i64 0) ∧ Below w.heap.size w w' := by
  go_enter Tryz.func21, Tryz.ntmps21
  go_wp2
  go_ret
  exact ⟨rfl, Below.refl _ _⟩
set_option maxRecDepth 100000 in
theorem kSlotN (w : World) : Calls Tryz.prog 24 #[.pointer none] w fun e w' => e = .returned (.int .i64 0) ∧ Below w.heap.size w w' := by
  go_enter Tryz.func24, Tryz.ntmps24
  go_wp2
  go_ret
  exact ⟨rfl, Below.refl _ _⟩
set_option maxRecDepth 100000 in
theorem kEndedN (w : World) : Calls Tryz.prog 25 #[.pointer none] w fun e w' => e = .returned (.bool true) ∧ Below w.heap.size w w' := by
  go_enter Tryz.func25, Tryz.ntmps25
  go_wp2
  go_ret
  exact ⟨rfl, Below.refl _ _⟩
set_option maxRecDepth 100000 in
theorem rMarkedN (w : World) : Calls Tryz.prog 28 #[.pointer none] w fun e w' => e = .returned (.bool false) ∧ Below w.heap.size w w' := by
  go_enter Tryz.func28, Tryz.ntmps28
  go_wp2
  go_ret
  exact ⟨rfl, Below.refl _ _⟩
set_option maxRecDepth 100000 in
theorem rHelpedN (w : World) : Calls Tryz.prog 29 #[.pointer none] w fun e w' => e = .returned (.int .i64 0) ∧ Below w.heap.size w w' := by
  go_enter Tryz.func29, Tryz.ntmps29
  go_wp2
  go_ret
  exact ⟨rfl, Below.refl _ _⟩
theorem cellH {w : World} {k : Nat} {c : Array Value} {t : TypeId} (h : w.heap[k]? = some (.cells c t)) (j : Nat) : w.cell? ⟨k, j, none⟩ = c[j]? := by simp [World.cell?, h]
set_option maxRecDepth 100000 in
theorem listN (a : Int) (w : World) : Calls Tryz.prog 11 #[.pointer none, .int .i64 a] w fun e w' => e = .returned (.tuple #[.slice none 0 0, .int .i64 1]) ∧ Below w.heap.size w w' := by
  go_enter Tryz.func11, Tryz.ntmps11
  go_wp2_with fail
  refine (lookN _ _ _).mono ?_
  rintro e w1 ⟨rfl, hb⟩
  have hc : w1.cell? ⟨w.heap.size, 0, none⟩ = some (.slice none 0 0) := (hb.cell (p := ⟨w.heap.size, 0, none⟩) (by simp)).trans ((cellH (heap_alloc_new w _) 0).trans rfl)
  have HB : Hid (Below w.heap.size w w1) := ((Below.refl _ _).alloc (Nat.le_refl _) _).trans (hb.mono (by simp))
  clear hb
  go_wp2
  go_ret2
  exact ⟨rfl, HB.out⟩
set_option maxRecDepth 100000 in
theorem heldN (a : Int) (w : World) : Calls Tryz.prog 12 #[.pointer none, .int .i64 a] w fun e w' => e = .returned (.tuple #[.int .i64 0, .int .i64 1]) ∧ Below w.heap.size w w' := by
  go_enter Tryz.func12, Tryz.ntmps12
  go_wp2_with fail
  refine (lookN _ _ _).mono ?_
  rintro e w1 ⟨rfl, hb⟩
  have hc : w1.cell? ⟨w.heap.size, 0, none⟩ = some (.int .i64 0) := (hb.cell (p := ⟨w.heap.size, 0, none⟩) (by simp)).trans ((cellH (heap_alloc_new w _) 0).trans rfl)
  have HB : Hid (Below w.heap.size w w1) := ((Below.refl _ _).alloc (Nat.le_refl _) _).trans (hb.mono (by simp))
  clear hb
  go_wp2
  go_ret2
  exact ⟨rfl, HB.out⟩
set_option maxRecDepth 100000 in
theorem missZ (b : Nat) (w : World) (h : w.cell? ⟨b, 0, none⟩ = some (.int .i64 0)) : Calls Tryz.prog 69 #[.pointer (some ⟨b, 0, none⟩)] w fun e w' => e = .returned (.bool true) ∧ w' = w := by
  go_enter Tryz.func69, Tryz.ntmps69
  go_wp2
  go_ret
  exact ⟨rfl, rfl⟩
set_option maxRecDepth 100000 in
theorem shapeZ (b : Nat) (w : World) (h : w.cell? ⟨b, 0, none⟩ = some (.int .i64 0)) : Calls Tryz.prog 45 #[.pointer (some ⟨b, 0, none⟩)] w fun e w' => e = .returned (.tuple #[.int .i64 0, .int .i64 0]) ∧ w' = w := by
  go_enter Tryz.func45, Tryz.ntmps45
  go_wp2_with fail
  refine (missZ b w h).mono ?_
  rintro e w' ⟨rfl, rfl⟩
  go_wp2
  go_ret2
  exact ⟨rfl, rfl⟩
set_option maxRecDepth 100000 in
theorem newZ (b : Nat) (a c : Int) (w : World) (h : w.cell? ⟨b, 0, none⟩ = some (.int .i64 0)) : Calls Tryz.prog 9 #[.pointer (some ⟨b, 0, none⟩), .int .i64 a, .int .i64 c] w fun e w' => e = .returned (.tuple #[.pointer none, .int .i64 23]) ∧ Below w.heap.size w w' := by
  by_cases h0 : 0 ≤ a
  · go_enter Tryz.func9, Tryz.ntmps9
    go_wp2_with fail
    refine (shapeZ b w h).mono ?_
    rintro e w' ⟨rfl, rfl⟩
    go_wp2
    go_ret2
    exact ⟨rfl, Below.refl _ _⟩
  · go_enter Tryz.func9, Tryz.ntmps9
    go_wp2_with fail
    refine (shapeZ b w h).mono ?_
    rintro e w' ⟨rfl, rfl⟩
    go_wp2
    go_ret2
    exact ⟨rfl, Below.refl _ _⟩
set_option maxRecDepth 100000 in
theorem numN (x : Int) (w : World) : Calls Tryz.prog 10 #[.int .i64 x] w fun e w' => e = .returned (.int .i64 x) ∧ Below w.heap.size w w' := by
  go_enter Tryz.func10, Tryz.ntmps10
  go_wp2
  go_ret
  exact ⟨rfl, Below.refl _ _⟩
set_option maxRecDepth 100000 in
set_option maxHeartbeats 6400000 in
theorem cnils_walk (a0 a1 a2 a3 : Int) (w : World) : Calls Tryz.prog 3 #[.int .i64 a0, .int .i64 a1, .int .i64 a2, .int .i64 a3] w fun e w' => e = .returned (.bool true) ∧ Below w.heap.size w w' := by
  have d : BelS w w := Below.refl _ _
  go_enter Tryz.func3, Tryz.ntmps3
  go_wp2_with fail
  refine (newN _ _ _).mono ?_
  rintro e w6 ⟨rfl, hb⟩
  replace d := d.step hb
  clear hb
  go_wp2_with fail
  refine (numN _ _).mono ?_
  rintro e w6 ⟨rfl, hb⟩
  replace d := d.step hb
  clear hb
  go_wp2_with fail
  refine (newZ _ _ _ _ ((cellH (heap_alloc_new _ _) 0).trans rfl)).mono ?_
  rintro e w7 ⟨rfl, hb⟩
  replace d := BelS.step (d.step ((Below.refl _ _).alloc (Nat.le_refl _) _)) hb
  clear hb
  go_wp2_with fail
  refine (numN _ _).mono ?_
  rintro e w6 ⟨rfl, hb⟩
  replace d := d.step hb
  clear hb
  go_wp2_with fail
  refine (listN _ _).mono ?_
  rintro e w6 ⟨rfl, hb⟩
  replace d := d.step hb
  clear hb
  go_wp2_with fail
  refine (heldN _ _).mono ?_
  rintro e w6 ⟨rfl, hb⟩
  replace d := d.step hb
  clear hb
  go_wp2_with fail
  refine (bucketsN _).mono ?_
  rintro e w6 ⟨rfl, hb⟩
  replace d := d.step hb
  clear hb
  go_wp2_with fail
  refine (accN _).mono ?_
  rintro e w6 ⟨rfl, hb⟩
  replace d := d.step hb
  clear hb
  go_wp2_with fail
  refine (numN _ _).mono ?_
  rintro e w6 ⟨rfl, hb⟩
  replace d := d.step hb
  clear hb
  go_wp2_with fail
  refine (numN _ _).mono ?_
  rintro e w6 ⟨rfl, hb⟩
  replace d := d.step hb
  clear hb
  go_wp2_with fail
  refine (insertN _ _ _).mono ?_
  rintro e w6 ⟨rfl, hb⟩
  replace d := d.step hb
  clear hb
  go_wp2_with fail
  refine (walkN _ _).mono ?_
  rintro e w6 ⟨rfl, hb⟩
  replace d := d.step hb
  clear hb
  go_wp2_with fail
  refine (behindN _ _).mono ?_
  rintro e w6 ⟨rfl, hb⟩
  replace d := d.step hb
  clear hb
  go_wp2_with fail
  refine (removeN _ _ _).mono ?_
  rintro e w6 ⟨rfl, hb⟩
  replace d := d.step hb
  clear hb
  go_wp2_with fail
  go_loopw [21] (fun i wr => ∃ k : Nat, k ≤ 2 ∧ i = .int .i64 (k : Int) ∧ BelS w wr) (fun i _ => 2 - (intOf i).toNat)
  case atStart => exact ⟨0, by omega, rfl, d⟩
  case round =>
    obtain ⟨k, hk, rfl, d2⟩ := hrel
    clear d
    have d := d2
    clear d2
    by_cases h2 : k < 2
    · go_wp2_with fail
      refine (iStepN _).mono ?_
      rintro e w6 ⟨rfl, hb⟩
      replace d := d.step hb
      clear hb
      go_wp2_with fail
      refine (iCodeN _).mono ?_
      rintro e w6 ⟨rfl, hb⟩
      replace d := d.step hb
      clear hb
      go_wp2_with fail
      refine (numN _ _).mono ?_
      rintro e w6 ⟨rfl, hb⟩
      replace d := d.step hb
      clear hb
      go_wp2_with fail
      refine (iTriesN _).mono ?_
      rintro e w6 ⟨rfl, hb⟩
      replace d := d.step hb
      clear hb
      go_wp2_with fail
      refine (kStepN _).mono ?_
      rintro e w6 ⟨rfl, hb⟩
      replace d := d.step hb
      clear hb
      go_wp2_with fail
      refine (kCodeN _).mono ?_
      rintro e w6 ⟨rfl, hb⟩
      replace d := d.step hb
      clear hb
      go_wp2_with fail
      refine (numN _ _).mono ?_
      rintro e w6 ⟨rfl, hb⟩
      replace d := d.step hb
      clear hb
      go_wp2_with fail
      refine (kSlotN _).mono ?_
      rintro e w6 ⟨rfl, hb⟩
      replace d := d.step hb
      clear hb
      go_wp2_with fail
      refine (kEndedN _).mono ?_
      rintro e w6 ⟨rfl, hb⟩
      replace d := d.step hb
      clear hb
      go_wp2_with fail
      refine (kStepN _).mono ?_
      rintro e w6 ⟨rfl, hb⟩
      replace d := d.step hb
      clear hb
      go_wp2_with fail
      refine (kCodeN _).mono ?_
      rintro e w6 ⟨rfl, hb⟩
      replace d := d.step hb
      clear hb
      go_wp2_with fail
      refine (numN _ _).mono ?_
      rintro e w6 ⟨rfl, hb⟩
      replace d := d.step hb
      clear hb
      go_wp2_with fail
      refine (kSlotN _).mono ?_
      rintro e w6 ⟨rfl, hb⟩
      replace d := d.step hb
      clear hb
      go_wp2_with fail
      refine (kEndedN _).mono ?_
      rintro e w6 ⟨rfl, hb⟩
      replace d := d.step hb
      clear hb
      go_wp2_with fail
      refine (rStepN _).mono ?_
      rintro e w6 ⟨rfl, hb⟩
      replace d := d.step hb
      clear hb
      go_wp2_with fail
      refine (rCodeN _).mono ?_
      rintro e w6 ⟨rfl, hb⟩
      replace d := d.step hb
      clear hb
      go_wp2_with fail
      refine (numN _ _).mono ?_
      rintro e w6 ⟨rfl, hb⟩
      replace d := d.step hb
      clear hb
      go_wp2_with fail
      refine (rMarkedN _).mono ?_
      rintro e w6 ⟨rfl, hb⟩
      replace d := d.step hb
      clear hb
      go_wp2_with fail
      refine (rHelpedN _).mono ?_
      rintro e w6 ⟨rfl, hb⟩
      replace d := d.step hb
      clear hb
      go_wp2
      go_roundw
      case rel => exact ⟨k + 1, by omega, by go_num, d⟩
      case measure => simp [intOf]; omega
    · go_wp2
      go_ret
      exact ⟨rfl, d⟩
end Go.Proofs.YtadfopnlcpnokaaGreat
