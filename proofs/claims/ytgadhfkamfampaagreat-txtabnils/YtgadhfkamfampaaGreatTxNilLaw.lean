import Derived.Test.YtgadhfkamfampaaGreatTxNil
namespace Go.Proofs.YtgadhfkamfampaaGreat
open Go.ChangeShapes Go.WideShapes Go.ChangeAt Go.RowKit
set_option linter.unusedVariables false
set_option maxRecDepth 100000
set_option maxHeartbeats 6400000 in
theorem nilTable_walk (w : World) : Calls Tryz.prog 30 #[] w fun e w' => e = .returned (.bool true) ∧ Below w.heap.size w w' := by
  have d : BelS w w := Below.refl _ _
  go_enter Tryz.func30, Tryz.ntmps30
  go_wp2_with fail
  refine (clockN _).mono ?_
  rintro e w1 ⟨rfl, hb⟩
  replace d := d.step hb
  clear hb
  go_wp2_with fail
  refine (tickN _).mono ?_
  rintro e w2 ⟨rfl, hb⟩
  replace d := d.step hb
  clear hb
  go_wp2_with fail
  refine (openN _ _ _).mono ?_
  rintro e w3 ⟨rfl, hb⟩
  replace d := d.step hb
  clear hb
  go_wp2_with fail
  refine (infoN _ _).mono ?_
  rintro e w4 ⟨rfl, hb⟩
  replace d := d.step hb
  clear hb
  go_wp2_with fail
  have HI : Hid ((w4.alloc (.cells #[.int .i64 0, .int .i64 0] 67)).heap[w4.heap.size]? = some (.cells #[.int .i64 0, .int .i64 0] 67 (0, 0)) ∧ w4.heap.size < (w4.alloc (.cells #[.int .i64 0, .int .i64 0] 67)).heap.size) := ⟨heap_alloc_new _ _, by rw [sizeA]; exact Nat.lt_succ_self _⟩
  replace d := d.step ((Below.refl _ _).alloc (Nat.le_refl _) (.cells #[.int .i64 0, .int .i64 0] 67))
  generalize w4.alloc (.cells #[.int .i64 0, .int .i64 0] 67) = W at *
  generalize w4.heap.size = k at *
  go_wp2_with fail
  refine (stateN _ _).mono ?_
  rintro e w5 ⟨rfl, hb⟩
  replace d := d.step hb
  replace HI : Hid (w5.heap[k]? = some (.cells #[.int .i64 0, .int .i64 0] 67 (0, 0)) ∧ k < w5.heap.size) := ⟨(hb.block k HI.out.2).trans HI.out.1, Nat.lt_of_lt_of_le HI.out.2 hb.size⟩
  clear hb
  go_wp2_with fail
  refine (announcedN _ _).mono ?_
  rintro e w6 ⟨rfl, hb⟩
  replace d := d.step hb
  replace HI : Hid (w6.heap[k]? = some (.cells #[.int .i64 0, .int .i64 0] 67 (0, 0)) ∧ k < w6.heap.size) := ⟨(hb.block k HI.out.2).trans HI.out.1, Nat.lt_of_lt_of_le HI.out.2 hb.size⟩
  clear hb
  go_wp2_with fail
  refine (endN _ _).mono ?_
  rintro e w7 ⟨rfl, hb⟩
  replace d := d.step hb
  replace HI : Hid (w7.heap[k]? = some (.cells #[.int .i64 0, .int .i64 0] 67 (0, 0)) ∧ k < w7.heap.size) := ⟨(hb.block k HI.out.2).trans HI.out.1, Nat.lt_of_lt_of_le HI.out.2 hb.size⟩
  clear hb
  go_wp2_with fail
  refine (waitsN _ _).mono ?_
  rintro e w8 ⟨rfl, hb⟩
  replace d := d.step hb
  replace HI : Hid (w8.heap[k]? = some (.cells #[.int .i64 0, .int .i64 0] 67 (0, 0)) ∧ k < w8.heap.size) := ⟨(hb.block k HI.out.2).trans HI.out.1, Nat.lt_of_lt_of_le HI.out.2 hb.size⟩
  clear hb
  go_wp2_with fail
  refine (freeN _ _).mono ?_
  rintro e w9 ⟨rfl, hb⟩
  replace d := d.step hb
  replace HI : Hid (w9.heap[k]? = some (.cells #[.int .i64 0, .int .i64 0] 67 (0, 0)) ∧ k < w9.heap.size) := ⟨(hb.block k HI.out.2).trans HI.out.1, Nat.lt_of_lt_of_le HI.out.2 hb.size⟩
  clear hb
  go_wp2_with fail
  refine (moveN _ _ _).mono ?_
  rintro e w10 ⟨rfl, hb⟩
  replace d := d.step hb
  replace HI : Hid (w10.heap[k]? = some (.cells #[.int .i64 0, .int .i64 0] 67 (0, 0)) ∧ k < w10.heap.size) := ⟨(hb.block k HI.out.2).trans HI.out.1, Nat.lt_of_lt_of_le HI.out.2 hb.size⟩
  clear hb
  go_wp2_with fail
  refine (announceN _ _ _).mono ?_
  rintro e w11 ⟨rfl, hb⟩
  replace d := d.step hb
  replace HI : Hid (w11.heap[k]? = some (.cells #[.int .i64 0, .int .i64 0] 67 (0, 0)) ∧ k < w11.heap.size) := ⟨(hb.block k HI.out.2).trans HI.out.1, Nat.lt_of_lt_of_le HI.out.2 hb.size⟩
  clear hb
  go_wp2_with fail
  refine (retireN _ _ _).mono ?_
  rintro e w12 ⟨rfl, hb⟩
  replace d := d.step hb
  replace HI : Hid (w12.heap[k]? = some (.cells #[.int .i64 0, .int .i64 0] 67 (0, 0)) ∧ k < w12.heap.size) := ⟨(hb.block k HI.out.2).trans HI.out.1, Nat.lt_of_lt_of_le HI.out.2 hb.size⟩
  clear hb
  go_wp2_with fail
  refine (dropN _ _).mono ?_
  rintro e w13 ⟨rfl, hb⟩
  replace d := d.step hb
  replace HI : Hid (w13.heap[k]? = some (.cells #[.int .i64 0, .int .i64 0] 67 (0, 0)) ∧ k < w13.heap.size) := ⟨(hb.block k HI.out.2).trans HI.out.1, Nat.lt_of_lt_of_le HI.out.2 hb.size⟩
  clear hb
  have hc0 : w13.cell? ⟨k, 0, none⟩ = some (.int .i64 0) := (cellH HI.out.1 0).trans rfl
  have hc1 : w13.cell? ⟨k, 1, none⟩ = some (.int .i64 0) := (cellH HI.out.1 1).trans rfl
  go_wp2_with fail
  refine (lookN _ _).mono ?_
  rintro e w14 ⟨rfl, hb⟩
  replace d := d.step hb
  clear hb
  go_wp2_with fail
  refine (horizonN _).mono ?_
  rintro e w15 ⟨rfl, hb⟩
  replace d := d.step hb
  clear hb
  go_wp2_with fail
  refine (placesN _).mono ?_
  rintro e w16 ⟨rfl, hb⟩
  replace d := d.step hb
  clear hb
  go_wp2_with fail
  refine (accessesN _).mono ?_
  rintro e w17 ⟨rfl, hb⟩
  replace d := d.step hb
  clear hb
  go_wp2_with fail
  refine (missesN _).mono ?_
  rintro e w18 ⟨rfl, hb⟩
  replace d := d.step hb
  clear hb
  go_wp2_with fail
  refine (waitingN _).mono ?_
  rintro e w19 ⟨rfl, hb⟩
  replace d := d.step hb
  clear hb
  go_wp2_with fail
  refine (liveN _).mono ?_
  rintro e w20 ⟨rfl, hb⟩
  replace d := d.step hb
  clear hb
  go_wp2
  go_ret
  exact ⟨rfl, d⟩
set_option maxHeartbeats 6400000 in
theorem txnils_walk (w : World) : Calls Tryz.prog 3 #[] w fun e w' => e = .returned (.bool true) ∧ Below w.heap.size w w' := by
  have d : BelS w w := Below.refl _ _
  go_enter Tryz.func3, Tryz.ntmps3
  go_wp2_with fail
  refine (mkStartN _ _).mono ?_
  rintro e w21 ⟨rfl, hb⟩
  replace d := d.step hb
  clear hb
  go_wp2_with fail
  refine (mkDrawN _ _).mono ?_
  rintro e w22 ⟨rfl, hb⟩
  replace d := d.step hb
  clear hb
  go_wp2_with fail
  refine (mkDependN _ _ _).mono ?_
  rintro e w23 ⟨rfl, hb⟩
  replace d := d.step hb
  clear hb
  go_wp2_with fail
  refine (mkCloseN _ _).mono ?_
  rintro e w24 ⟨rfl, hb⟩
  replace d := d.step hb
  clear hb
  go_wp2_with fail
  refine (mkFloorN _).mono ?_
  rintro e w25 ⟨rfl, hb⟩
  replace d := d.step hb
  clear hb
  go_wp2_with fail
  refine (mkLeaveN _ _).mono ?_
  rintro e w26 ⟨rfl, hb⟩
  replace d := d.step hb
  clear hb
  go_wp2_with fail
  refine (mkQuitN _ _).mono ?_
  rintro e w27 ⟨rfl, hb⟩
  replace d := d.step hb
  clear hb
  go_wp2_with fail
  refine (stepStartN _).mono ?_
  rintro e w28 ⟨rfl, hb⟩
  replace d := d.step hb
  clear hb
  go_wp2_with fail
  refine (stepDrawN _).mono ?_
  rintro e w29 ⟨rfl, hb⟩
  replace d := d.step hb
  clear hb
  go_wp2_with fail
  refine (stepDependN _).mono ?_
  rintro e w30 ⟨rfl, hb⟩
  replace d := d.step hb
  clear hb
  go_wp2_with fail
  refine (stepCloseN _).mono ?_
  rintro e w31 ⟨rfl, hb⟩
  replace d := d.step hb
  clear hb
  go_wp2_with fail
  refine (stepFloorN _).mono ?_
  rintro e w32 ⟨rfl, hb⟩
  replace d := d.step hb
  clear hb
  go_wp2_with fail
  refine (stepLeaveN _).mono ?_
  rintro e w33 ⟨rfl, hb⟩
  replace d := d.step hb
  clear hb
  go_wp2_with fail
  refine (stepQuitN _).mono ?_
  rintro e w34 ⟨rfl, hb⟩
  replace d := d.step hb
  clear hb
  go_wp2_with fail
  refine (codeStartN _).mono ?_
  rintro e w35 ⟨rfl, hb⟩
  replace d := d.step hb
  clear hb
  go_wp2_with fail
  refine (codeDrawN _).mono ?_
  rintro e w36 ⟨rfl, hb⟩
  replace d := d.step hb
  clear hb
  go_wp2_with fail
  refine (codeDependN _).mono ?_
  rintro e w37 ⟨rfl, hb⟩
  replace d := d.step hb
  clear hb
  go_wp2_with fail
  refine (codeCloseN _).mono ?_
  rintro e w38 ⟨rfl, hb⟩
  replace d := d.step hb
  clear hb
  go_wp2_with fail
  refine (codeFloorN _).mono ?_
  rintro e w39 ⟨rfl, hb⟩
  replace d := d.step hb
  clear hb
  go_wp2_with fail
  refine (codeLeaveN _).mono ?_
  rintro e w40 ⟨rfl, hb⟩
  replace d := d.step hb
  clear hb
  go_wp2_with fail
  refine (codeQuitN _).mono ?_
  rintro e w41 ⟨rfl, hb⟩
  replace d := d.step hb
  clear hb
  go_wp2_with fail
  refine (beginN _).mono ?_
  rintro e w42 ⟨rfl, hb⟩
  replace d := d.step hb
  clear hb
  go_wp2_with fail
  refine (dEndN _).mono ?_
  rintro e w43 ⟨rfl, hb⟩
  replace d := d.step hb
  clear hb
  go_wp2_with fail
  refine (cameN _).mono ?_
  rintro e w44 ⟨rfl, hb⟩
  replace d := d.step hb
  clear hb
  go_wp2_with fail
  refine (toldN _).mono ?_
  rintro e w45 ⟨rfl, hb⟩
  replace d := d.step hb
  clear hb
  go_wp2_with fail
  refine (floorN _).mono ?_
  rintro e w46 ⟨rfl, hb⟩
  replace d := d.step hb
  clear hb
  go_wp2_with fail
  refine (nilTable_walk _).mono ?_
  rintro e w47 ⟨rfl, hb⟩
  replace d := d.step hb
  clear hb
  go_wp2
  go_ret
  exact ⟨rfl, d⟩
end Go.Proofs.YtgadhfkamfampaaGreat
