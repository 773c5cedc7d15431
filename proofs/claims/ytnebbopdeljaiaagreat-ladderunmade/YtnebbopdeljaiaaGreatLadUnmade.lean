import Derived.Test.YtnebbopdeljaiaaGreatLadNil
namespace Go.Proofs.YtnebbopdeljaiaaGreat
open Go.ChangeShapes Go.WideShapes Go.ChangeAt Go.RowKit
set_option linter.unusedVariables false
set_option maxRecDepth 100000
set_option maxHeartbeats 6400000 in
theorem unmade_walk (a0 a1 a2 : Int) (s : ByteArray) (w : World) : Calls Tryz.prog 3 #[.int .i64 a0, .int .i64 a1, .int .i64 a2, .string s] w fun e w' => e = .returned (.bool true) ∧ Below w.heap.size w w' := by
  have d : BelS w w := Below.refl _ _
  go_enter Tryz.func3, Tryz.ntmps3
  go_wp2_with fail
  refine (newN _ _ _ _ (missZ _ _ ((cellH (heap_alloc_new _ _) 0).trans rfl))).mono ?_
  rintro e w1 ⟨rfl, hb⟩
  replace d := (d.step ((Below.refl _ _).alloc (Nat.le_refl _) _)).step hb
  clear hb
  go_wp2_with fail
  refine (numN _ _).mono ?_
  rintro e w2 ⟨rfl, hb⟩
  replace d := d.step hb
  clear hb
  go_wp2_with fail
  have hz : w2.heap.size < (w2.alloc (.cells #[.pointer none, .int .i64 0, .int .i64 0, .int .u64 0, .int .u64 0, .int .u64 0, .int .u64 0, .int .i64 0] 57)).heap.size := by simp
  have hc : (w2.alloc (.cells #[.pointer none, .int .i64 0, .int .i64 0, .int .u64 0, .int .u64 0, .int .u64 0, .int .u64 0, .int .i64 0] 57)).cell? ⟨w2.heap.size, 2, none⟩ = some (.int .i64 0) := (cellH (heap_alloc_new _ _) 2).trans rfl
  replace d := d.step ((Below.refl _ _).alloc (Nat.le_refl _) (.cells #[.pointer none, .int .i64 0, .int .i64 0, .int .u64 0, .int .u64 0, .int .u64 0, .int .u64 0, .int .i64 0] 57))
  generalize w2.alloc (.cells #[.pointer none, .int .i64 0, .int .i64 0, .int .u64 0, .int .u64 0, .int .u64 0, .int .u64 0, .int .i64 0] 57) = W at *
  generalize w2.heap.size = z at *
  have HZ : Hid (∀ W', Below W.heap.size W W' → NoLad W' (some ⟨z, 0, none⟩)) := fun W' hW => noLad_zero W' z ((hW.cell (p := ⟨z, 2, none⟩) hz).trans hc)
  have HW : Hid (Below W.heap.size W W) := Below.refl _ _
  clear hz hc
  refine (listN _ _ _ HZ.out).mono ?_
  rintro e w3 ⟨rfl, hb⟩
  replace d := d.step hb
  replace HW : Hid (Below W.heap.size W w3) := HW.out.trans hb
  clear hb
  go_wp2_with fail
  refine (heldN _ _ _ (fun W2 h2 => HZ.out W2 (HW.out.trans (h2.mono HW.out.size)))).mono ?_
  rintro e w4 ⟨rfl, hb⟩
  replace d := d.step hb
  replace HW : Hid (Below W.heap.size W w4) := HW.out.trans (hb.mono HW.out.size)
  clear hb
  go_wp2_with fail
  refine (insertN _ _ _ (HZ.out _ HW.out)).mono ?_
  rintro e w5 ⟨rfl, hb⟩
  replace d := d.step hb
  replace HW : Hid (Below W.heap.size W w5) := HW.out.trans (hb.mono HW.out.size)
  clear hb
  go_wp2_with fail
  refine (removeN _ _ _ (HZ.out _ HW.out)).mono ?_
  rintro e w6 ⟨rfl, hb⟩
  replace d := d.step hb
  replace HW : Hid (Below W.heap.size W w6) := HW.out.trans (hb.mono HW.out.size)
  clear hb
  go_wp2_with fail
  refine (walkN _ _ _ (HZ.out _ HW.out)).mono ?_
  rintro e w7 ⟨rfl, hb⟩
  replace d := d.step hb
  replace HW : Hid (Below W.heap.size W w7) := HW.out.trans (hb.mono HW.out.size)
  clear hb
  go_wp2_with fail
  refine (numN _ _).mono ?_
  rintro e w8 ⟨rfl, hb⟩
  replace d := d.step hb
  replace HW : Hid (Below W.heap.size W w8) := HW.out.trans (hb.mono HW.out.size)
  clear hb
  go_wp2_with fail
  refine (numN _ _).mono ?_
  rintro e w9 ⟨rfl, hb⟩
  replace d := d.step hb
  replace HW : Hid (Below W.heap.size W w9) := HW.out.trans (hb.mono HW.out.size)
  clear hb
  go_wp2
  go_ret
  exact ⟨rfl, d⟩
end Go.Proofs.YtnebbopdeljaiaaGreat
