import Derived.Test.YtdjklcmkcccpeaaGreatCells6E
namespace Go.Proofs.YtdjklcmkcccpeaaGreat
open Go.ChangeShapes Go.WideShapes Go.ChangeAt Go.RowKit
set_option linter.unusedVariables false
theorem infoP : (Tryz.prog.info? 215).map (fun i => (i.zero, i.size, i.bytes)) = some (some (.agg #[.int .u32 0, .string ⟨#[]⟩, .string ⟨#[]⟩, .int .i64 0, .int .i64 0]), 5, 56) := by kernel_rfl
theorem Made.fill {w W : World} {s u n wd : Nat} (h : Made w s u n wd W) (h1 : 1 ≤ n) (h2 : n ≤ 4096) (h3 : 1 ≤ wd) (h4 : wd ≤ 16) : Calls Tryz.prog 61 #[.pointer (some ⟨w.heap.size + 2, 9, none⟩), .int .i64 (n : Int)] W fun e w' => e = .returned (.tuple #[]) ∧ Hid (Holds w' ⟨w.heap.size + 2, s, u, w.heap.size + 3⟩ (.fresh n wd) ∧ Below w.heap.size w w') := by
  have hsz := h.size
  refine (fill_any (w.heap.size + 2) 9 n W (by omega) (by omega) (by omega) ((cell?_heap h.a _).trans rfl) ((cell?_heap h.a _).trans rfl) ((cell?_heap h.a _).trans rfl) (frozen?_heap h.a _) (frozen?_heap h.a _)).mono ?_
  rintro e w' ⟨rfl, hf⟩
  exact ⟨rfl, h.holds ⟨h1, h2⟩ ⟨h3, h4⟩ hf⟩
set_option maxRecDepth 100000 in
set_option maxHeartbeats 1600000 in
theorem new_ok (n wd : Nat) (w : World) (h1 : 1 ≤ n) (h2 : n ≤ 4096) (h3 : 1 ≤ wd) (h4 : wd ≤ 16) : Calls Tryz.prog 38 #[.int .i64 (n : Int), .int .i64 (wd : Int)] w fun e w' => ∃ s u, e = .returned (.tuple #[.pointer (some ⟨w.heap.size + 2, 0, none⟩), .int .i64 0]) ∧ (s = w.heap.size ∧ u = w.heap.size + 1 ∨ s = w.heap.size + 1 ∧ u = w.heap.size) ∧ Holds w' ⟨w.heap.size + 2, s, u, w.heap.size + 3⟩ (.fresh n wd) ∧ Below w.heap.size w w' := by
  have i1 : ¬ (n : Int) < 1 := by omega
  have i2 : ¬ (n : Int) > 4096 := by omega
  have i3 : ¬ (wd : Int) < 1 := by omega
  have i4 : ¬ (wd : Int) > 16 := by omega
  have hnw : n * wd ≤ 65536 := Nat.le_trans (Nat.mul_le_mul h2 h4) (by decide)
  have hm1 := run_make_any (P := Tryz.prog) 121 215 _ 5 56 Tryz.underlying121 infoP n (by omega) (by omega)
  have hm2 := run_make_any (P := Tryz.prog) 122 148 _ 1 8 Tryz.underlying122 infoU (n * wd) (by omega) (by omega)
  have hw : IntKind.i64.wrap ((n : Int) * (wd : Int)) = ((n * wd : Nat) : Int) := by rw [IntKind.wrap_i64, ← Int.natCast_mul]; omega
  have HM1 : Hid (Made w _ _ n wd _) := Made.one w n wd
  have HM2 : Hid (Made w _ _ n wd _) := Made.two w n wd
  rw [Int.natCast_mul] at hw hm2
  go_enter Tryz.func38, Tryz.ntmps38
  go_wp2_with fail
  refine wp_twice ?_
  refine ⟨?_, ?_, ?_, ?_, ?_, ?_, ?_⟩
  rotate_left 4
  · go_region_with (fail)
    all_goals first | exact Post2.one _ _ _ _ | exact Post2.two _ _ _ _
  · clear hm1 hm2 hw hnw HM2
    go_wp2_with fail
    refine (HM1.out.fill h1 h2 h3 h4).mono ?_
    rintro e w' ⟨rfl, HF⟩
    clear HM1
    go_wp2
    go_ret2
    exact ⟨_, _, rfl, Or.inl ⟨rfl, rfl⟩, HF.out.1, HF.out.2⟩
  · clear hm1 hm2 hw hnw HM1
    go_wp2_with fail
    refine (HM2.out.fill h1 h2 h3 h4).mono ?_
    rintro e w' ⟨rfl, HF⟩
    clear HM2
    go_wp2
    go_ret2
    exact ⟨_, _, rfl, Or.inr ⟨rfl, rfl⟩, HF.out.1, HF.out.2⟩
end Go.Proofs.YtdjklcmkcccpeaaGreat
