import Derived.Test.YtjcffcpmegpjeaaGreatDoorKeys12
namespace Go.Proofs.YtjcffcpmegpjeaaGreatDoor
open Go.ChangeShapes Go.WideShapes Go.ChangeAt Go.RowKit
set_option linter.unusedVariables false
set_option maxRecDepth 100000

set_option maxRecDepth 100000 in
theorem row0 (b : Value) (xs : List Int) (v : Int × Int × ByteArray) (B : Nat) (w : World) (hB : B ≤ w.heap.size) (hown : ownB w B b xs) (hx : xs.length ≤ 140737488351232) :
    Calls Tryz.prog 122 #[b, .agg #[.int .i64 v.1, .int .i64 v.2.1, .string v.2.2]] w fun e w' => ∃ b', e = .returned b' ∧ ownB w' B b' (xs ++ []) ∧ Below B w w' ∧ Gr b w b' w' := by
  obtain ⟨a, i, t⟩ := v
  have HO : Hid (ownB (w.alloc (valC (a, i, t))) B b xs) := hown.alloc _
  have HB : Hid (Below B w (w.alloc (valC (a, i, t)))) := (Below.refl _ _).alloc hB _
  have HG : Hid (Gr b w b (w.alloc (valC (a, i, t)))) := Gr.alloc _ _ _
  simp only
  rw [List.append_nil]
  clear hown
  go_enter Tryz.func122, Tryz.ntmps122
  go_wp2
  go_ret
  exact ⟨_, rfl, HO.out, HB.out, HG.out⟩
set_option maxRecDepth 100000 in
theorem row1 (b : Value) (xs : List Int) (v : Int × Int × ByteArray) (B : Nat) (w : World) (hB : B ≤ w.heap.size) (hown : ownB w B b xs) (hx : xs.length ≤ 140737488351232) (h0 : 0 ≤ v.2.1) (h1 : v.2.1 ≤ 1) :
    Calls Tryz.prog 127 #[b, .agg #[.int .i64 v.1, .int .i64 v.2.1, .string v.2.2]] w fun e w' => ∃ b', e = .returned b' ∧ ownB w' B b' (xs ++ [v.2.1]) ∧ Below B w w' ∧ Gr b w b' w' := by
  obtain ⟨a, i, t⟩ := v
  have HO : Hid (ownB w B b xs) := hown
  have HB : Hid (Below B w (w.alloc (valC (a, i, t)))) := (Below.refl _ _).alloc hB _
  simp only at h0 h1 ⊢
  clear hown
  have hm : i % 256 = i := by omega
  go_enter Tryz.func127, Tryz.ntmps127
  go_wp2_with (at_builtin; refine app_oneL (by rfl) _ _ (by rfl) B _ xs _ (HO.out.alloc _) (by rfl) (w.heap.size + 1) (by simp) (by rfl) (by omega) (by simp; omega) ?_; intro v' w1 hown1 hbel1 hgr1; have HO1 : Hid _ := hown1; have HB1 : Hid _ := hbel1; have HG1 : Hid (Gr b w v' w1) := (Gr.alloc b w _).trans hgr1; clear hown1 hbel1 hgr1)
  go_ret
  exact ⟨_, rfl, HO1.out, HB.out.trans HB1.out, HG1.out⟩
set_option maxRecDepth 100000 in
theorem kindBytes_any (n : Nat) (w : World) (hn : n ≤ 16) : Calls Tryz.prog 80 #[.int .i64 n] w fun e w' => e = .returned (.int .i64 (((n + 3) / 4 : Nat) : Int)) ∧ w' = w := by
  go_enter Tryz.func80, Tryz.ntmps80
  go_wp2
  go_ret
  exact ⟨ret_t _ (by omega), rfl⟩
set_option maxRecDepth 100000 in
theorem kindShift_any (n : Nat) (w : World) (hn : n ≤ 16) : Calls Tryz.prog 81 #[.int .i64 n] w fun e w' => e = .returned (.int .i64 ((n % 4 * 2 : Nat) : Int)) ∧ w' = w := by
  go_enter Tryz.func81, Tryz.ntmps81
  go_wp2
  go_ret
  exact ⟨ret_t _ (by omega), rfl⟩
end Go.Proofs.YtjcffcpmegpjeaaGreatDoor

namespace Go.Proofs.YtjcffcpmegpjeaaGreatDoor
open Go.ChangeShapes Go.WideShapes Go.ChangeAt Go.RowKit
set_option linter.unusedVariables false
set_option maxRecDepth 100000

set_option maxRecDepth 100000 in
set_option maxHeartbeats 800000 in
theorem layUG (b : Value) (xs : List Int) (v : Int) (B : Nat) (w : World) (h0 : 0 ≤ v) (h1 : v ≤ 18446744073709551615) (hB : B ≤ w.heap.size) (hown : ownB w B b xs) (hx : xs.length ≤ 140737488351232) :
    Calls Tryz.prog 89 #[b, .int .u64 v] w fun e w' => ∃ b', e = .returned b' ∧ ownB w' B b' (xs ++ uvB v) ∧ Below B w w' ∧ Gr b w b' w' := by
  go_enter Tryz.func89, Tryz.ntmps89
  go_wp2
  go_loopw [0, 1] (fun c u wr => ∃ (f : Nat) (y : Int) (done : List Int), f ≤ 9 ∧ 0 ≤ y ∧ y < 128 ^ (f + 1) ∧ u = .int .u64 y ∧ ownB wr B c (xs ++ done) ∧ done.length + f = 9 ∧ done ++ uvF f y = uvB v ∧ Below B w wr ∧ Gr b w c wr) (fun _ u _ => (intOf u).toNat)
  case atStart => exact ⟨9, v, [], by omega, h0, by omega, rfl, by simpa using hown, rfl, rfl, Below.refl _ _, Gr.refl _ _⟩
  case round =>
    obtain ⟨f, y, done, hf, hy0, hy1, rfl, hown1, hdl, hd, hbel, hgr⟩ := hrel
    have HG : Hid (Gr b w _ wr) := hgr
    have HD : Hid (done ++ uvF f y = uvB v) := hd
    have HB : Hid (Below B w wr) := hbel
    have hBr : B ≤ wr.heap.size := by have := hbel.size; omega
    have HO : Hid (ownB wr B _ (xs ++ done)) := hown1
    clear hd hbel hown1 hgr
    by_cases hlt : 128 ≤ y
    · obtain ⟨f', rfl⟩ : ∃ f', f = f' + 1 := by
        cases f with
        | zero => simp at hy1; omega
        | succ f' => exact ⟨f', rfl⟩
      have hor := or128 y
      have hy2 : y / 128 < 128 ^ (f' + 1) := by
        rw [Int.pow_succ] at hy1
        omega
      clear hy1
      have HY : Hid (y / 128 < 128 ^ (f' + 1)) := hy2
      clear hy2
      go_wp2_with (at_builtin; refine app_oneL (by rfl) _ _ (by rfl) B _ (xs ++ done) _ HO.out (by rfl) _ (by rfl) (by rfl) (by simp; omega) hBr ?_; intro v' w1 hown1 hbel1 hgr1; have HO1 : Hid _ := hown1; have HB1 : Hid _ := hbel1; have HG1 : Hid (Gr _ wr v' w1) := hgr1; clear hown1 hbel1 hgr1)
      go_roundw
      case rel => exact ⟨f', y / 128, done ++ [y % 128 + 128], by omega, by omega, HY.out, rfl, by rw [← List.append_assoc]; exact HO1.out, by simp; omega, by rw [List.append_assoc, List.singleton_append, ← uvF_great f' y hlt]; exact HD.out, HB.out.trans HB1.out, HG.out.trans HG1.out⟩
      case measure => simp [intOf]; omega
    · have hm : y % 256 = y := by omega
      go_wp2_with (at_builtin; refine app_oneL (by rfl) _ _ (by rfl) B _ (xs ++ done) _ HO.out (by rfl) _ (by rfl) (by rfl) (by simp; omega) hBr ?_; intro v' w1 hown1 hbel1 hgr1; have HO1 : Hid _ := hown1; have HB1 : Hid _ := hbel1; have HG1 : Hid (Gr _ wr v' w1) := hgr1; clear hown1 hbel1 hgr1)
      go_ret
      refine ⟨_, rfl, ?_, HB.out.trans HB1.out, HG.out.trans HG1.out⟩
      rw [← HD.out, uvF_small f y (by omega), ← List.append_assoc]
      exact HO1.out
end Go.Proofs.YtjcffcpmegpjeaaGreatDoor
