import Derived.Test.YtfabgoanammaiaaKeys12
namespace Go.Proofs.Ytfabgoanammaiaa
open Go.ChangeShapes Go.WideShapes Go.ChangeAt Go.RowKit
set_option linter.unusedVariables false

set_option maxRecDepth 100000 in
theorem row0 (b : Value) (xs : List Int) (v : Int × Int × ByteArray) (B : Nat) (w : World) (hB : B ≤ w.heap.size) (hown : ownB w B b xs) (hx : xs.length ≤ 140737488351232) :
    Calls Try.prog 46 #[b, .agg #[.int .i64 v.1, .int .i64 v.2.1, .string v.2.2]] w fun e w' => ∃ b', e = .returned b' ∧ ownB w' B b' (xs ++ []) ∧ Below B w w' ∧ Gr b w b' w' := by
  obtain ⟨a, i, t⟩ := v
  have HO : Hid (ownB (w.alloc (valC (a, i, t))) B b xs) := hown.alloc _
  have HB : Hid (Below B w (w.alloc (valC (a, i, t)))) := (Below.refl _ _).alloc hB _
  have HG : Hid (Gr b w b (w.alloc (valC (a, i, t)))) := Gr.alloc _ _ _
  simp only
  rw [List.append_nil]
  clear hown
  go_enter Try.func46, Try.ntmps46
  go_wp2
  go_ret
  exact ⟨_, rfl, HO.out, HB.out, HG.out⟩
set_option maxRecDepth 100000 in
theorem row1 (b : Value) (xs : List Int) (v : Int × Int × ByteArray) (B : Nat) (w : World) (hB : B ≤ w.heap.size) (hown : ownB w B b xs) (hx : xs.length ≤ 140737488351232) (h0 : 0 ≤ v.2.1) (h1 : v.2.1 ≤ 1) :
    Calls Try.prog 51 #[b, .agg #[.int .i64 v.1, .int .i64 v.2.1, .string v.2.2]] w fun e w' => ∃ b', e = .returned b' ∧ ownB w' B b' (xs ++ [v.2.1]) ∧ Below B w w' ∧ Gr b w b' w' := by
  obtain ⟨a, i, t⟩ := v
  have HO : Hid (ownB w B b xs) := hown
  have HB : Hid (Below B w (w.alloc (valC (a, i, t)))) := (Below.refl _ _).alloc hB _
  simp only at h0 h1 ⊢
  clear hown
  have hm : i % 256 = i := by omega
  go_enter Try.func51, Try.ntmps51
  go_wp2_with (at_builtin; refine app_oneL (by rfl) _ _ (by rfl) B _ xs _ (HO.out.alloc _) (by rfl) (w.heap.size + 1) (by simp) (by rfl) (by omega) (by simp; omega) ?_; intro v' w1 hown1 hbel1 hgr1; have HO1 : Hid _ := hown1; have HB1 : Hid _ := hbel1; have HG1 : Hid (Gr b w v' w1) := (Gr.alloc b w _).trans hgr1; clear hown1 hbel1 hgr1)
  go_ret
  exact ⟨_, rfl, HO1.out, HB.out.trans HB1.out, HG1.out⟩
set_option maxRecDepth 100000 in
theorem kindBytes_any (n : Nat) (w : World) (hn : n ≤ 16) : Calls Try.prog 24 #[.int .i64 n] w fun e w' => e = .returned (.int .i64 (((n + 3) / 4 : Nat) : Int)) ∧ w' = w := by
  go_enter Try.func24, Try.ntmps24
  go_wp2
  go_ret
  exact ⟨ret_t _ (by omega), rfl⟩
set_option maxRecDepth 100000 in
theorem kindShift_any (n : Nat) (w : World) (hn : n ≤ 16) : Calls Try.prog 25 #[.int .i64 n] w fun e w' => e = .returned (.int .i64 ((n % 4 * 2 : Nat) : Int)) ∧ w' = w := by
  go_enter Try.func25, Try.ntmps25
  go_wp2
  go_ret
  exact ⟨ret_t _ (by omega), rfl⟩
end Go.Proofs.Ytfabgoanammaiaa
