import Derived.Test.YtfabgoanammaiaaRows2
import Derived.Test.YtfabgoanammaiaaNumbers
namespace Go.Proofs.Ytfabgoanammaiaa
open Go.ChangeShapes Go.WideShapes Go.ChangeAt Go.RowKit
set_option linter.unusedVariables false

set_option maxRecDepth 100000 in
theorem laySG (b : Value) (xs : List Int) (v : Int) (B : Nat) (w : World) (h0 : -9223372036854775808 ≤ v) (h1 : v ≤ 9223372036854775807) (hB : B ≤ w.heap.size) (hown : ownB w B b xs) (hx : xs.length ≤ 140737488351232) :
    Calls Try.prog 71 #[b, .int .i64 v] w fun e w' => ∃ b', e = .returned b' ∧ ownB w' B b' (xs ++ uvB (svV v)) ∧ Below B w w' ∧ Gr b w b' w' := by
  go_enter Try.func71, Try.ntmps71
  go_wp2_with fail
  rw [IntKind.wrap_u64, IntKind.wrap_u64, IntKind.wrap_u64, xor_sign v h0 h1]
  have hb := svV_bounds v h0 h1
  refine (layUG _ xs _ B w hb.1 hb.2 hB hown hx).mono ?_
  rintro e w1 ⟨b', rfl, hown, hbel, hgr⟩
  have HB : Hid _ := hbel
  have HO : Hid _ := hown
  have HG : Hid (Gr b w b' w1) := hgr
  clear hown hbel hgr
  go_wp2
  go_ret
  exact ⟨_, rfl, HO.out, HB.out, HG.out⟩
set_option maxRecDepth 100000 in
theorem row2 (b : Value) (xs : List Int) (v : Int × Int × ByteArray) (B : Nat) (w : World) (hB : B ≤ w.heap.size) (hown : ownB w B b xs) (hx : xs.length ≤ 140737488351232) (h0 : -9223372036854775808 ≤ v.2.1) (h1 : v.2.1 ≤ 9223372036854775807) :
    Calls Try.prog 56 #[b, .agg #[.int .i64 v.1, .int .i64 v.2.1, .string v.2.2]] w fun e w' => ∃ b', e = .returned b' ∧ ownB w' B b' (xs ++ uvB (svV v.2.1)) ∧ Below B w w' ∧ Gr b w b' w' := by
  obtain ⟨a, i, t⟩ := v
  have HO : Hid (ownB w B b xs) := hown
  have HB : Hid (Below B w (w.alloc (.cells #[.int .i64 a, .int .i64 i, .string t] 45))) := (Below.refl _ _).alloc hB _
  simp only at h0 h1 ⊢
  clear hown
  go_enter Try.func56, Try.ntmps56
  go_wp2_with fail
  refine (laySG _ xs i B _ h0 h1 (Nat.le_trans hB (Nat.le_of_lt (lt_alloc _ _))) (HO.out.alloc _) hx).mono ?_
  rintro e w1 ⟨b', rfl, hown1, hbel1, hgr1⟩
  have HO1 : Hid (ownB w1 B b' (xs ++ uvB (svV i))) := hown1
  have HB1 : Hid _ := hbel1
  have HG1 : Hid (Gr b w b' w1) := (Gr.alloc b w _).trans hgr1
  clear hown1 hbel1 hgr1
  go_wp2
  go_ret
  exact ⟨_, rfl, HO1.out, HB.out.trans HB1.out, HG1.out⟩
end Go.Proofs.Ytfabgoanammaiaa
