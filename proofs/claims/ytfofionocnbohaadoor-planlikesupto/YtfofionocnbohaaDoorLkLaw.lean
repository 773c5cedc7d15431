import Derived.Test.YtfofionocnbohaaDoorLkR4
namespace Go.Proofs.YtfofionocnbohaaDoor
open Go.ChangeShapes Go.WideShapes Go.ChangeAt Go.RowKit
set_option linter.unusedVariables false
set_option maxRecDepth 100000
theorem likeT (t p : ByteArray) (w : World) (ht : t.size < 4294967281) (hp : p.size < 4294967281) :
    Calls Tryd.prog 4 #[.string t, .string p] w fun e w' => e = .returned (.bool (lkA (chL t.data.toList) (chL p.data.toList))) ∧ Below w.heap.size w w' := by
  have HC : Hid (∀ _ : Unit, _) := fun _ => lkT t p w ht hp
  have HE : Hid (lkA (chL t.data.toList) (chL p.data.toList) = grA (pcsC p) (chL t.data.toList)) := like_all t p
  rw [HE.out]
  generalize grA (pcsC p) (chL t.data.toList) = b at *
  go_enter Tryd.func4, Tryd.ntmps4
  go_wp2_with fail
  refine (HC.out ()).mono ?_
  rintro e w1 ⟨rfl, hb⟩
  go_wp2
  go_ret
  exact ⟨rfl, hb⟩
theorem likes_walk (t p : ByteArray) (w : World) (ht : t.size ≤ 1048576) (hp : p.size ≤ 1048576) :
    Calls Tryd.prog 3 #[.string t, .string p] w fun e w' => e = .returned (.bool true) ∧ Below w.heap.size w w' := by
  have HC : Hid (∀ w : World, _) := fun w => likeT t p w (by omega) (by omega)
  have HD : Hid (∀ w : World, _) := fun w => likeR t p w (by omega) (by omega)
  generalize lkA (chL t.data.toList) (chL p.data.toList) = b at *
  go_enter Tryd.func3, Tryd.ntmps3
  go_wp2_with fail
  refine (HC.out _).mono ?_
  rintro e w1 ⟨rfl, hb⟩
  have HB : Hid _ := hb
  clear hb
  go_wp2_with fail
  refine (HD.out _).mono ?_
  rintro e w2 ⟨rfl, hb2⟩
  have HB2 : Hid _ := hb2
  have hbb : (b == b) = true := beq_self_eq_true b
  clear hb2
  go_wp2
  go_ret
  exact ⟨rfl, Below.trans HB.out (HB2.out.mono HB.out.size)⟩
end Go.Proofs.YtfofionocnbohaaDoor
