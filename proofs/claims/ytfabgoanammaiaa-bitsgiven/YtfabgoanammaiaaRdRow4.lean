import Derived.Test.YtfabgoanammaiaaRdRow3
namespace Go.Proofs.Ytfabgoanammaiaa
open Go.ChangeShapes Go.WideShapes Go.ChangeAt Go.RowKit
set_option linter.unusedVariables false

set_option maxRecDepth 100000 in
theorem readRow_any (s : ByteArray) (w : World) (hs : s.size ≤ 1125899906842624) :
    Calls Try.prog 11 #[.string s] w fun e w' => (((rrL s 0).2.2 = 0 → ∃ v, e = .returned (.tuple #[v, .int .i64 0]) ∧ ownV w' w.heap.size v (rrL s 0).1) ∧ ((rrL s 0).2.2 ≠ 0 → e = .returned (.tuple #[.slice none 0 0, .int .i64 (rrL s 0).2.2]))) ∧ Below w.heap.size w w' := by
  have hC := readW_core s 0 w (rrL s 0) (Nat.zero_le _) hs (fun R w h => row_read R s 0 w h (Nat.zero_le _) hs)
  go_enter Try.func11, Try.ntmps11
  go_wp2_with fail
  refine hC.mono ?_
  rintro e w1 ⟨⟨h0, h1⟩, hb⟩
  by_cases hc : (rrL s 0).2.2 = 0
  · obtain ⟨v, rfl, hown⟩ := h0 hc
    obtain ⟨va, vn, vc, rfl⟩ := hown.form
    have HO : Hid (ownV w1 w.heap.size (.slice va vn vc) (rrL s 0).1) := hown
    have HB : Hid (Below w.heap.size w w1) := hb
    have HC : Hid ((rrL s 0).2.2 = 0) := hc
    clear hown hb hc h0 h1 hC
    go_wp2
    go_ret2
    exact ⟨⟨fun _ => ⟨_, rfl, HO.out⟩, fun h => absurd HC.out h⟩, HB.out⟩
  · have he := h1 hc
    subst he
    have HB : Hid (Below w.heap.size w w1) := hb
    have HC : Hid ((rrL s 0).2.2 ≠ 0) := hc
    clear hb hc h0 h1 hC
    go_wp2
    go_ret2
    exact ⟨⟨fun h => absurd h HC.out, fun _ => rfl⟩, HB.out⟩
end Go.Proofs.Ytfabgoanammaiaa
