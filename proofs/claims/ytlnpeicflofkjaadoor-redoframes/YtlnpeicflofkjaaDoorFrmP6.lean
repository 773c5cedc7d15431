import Derived.Test.YtlnpeicflofkjaaDoorFrmP5
namespace Go.Proofs.YtlnpeicflofkjaaDoor
open Go.ChangeShapes Go.WideShapes Go.ChangeAt Go.RowKit
set_option linter.unusedVariables false
set_option maxRecDepth 100000
set_option maxHeartbeats 1600000 in
theorem decode_out (s : ByteArray) (p : Int) (w : World) (hp : p < 0 ∨ (s.size : Int) < p) (h0 : -9223372036854775808 ≤ p) (h1 : p ≤ 9223372036854775807) (hs : s.size ≤ 1125899906842624) :
    Calls Tryd.prog 9 #[.string s, .int .i64 p] w fun e w' => e = .returned (.tuple #[(dcV s p).1, .int .i64 (dcV s p).2.1, .int .i64 (dcV s p).2.2]) ∧ Below w.heap.size w w' := by
  have hmf : ∀ (fn : Fn) (first cap : Array Value) (w : World), (Instr.makeFunc fn first cap).run Tryd.prog w = .ok (.func fn first cap) w := fun _ _ _ _ => rfl
  have HE : Hid (dcV s p = (zeroF, p, 1)) := by
    show _ = _
    unfold dcV
    rw [if_neg (by omega)]
  have HBw : Hid (∀ a b c d, Below w.heap.size w ((((w.alloc a).alloc b).alloc c).alloc d)) := fun a b c d => ((((Below.refl _ _).alloc (Nat.le_refl _) _).alloc (by simp) _).alloc (by simp; omega) _).alloc (by simp; omega) _
  have HV : Hid (∀ a x0 x1 x2 c d, Fr3 ((((w.alloc a).alloc (.cells #[x0, x1, x2] 27)).alloc c).alloc d) (w.heap.size + 1) x0 x1 x2) := fun a x0 x1 x2 c d => by
    have e0 := heap_alloc_new (w.alloc a) (.cells #[x0, x1, x2] 27)
    rw [show (w.alloc a).heap.size = w.heap.size + 1 from by simp] at e0
    exact (Below.heap_alloc _ _ _ (by simp <;> omega)).trans ((Below.heap_alloc _ _ _ (by simp <;> omega)).trans e0)
  rcases hp with hp | hp
  all_goals
    go_enter_defers Tryd.func9, Tryd.ntmps9
    go_wp2
    refine leaves_cons (f := 17) (args := #[.pointer (some ⟨w.heap.size, 0, none⟩), .pointer (some ⟨w.heap.size + 1, 0, none⟩), .pointer (some ⟨w.heap.size + 1 + 1, 0, none⟩), .pointer (some ⟨w.heap.size + 1 + 1 + 1, 0, none⟩)]) (by simp) (by simp [go_sem]) ?_
    refine (catchD 1 p _ _ _ _ _ _ _ (.int .i64 0) (.int .i64 0) [] _ (by simp [go_sem]) (HV.out _ _ _ _ _ _) (by simp [go_sem]) (by simp [go_sem]) (by simp [go_sem]) (by simp [go_sem]) (by omega) (by omega) (by omega)).mono ?_
    rintro e u' w2 ⟨rfl, rfl, dV, dN, dE, hb2⟩
    refine ⟨.tuple #[zeroF, .int .i64 p, .int .i64 1], ret_frame3 rfl _ _ _ _ _ _ _ _ _ _ (by rfl) (by rfl) (by rfl) dV dN dE, tupF HE.out, ?_⟩
    exact (HBw.out _ _ _ _).trans (hb2 _ (by omega) (by omega) (by omega))
theorem decode_any (s : ByteArray) (p : Int) (w : World) (h0 : -9223372036854775808 ≤ p) (h1 : p ≤ 9223372036854775807) (hs : s.size ≤ 1125899906842624) (hT : HalfAt w) :
    Calls Tryd.prog 9 #[.string s, .int .i64 p] w fun e w' => e = .returned (.tuple #[(dcV s p).1, .int .i64 (dcV s p).2.1, .int .i64 (dcV s p).2.2]) ∧ Below w.heap.size w w' := by
  by_cases h : 0 ≤ p ∧ p ≤ s.size
  · obtain ⟨n, rfl⟩ := Int.eq_ofNat_of_zero_le h.1
    exact decode_in s n w (by omega) hs hT
  · exact decode_out s p w (by omega) h0 h1 hs
end Go.Proofs.YtlnpeicflofkjaaDoor
