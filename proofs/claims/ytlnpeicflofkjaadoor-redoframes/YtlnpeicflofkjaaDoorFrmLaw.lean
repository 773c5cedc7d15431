import Derived.Test.YtlnpeicflofkjaaDoorFrmG
import Derived.Test.YtlnpeicflofkjaaDoorFrmF
import Derived.Test.YtlnpeicflofkjaaDoorOpenF
namespace Go.Proofs.YtlnpeicflofkjaaDoor
open Go.ChangeShapes Go.WideShapes Go.ChangeAt Go.RowKit
set_option linter.unusedVariables false
set_option maxRecDepth 100000
theorem num_any (x : Int) (w : World) : Calls Tryd.prog 8 #[.int .i64 x] w fun e w' => e = .returned (.int .i64 x) ∧ w' = w := by
  go_enter Tryd.func8, Tryd.ntmps8
  go_wp2
  go_ret
  exact ⟨rfl, rfl⟩
theorem frV_form (s : ByteArray) (p : Int) : ∃ (k l : Nat) (b : ByteArray), (dcV s p).1 = .agg #[.int .i64 k, .int .u64 l, .string b] := by
  unfold dcV
  split
  · split
    · exact ⟨_, _, _, rfl⟩
    · exact ⟨0, 0, ⟨#[]⟩, rfl⟩
  · exact ⟨0, 0, ⟨#[]⟩, rfl⟩
set_option maxHeartbeats 1600000 in
theorem frames_walk (k l : Int) (b s : ByteArray) (p : Int) (w : World) (hl0 : 0 ≤ l) (hl1 : l ≤ 18446744073709551615) (hz : b.size ≤ 140737488351232) (hs : s.size ≤ 140737488351232) (h0 : -9223372036854775808 ≤ p) (h1 : p ≤ 9223372036854775807) (hT : HalfAt w) :
    Calls Tryd.prog 4 #[.agg #[.int .i64 k, .int .u64 l, .string b], .string s, .int .i64 p] w fun e w' => e = .returned (.bool true) ∧ Below w.heap.size w w' := by
  have HBw : Hid (Below w.heap.size w (w.alloc (.cells #[.int .i64 k, .int .u64 l, .string b] 27))) := bel_al w _
  have HB0 : Hid (Bx (w.alloc (.cells #[.int .i64 k, .int .u64 l, .string b] 27)) w.heap.size k l b (w.alloc (.cells #[.int .i64 k, .int .u64 l, .string b] 27))) := ⟨BelH.start (hT.later HBw.out), by simp [go_sem], by simp [go_sem], by simp [go_sem]⟩
  have hn : w.heap.size < (w.alloc (.cells #[.int .i64 k, .int .u64 l, .string b] 27)).heap.size := by simp
  have HE1 : Hid (∀ W, HalfAt W → Calls Tryd.prog 7 #[.agg #[.int .i64 k, .int .u64 l, .string b]] W fun e w' => e = .returned (.tuple #[.string (enF k l b).1, .int .i64 (enF k l b).2]) ∧ Below W.heap.size W w') := fun W h => encode_any k l b W hl0 hl1 hz h
  have HE2 : Hid (∀ W, HalfAt W → Calls Tryd.prog 10 #[.agg #[.int .i64 k, .int .u64 l, .string b]] W fun e w' => e = .returned (.tuple #[.string (enF k l b).1, .int .i64 (enF k l b).2]) ∧ Below W.heap.size W w') := fun W h => refEncode_frame k l b W hl0 hl1 hz h
  have HD1 : Hid (∀ W, HalfAt W → Calls Tryd.prog 9 #[.string s, .int .i64 p] W fun e w' => e = .returned (.tuple #[(dcV s p).1, .int .i64 (dcV s p).2.1, .int .i64 (dcV s p).2.2]) ∧ Below W.heap.size W w') := fun W h => decode_any s p W h0 h1 (by omega) h
  have HD2 : Hid (∀ W, Calls Tryd.prog 11 #[.string s, .int .i64 p] W fun e w' => e = .returned (.tuple #[(dcV s p).1, .int .i64 (dcV s p).2.1, .int .i64 (dcV s p).2.2]) ∧ Below W.heap.size W w') := fun W => refDec_any s p W h0 h1 hs
  obtain ⟨fk, fl, fb, hf⟩ := frV_form s p
  rw [hf] at HD1 HD2
  clear hf hT
  generalize (dcV s p).2.1 = nx at *
  generalize (dcV s p).2.2 = tk at *
  generalize (enF k l b).1 = eb at *
  generalize (enF k l b).2 = ee at *
  go_enter Tryd.func4, Tryd.ntmps4
  go_wp2_with fail
  generalize w.alloc (.cells #[.int .i64 k, .int .u64 l, .string b] 27) = W0 at *
  refine (HE1.out _ HB0.out.1.2).mono ?_
  rintro e w1 ⟨rfl, hb⟩
  have H1 : Hid (Bx W0 w.heap.size k l b w1) := Bx.next hn HB0.out hb
  obtain ⟨-, k0, k1, k2⟩ := H1.out
  clear hb HB0
  go_wp2_with fail
  refine (HE2.out _ H1.out.1.2).mono ?_
  rintro e w2 ⟨rfl, hb⟩
  have H2 : Hid (Bx W0 w.heap.size k l b w2) := Bx.next hn H1.out hb
  clear hb H1 k0 k1 k2
  go_wp2_with (go_at_call 8; refine (num_any _ _).mono ?_; rintro e w9 ⟨rfl, rfl⟩)
  refine (HD1.out _ H2.out.1.2).mono ?_
  rintro e w3 ⟨rfl, hb⟩
  have HB3 : Hid (Below w.heap.size w w3) := HBw.out.trans ((H2.out.1.1.trans (hb.mono H2.out.1.1.size)).mono HBw.out.size)
  clear hb H2 HBw hn
  have HX : Hid (Fr3 (w3.alloc (.cells #[.int .i64 fk, .int .u64 fl, .string fb] 27)) w3.heap.size (.int .i64 fk) (.int .u64 fl) (.string fb)) := heap_alloc_new w3 _
  have HB4 : Hid (Below w.heap.size w (w3.alloc (.cells #[.int .i64 fk, .int .u64 fl, .string fb] 27))) := HB3.out.alloc HB3.out.size _
  have hlt : w3.heap.size < (w3.alloc (.cells #[.int .i64 fk, .int .u64 fl, .string fb] 27)).heap.size := by simp
  go_wp2_with fail
  generalize w3.alloc (.cells #[.int .i64 fk, .int .u64 fl, .string fb] 27) = W3 at *
  generalize w3.heap.size = g at *
  refine (HD2.out _).mono ?_
  rintro e w4 ⟨rfl, hb⟩
  have HX4 : Fr3 w4 g (.int .i64 fk) (.int .u64 fl) (.string fb) := HX.out.later hb hlt
  have q0 := HX4.c0
  have q1 := HX4.c1
  have q2 := HX4.c2
  have HB5 : Hid (Below w.heap.size w w4) := HB4.out.trans (hb.mono HB4.out.size)
  have hlt4 : g < w4.heap.size := Nat.lt_of_lt_of_le hlt hb.size
  have HB6 : Hid (∀ o, Below w.heap.size w (w4.alloc o)) := fun o => HB5.out.alloc HB5.out.size o
  clear hb HX HB4 HX4 HB3 hlt
  go_wp2
  go_ret
  exact ⟨rfl, HB6.out _⟩
end Go.Proofs.YtlnpeicflofkjaaDoor
