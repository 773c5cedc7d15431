import Derived.Test.YtljdjaapocmppaaGreatDoorRdNilG
namespace Go.Proofs.YtljdjaapocmppaaGreatDoor
open Go.ChangeShapes Go.WideShapes Go.ChangeAt Go.RowKit
set_option linter.unusedVariables false
set_option maxRecDepth 100000
set_option maxHeartbeats 12800000 in
theorem rnil_walk (k : Int) (nm to : ByteArray) (i : Int) (ao : Option Addr) (cap : Nat) (l bt : Int) (pa : Option Addr) (pn pc : Nat) (us : List Int) (w : World) (hs : SeesN w w.heap.size ao us) (hroom : us.length * 8 ≤ 140737488351232) :
    Calls Tryz.prog 4 #[.agg #[.int .i64 k, .string nm, .string to, .int .i64 i, .slice ao us.length cap, .int .u64 l, .int .i64 bt, .slice pa pn pc]] w fun e w' => e = .returned (.bool true) ∧ Below w.heap.size w w' := by
  have hev0 := eqT0
  have hev1 := eqT1
  have hgd := guardT
  have HR : Hid (us.length * 8 ≤ 140737488351232) := hroom
  have X := RN_start k nm to i ao cap l bt pa pn pc us w hs
  have HX : Hid (RN w ao us nm to i l bt (.slice ao us.length cap) (w.alloc (.cells #[.int .i64 k, .string nm, .string to, .int .i64 i, .slice ao us.length cap, .int .u64 l, .int .i64 bt, .slice pa pn pc] 26))) := X
  have HQ : Hid (Calls Tryz.prog 22 #[.agg #[.int .i64 k, .string nm, .string to, .int .i64 i, .slice ao us.length cap, .int .u64 l, .int .i64 bt, .slice pa pn pc]] (w.alloc (.cells #[.int .i64 k, .string nm, .string to, .int .i64 i, .slice ao us.length cap, .int .u64 l, .int .i64 bt, .slice pa pn pc] 26)) fun e w' => e = .returned (.int .i64 1) ∧ Below (w.alloc (.cells #[.int .i64 k, .string nm, .string to, .int .i64 i, .slice ao us.length cap, .int .u64 l, .int .i64 bt, .slice pa pn pc] 26)).heap.size (w.alloc (.cells #[.int .i64 k, .string nm, .string to, .int .i64 i, .slice ao us.length cap, .int .u64 l, .int .i64 bt, .slice pa pn pc] 26)) w') :=
    nothing_any k nm to i ao cap l bt pa pn pc us _ ((hs.later (bel1 _ _)).mono (by rw [sizeA]; omega)) hroom
  clear hroom hs X
  go_enter Tryz.func4, Tryz.ntmps4
  go_wp2_with fail
  generalize w.alloc (.cells #[.int .i64 k, .string nm, .string to, .int .i64 i, .slice ao us.length cap, .int .u64 l, .int .i64 bt, .slice pa pn pc] 26) = W at *
  refine HQ.out.mono ?_
  rintro e w1 ⟨rfl, hb⟩
  have HX1 : Hid (RN w ao us nm to i l bt (.slice ao us.length cap) w1) := RN.step hb HX.out
  clear hb HX HQ
  go_wp2_with fail
  refine (num_any _ _).mono ?_
  rintro e w1' ⟨rfl, rfl⟩
  go_wp2_with fail
  refine (newDev_any _).mono ?_
  rintro e w2 ⟨gd, rfl, hb⟩
  have HX2 : Hid (RN w ao us nm to i l bt (.slice ao us.length cap) w2) := RN.step hb HX1.out
  clear hb HX1
  go_wp2_with fail
  refine (num_any _ _).mono ?_
  rintro e w2' ⟨rfl, rfl⟩
  have c1 := HX2.out.1
  have c3 := HX2.out.2.2.1
  have c5 := HX2.out.2.2.2.2.1
  have c6 := HX2.out.2.2.2.2.2.1
  go_wp2_with fail
  clear c1 c3 c5 c6
  refine (openN _ _ _ _).mono ?_
  rintro e w3 ⟨rfl, hb⟩
  have HX3 : Hid (RN w ao us nm to i l bt (.slice ao us.length cap) w3) := RN.step hb HX2.out
  clear hb HX2
  go_wp2_with fail
  have HX4 : Hid (RN w ao us nm to i l bt (.slice ao us.length cap) (w3.alloc (.cells #[.int .i64 0, .int .i64 0, .int .i64 0, .int .u64 0] 68))) := RN.step (bel1 _ _) HX3.out
  have HT4 : Hid (Tl (w3.alloc (.cells #[.int .i64 0, .int .i64 0, .int .i64 0, .int .u64 0] 68)) w3.heap.size 0) := Tl.new _ _
  clear HX3
  generalize w3.alloc (.cells #[.int .i64 0, .int .i64 0, .int .i64 0, .int .u64 0] 68) = W4 at *
  generalize w3.heap.size = g4 at *
  refine (replayAll _).mono ?_
  rintro e w5 ⟨rfl, hb⟩
  have HX5 : Hid (RN w ao us nm to i l bt (.slice ao us.length cap) w5) := RN.step hb HX4.out
  have HT5 : Hid (Tl w5 g4 0) := HT4.out.step hb
  clear hb HX4 HT4
  have HX6 : Hid (RN w ao us nm to i l bt (.slice ao us.length cap) (w5.alloc (.cells #[.int .i64 0, .int .i64 0, .int .i64 0, .int .u64 1] 68))) := RN.step (bel1 _ _) HX5.out
  have HT6 : Hid (Tl (w5.alloc (.cells #[.int .i64 0, .int .i64 0, .int .i64 0, .int .u64 1] 68)) g4 0) := HT5.out.step (bel1 _ _)
  have HU6 : Hid (Tl (w5.alloc (.cells #[.int .i64 0, .int .i64 0, .int .i64 0, .int .u64 1] 68)) w5.heap.size 1) := Tl.new _ _
  have c1 := HX6.out.1
  go_wp2_with fail
  clear c1 HX5 HT5
  generalize w5.alloc (.cells #[.int .i64 0, .int .i64 0, .int .i64 0, .int .u64 1] 68) = W6 at *
  generalize w5.heap.size = g6 at *
  refine (readN none _ _ (.inl rfl)).mono ?_
  rintro e w7 ⟨rfl, hb⟩
  have HX7 : Hid (RN w ao us nm to i l bt (.slice ao us.length cap) w7) := RN.step hb HX6.out
  have HT7 : Hid (Tl w7 g4 0) := HT6.out.step hb
  have HU7 : Hid (Tl w7 g6 1) := HU6.out.step hb
  clear hb HX6 HT6 HU6
  go_wp2_with fail
  refine (listN none _ (.inl rfl)).mono ?_
  rintro e w8 ⟨rfl, hb⟩
  have HX8 : Hid (RN w ao us nm to i l bt (.slice ao us.length cap) w8) := RN.step hb HX7.out
  have HT8 : Hid (Tl w8 g4 0) := HT7.out.step hb
  have HU8 : Hid (Tl w8 g6 1) := HU7.out.step hb
  clear hb HX7 HT7 HU7
  go_wp2_with fail
  refine (roomN none _ (.inl rfl)).mono ?_
  rintro e w9 ⟨rfl, hb⟩
  have HX9 : Hid (RN w ao us nm to i l bt (.slice ao us.length cap) w9) := RN.step hb HX8.out
  have HT9 : Hid (Tl w9 g4 0) := HT8.out.step hb
  have HU9 : Hid (Tl w9 g6 1) := HU8.out.step hb
  clear hb HX8 HT8 HU8
  obtain ⟨t0, t1, t2, t3⟩ := HT9.out.c
  obtain ⟨q0, q1, q2, q3⟩ := HU9.out.c
  go_wp2_with fail
  refine (num_any _ _).mono ?_
  rintro e w9' ⟨rfl, rfl⟩
  go_wp2_with fail
  refine (num_any _ _).mono ?_
  rintro e w9'' ⟨rfl, rfl⟩
  go_wp2_with fail
  refine (changesN none _ (.inl rfl)).mono ?_
  rintro e wa ⟨rfl, hb⟩
  have HXa : Hid (RN w ao us nm to i l bt (.slice ao us.length cap) wa) := RN.step hb HX9.out
  clear hb HX9 t0 t1 t2 t3 q0 q1 q2 q3
  go_wp2_with fail
  refine (copyN none _ (.inl rfl)).mono ?_
  rintro e wb ⟨rfl, hb⟩
  have HXb : Hid (RN w ao us nm to i l bt (.slice ao us.length cap) wb) := RN.step hb HXa.out
  clear hb HXa
  go_wp2
  go_ret
  exact ⟨rfl, (RC.rs HXb.out).b⟩
end Go.Proofs.YtljdjaapocmppaaGreatDoor
