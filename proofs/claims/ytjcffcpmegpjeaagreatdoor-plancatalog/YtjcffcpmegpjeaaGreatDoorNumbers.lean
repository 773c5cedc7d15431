import Derived.Test.YtjcffcpmegpjeaaGreatDoorOwnB
namespace Go.Proofs.YtjcffcpmegpjeaaGreatDoor
open Go.ChangeShapes Go.WideShapes Go.ChangeAt Go.RowKit

set_option maxRecDepth 100000 in
theorem uvarint (v : Int) (w : World) (h0 : 0 ≤ v) (h1 : v ≤ 18446744073709551615) :
    Calls Tryz.prog 61 #[.int .u64 v] w fun e w' => e = .returned (.string (strOfNums (uvB v))) ∧ Below w.heap.size w w' := by
  go_enter Tryz.func61, Tryz.ntmps61
  go_wp2_with fail
  refine (layU _ [] v w.heap.size w h0 h1 (Nat.le_refl _) (ownB_nil _ _) (by simp)).mono ?_
  rintro e w1 ⟨b', rfl, hown, hbel⟩
  have hcv := hown.conv
  have HB : Hid _ := hbel
  clear hown hbel
  go_wp2
  go_ret
  exact ⟨rfl, HB.out⟩

set_option maxRecDepth 100000 in
set_option maxHeartbeats 800000 in
theorem ref_uvarint (v : Int) (w : World) (h0 : 0 ≤ v) (h1 : v ≤ 18446744073709551615) :
    Calls Tryz.prog 30 #[.int .u64 v] w fun e w' => e = .returned (.string (strOfNums (uvB v))) ∧ Below w.heap.size w w' := by
  obtain ⟨B, hBe⟩ : ∃ B, B = w.heap.size := ⟨_, rfl⟩
  have HBe : Hid (B = w.heap.size) := hBe
  have hBw : B ≤ w.heap.size := by omega
  clear hBe
  rw [← HBe.out]
  go_enter Tryz.func30, Tryz.ntmps30
  go_wp2
  go_loopw [0, 3] (fun u c wr => ∃ (f : Nat) (y : Int) (done : List Int), f ≤ 9 ∧ 0 ≤ y ∧ y ≤ 18446744073709551615 ∧ y < 128 ^ (f + 1) ∧ u = .int .u64 y ∧ ownB wr B c done ∧ done.length + f = 9 ∧ done ++ uvF f y = uvB v ∧ Below B w wr) (fun u _ _ => (intOf u).toNat)
  case atStart => exact ⟨9, v, [], by omega, h0, h1, by omega, rfl, ownB_nil _ _, rfl, rfl, Below.refl _ _⟩
  case round =>
    obtain ⟨f, y, done, hf, hy0, hyt, hy1, rfl, hown1, hdl, hd, hbel⟩ := hrel
    have HD : Hid (done ++ uvF f y = uvB v) := hd
    have HB : Hid (Below B w wr) := hbel
    have hBr : B ≤ wr.heap.size := by have := hbel.size; omega
    have HO : Hid (ownB wr B _ done) := hown1
    clear hd hbel hown1
    by_cases hlt : 128 ≤ y
    · obtain ⟨f', rfl⟩ : ∃ f', f = f' + 1 := by
        cases f with
        | zero => simp at hy1; omega
        | succ f' => exact ⟨f', rfl⟩
      have hy2 : y / 128 < 128 ^ (f' + 1) := by
        rw [Int.pow_succ] at hy1
        omega
      clear hy1
      have HY : Hid (y / 128 < 128 ^ (f' + 1)) := hy2
      clear hy2
      have hm : (y % 128 + 128) % 256 = y % 128 + 128 := by omega
      go_wp2_with (at_builtin; refine app_one (by rfl) _ _ (by rfl) B _ done _ HO.out (by rfl) (by rfl) (by omega) hBr ?_; intro v' w1 hown1 hbel1; have HO1 : Hid _ := hown1; have HB1 : Hid _ := hbel1; clear hown1 hbel1)
      go_roundw
      case rel => exact ⟨f', y / 128, done ++ [y % 128 + 128], by omega, by omega, by omega, HY.out, by go_num, HO1.out, by simp; omega, by rw [List.append_assoc, List.singleton_append, ← uvF_great f' y hlt]; exact HD.out, HB.out.trans HB1.out⟩
      case measure => simp [intOf]; omega
    · have hm : y % 256 = y := by omega
      have hun : done ++ [y] = uvB v := by rw [← HD.out, uvF_small f y (by omega)]
      have HU : Hid _ := hun
      clear hun
      go_wp2_with (at_builtin; refine app_one (by rfl) _ _ (by rfl) B _ done _ HO.out (by rfl) (by rfl) (by omega) hBr ?_; intro v' w1 hown1 hbel1; have HB1 : Hid _ := hbel1; have hcv := hown1.conv; clear hown1 hbel1)
      go_ret
      refine ⟨?_, HB.out.trans HB1.out⟩
      rw [HU.out]; rfl

/-- The number without a sign that stands for a number with one. -/
def svV (i : Int) : Int := if 0 ≤ i then 2 * i else -2 * i - 1
theorem svV_bounds (i : Int) (h0 : -9223372036854775808 ≤ i) (h1 : i ≤ 9223372036854775807) : 0 ≤ svV i ∧ svV i ≤ 18446744073709551615 := by
  unfold svV; split <;> omega
theorem xor_sign (i : Int) (h0 : -9223372036854775808 ≤ i) (h1 : i ≤ 9223372036854775807) :
    bits .xor .u64 ((i % 18446744073709551616 * 2) % 18446744073709551616) ((i / 9223372036854775808) % 18446744073709551616) = svV i := by
  rw [u64_xor _ _ (by omega) (by omega) (by omega) (by omega)]
  unfold svV
  by_cases h : 0 ≤ i
  · rw [if_pos h, show i / 9223372036854775808 = 0 from by omega]
    simp only [show ((0 : Int) % 18446744073709551616).toNat = 0 from by decide, Nat.xor_zero]
    omega
  · rw [if_neg h, show i / 9223372036854775808 = -1 from by omega]
    have e : ((-1 : Int) % 18446744073709551616).toNat = 2 ^ 64 - 1 := by decide
    rw [e]
    have hx : (i % 18446744073709551616 * 2 % 18446744073709551616).toNat < 2 ^ 64 := by omega
    rw [show (i % 18446744073709551616 * 2 % 18446744073709551616).toNat ^^^ (2 ^ 64 - 1) = 2 ^ 64 - 1 - (i % 18446744073709551616 * 2 % 18446744073709551616).toNat from ?_]
    · omega
    · apply Nat.eq_of_testBit_eq
      intro j
      rw [Nat.testBit_xor, Nat.testBit_two_pow_sub_one, show 2 ^ 64 - 1 - (i % 18446744073709551616 * 2 % 18446744073709551616).toNat = 2 ^ 64 - ((i % 18446744073709551616 * 2 % 18446744073709551616).toNat + 1) from by omega, Nat.testBit_two_pow_sub_succ hx]
      by_cases hj : j < 64
      · simp [hj]
      · have : Nat.testBit (i % 18446744073709551616 * 2 % 18446744073709551616).toNat j = false := Nat.testBit_lt_two_pow (Nat.lt_of_lt_of_le hx (Nat.pow_le_pow_right (by omega) (by omega)))
        simp [hj, this]

set_option maxRecDepth 100000 in
theorem layS (b : Value) (xs : List Int) (v : Int) (B : Nat) (w : World) (h0 : -9223372036854775808 ≤ v) (h1 : v ≤ 9223372036854775807) (hB : B ≤ w.heap.size) (hown : ownB w B b xs) (hx : xs.length ≤ 140737488351232) :
    Calls Tryz.prog 152 #[b, .int .i64 v] w fun e w' => ∃ b', e = .returned b' ∧ ownB w' B b' (xs ++ uvB (svV v)) ∧ Below B w w' := by
  go_enter Tryz.func152, Tryz.ntmps152
  go_wp2_with fail
  rw [IntKind.wrap_u64, IntKind.wrap_u64, IntKind.wrap_u64, xor_sign v h0 h1]
  have hb := svV_bounds v h0 h1
  refine (layU _ xs _ B w hb.1 hb.2 hB hown hx).mono ?_
  rintro e w1 ⟨b', rfl, hown, hbel⟩
  have HB : Hid _ := hbel
  have HO : Hid _ := hown
  clear hown hbel
  go_wp2
  go_ret
  exact ⟨_, rfl, HO.out, HB.out⟩

set_option maxRecDepth 100000 in
theorem ref_svarint (v : Int) (w : World) (h0 : -9223372036854775808 ≤ v) (h1 : v ≤ 9223372036854775807) :
    Calls Tryz.prog 58 #[.int .i64 v] w fun e w' => e = .returned (.string (strOfNums (uvB (svV v)))) ∧ Below w.heap.size w w' := by
  by_cases hp : 0 ≤ v
  · have hs : svV v = 2 * v := by unfold svV; rw [if_pos hp]
    rw [hs]
    clear hs
    go_enter Tryz.func58, Tryz.ntmps58
    go_wp2_with fail
    refine (ref_uvarint _ _ (by omega) (by omega)).mono ?_
    rintro e w1 ⟨rfl, hbel⟩
    have HB : Hid _ := hbel
    clear hbel
    go_wp2
    go_ret
    exact ⟨rfl, HB.out⟩
  · have hs : svV v = 2 * (-1 - v) + 1 := by unfold svV; rw [if_neg hp]; omega
    rw [hs]
    clear hs
    go_enter Tryz.func58, Tryz.ntmps58
    go_wp2_with fail
    refine (ref_uvarint _ _ (by omega) (by omega)).mono ?_
    rintro e w1 ⟨rfl, hbel⟩
    have HB : Hid _ := hbel
    clear hbel
    go_wp2
    go_ret
    exact ⟨rfl, HB.out⟩

/-- The n lowest bytes of v, the lowest first. -/
def fxB : Nat → Int → List Int
  | 0, _ => []
  | n + 1, v => v % 256 :: fxB n (v / 256)
theorem fxB_len : ∀ (n : Nat) (v : Int), (fxB n v).length = n
  | 0, _ => rfl
  | n + 1, v => by simp [fxB, fxB_len n]
theorem fxB_get : ∀ (n k : Nat) (v : Int), k < n → (fxB n v)[k]? = some (v / 256 ^ k % 256)
  | 0, k, _, h => by omega
  | n + 1, 0, v, _ => by simp [fxB]
  | n + 1, k + 1, v, h => by
    simp only [fxB, List.getElem?_cons_succ]
    rw [fxB_get n k _ (by omega), Int.ediv_ediv_of_nonneg (by omega), Int.pow_succ, Int.mul_comm]

end Go.Proofs.YtjcffcpmegpjeaaGreatDoor
