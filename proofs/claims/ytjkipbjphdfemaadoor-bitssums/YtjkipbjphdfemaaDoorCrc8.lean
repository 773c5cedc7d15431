import Derived.Test.YtjkipbjphdfemaaDoorCrc7
namespace Go.Proofs.YtjkipbjphdfemaaDoor
open Go.ChangeShapes Go.WideShapes Go.ChangeAt Go.RowKit Go.MuLone
set_option linter.unusedVariables false

set_option maxRecDepth 100000 in
theorem moveBit_any (r : Nat) (w : World) (hr : r < 4294967296) :
    Calls Tryd.prog 21 #[.int .u32 (r : Int)] w fun e w' => e = .returned (.int .u32 (nN r : Nat)) ∧ w' = w := by
  have h1 : bits .and .u32 (r : Int) 1 = ((r % 2 : Nat) : Int) := by
    have := u32_and_nat r 1 hr (by omega)
    rw [nat_mask1] at this
    exact this
  by_cases h2 : r % 2 = 1
  · have hx : bits .xor .u32 ((r : Int) / 2) 2197175160 = ((nN r : Nat) : Int) := by
      have := u32_xor_nat (r / 2) 2197175160 (by omega) (by omega)
      rw [show ((r : Int) / 2) = ((r / 2 : Nat) : Int) by omega]
      unfold nN
      rw [if_pos h2]
      exact this
    have h3 : ((r : Int) % 2 == 1) = true := by simp; omega
    rw [h2] at h1
    go_enter Tryd.func21, Tryd.ntmps21
    go_wp2
    go_ret
    exact ⟨rfl, rfl⟩
  · have HE : Hid (((nN r : Nat) : Int) = (r : Int) / 2) := by show _ = _; unfold nN; rw [if_neg h2]; omega
    rw [show r % 2 = 0 by omega] at h1
    go_enter Tryd.func21, Tryd.ntmps21
    go_wp2
    go_ret
    exact ⟨by rw [HE.out]; rfl, rfl⟩
/-- How often a number must be doubled till nothing is left of it. -/
def dbl : Nat → Nat → Nat
  | 0, _ => 0
  | f + 1, a => if a % 4294967296 = 0 then 0 else 1 + dbl f (a * 2 % 4294967296)
theorem dbl_more : ∀ (f a : Nat), a < 4294967296 → a * 2 ^ f % 4294967296 = 0 → dbl (f + 1) a = dbl f a
  | 0, a, h0, h => by
    simp only [Nat.pow_zero, Nat.mul_one] at h
    simp [dbl, h]
  | f + 1, a, h0, h => by
    show (if a % 4294967296 = 0 then 0 else 1 + dbl (f + 1) (a * 2 % 4294967296)) = (if a % 4294967296 = 0 then 0 else 1 + dbl f (a * 2 % 4294967296))
    rw [dbl_more f (a * 2 % 4294967296) (Nat.mod_lt _ (by omega)) (by rw [Nat.mod_mul_mod, Nat.mul_assoc, Nat.mul_comm 2, ← Nat.pow_succ]; exact h)]
theorem dbl_less (a : Nat) (h0 : a < 4294967296) (h : a ≠ 0) : dbl 32 (a * 2 % 4294967296) < dbl 32 a := by
  have e : dbl (32 + 1) a = 1 + dbl 32 (a * 2 % 4294967296) := by
    show (if a % 4294967296 = 0 then 0 else 1 + dbl 32 (a * 2 % 4294967296)) = _
    rw [if_neg (by omega)]
  have e2 := dbl_more 32 a h0 (by rw [show (2 : Nat) ^ 32 = 4294967296 by decide, Nat.mul_mod_left])
  omega
set_option maxRecDepth 100000 in
set_option maxHeartbeats 1600000 in
theorem times_any (a b : Nat) (w : World) (ha : a < 4294967296) (hb : b < 4294967296) :
    Calls Tryd.prog 14 #[.int .u32 (a : Int), .int .u32 (b : Int)] w fun e w' => e = .returned (.int .u32 (tsum 32 a b : Nat)) ∧ w' = w := by
  go_enter Tryd.func14, Tryd.ntmps14
  go_wp2
  go_loop [0, 1, 5] (fun x y z => ∃ f A C p : Nat, A < 4294967296 ∧ C < 4294967296 ∧ p < 4294967296 ∧ A * 2 ^ f % 4294967296 = 0 ∧ p ^^^ tsum f A C = tsum 32 a b ∧ x = .int .u32 (A : Int) ∧ y = .int .u32 (C : Int) ∧ z = .int .u32 (p : Int)) (fun x _ _ => dbl 32 (intOf x).toNat)
  case atStart => exact ⟨32, a, b, 0, ha, hb, by omega, by rw [show (2 : Nat) ^ 32 = 4294967296 by decide, Nat.mul_mod_left], by rw [Nat.zero_xor], rfl, rfl, rfl⟩
  case round =>
    obtain ⟨f, A, C, p, hA, hC, hp, hf, hT, rfl, rfl, rfl⟩ := hrel
    have HT : Hid (p ^^^ tsum f A C = tsum 32 a b) := hT
    clear hT
    by_cases h0 : A = 0
    · subst h0
      rw [tsum_zero, Nat.xor_zero] at HT
      go_wp2
      go_ret
      exact ⟨by rw [← HT.out]; rfl, rfl⟩
    · obtain ⟨g, rfl⟩ : ∃ g, f = g + 1 := by
        rcases f with _ | g
        · simp only [Nat.pow_zero, Nat.mul_one] at hf; omega
        · exact ⟨g, rfl⟩
      have HM : Hid (dbl 32 (A * 2 % 4294967296) < dbl 32 A) := dbl_less A hA h0
      have HF : Hid (A * 2 % 4294967296 * 2 ^ g % 4294967296 = 0) := by show _ = _; rw [Nat.mod_mul_mod, Nat.mul_assoc, Nat.mul_comm 2, ← Nat.pow_succ]; exact hf
      have hne : ((A : Int) != 0) = true := by simpa using h0
      have HL : Hid (A * 2 % 4294967296 < 4294967296) := Nat.mod_lt _ (by omega)
      have HN : Hid (nN C < 4294967296) := nN_lt C hC
      have hwr : IntKind.u32.wrap ((A : Int) * 2) = ((A * 2 % 4294967296 : Nat) : Int) := by rw [IntKind.wrap_u32']; omega
      by_cases ht : A / 2147483648 % 2 = 1
      · have h1 : ((A : Int) / 2147483648 == 1) = true := by simp; omega
        have hx : bits .xor .u32 (p : Int) (C : Int) = ((p ^^^ C : Nat) : Int) := u32_xor_nat _ _ hp hC
        have HX : Hid (p ^^^ C < 4294967296) := Nat.xor_lt_two_pow (n := 32) hp hC
        have HT2 : Hid ((p ^^^ C) ^^^ tsum g (A * 2 % 4294967296) (nN C) = tsum 32 a b) := by
          show _ = _
          rw [← HT.out, tsum, if_pos ht, Nat.xor_assoc]
        go_wp2_with (go_at_call 21; refine (moveBit_any C _ hC).mono ?_; rintro e w' ⟨rfl, rfl⟩)
        go_round
        case rel => exact ⟨g, A * 2 % 4294967296, nN C, p ^^^ C, HL.out, HN.out, HX.out, HF.out, HT2.out, by rw [show ((A * 2 % 4294967296 : Nat) : Int) = (A : Int) * 2 % 4294967296 by omega], rfl, rfl⟩
        case measure =>
          have e : ((A : Int) * 2 % 4294967296).toNat = A * 2 % 4294967296 := by omega
          simp only [intOf, e, Int.toNat_natCast]
          exact HM.out
      · have h1 : ((A : Int) / 2147483648 == 1) = false := by simp; omega
        have HT2 : Hid (p ^^^ tsum g (A * 2 % 4294967296) (nN C) = tsum 32 a b) := by
          show _ = _
          rw [← HT.out, tsum, if_neg ht, Nat.zero_xor]
        go_wp2_with (go_at_call 21; refine (moveBit_any C _ hC).mono ?_; rintro e w' ⟨rfl, rfl⟩)
        go_round
        case rel => exact ⟨g, A * 2 % 4294967296, nN C, p, HL.out, HN.out, hp, HF.out, HT2.out, by rw [show ((A * 2 % 4294967296 : Nat) : Int) = (A : Int) * 2 % 4294967296 by omega], rfl, rfl⟩
        case measure =>
          have e : ((A : Int) * 2 % 4294967296).toNat = A * 2 % 4294967296 := by omega
          simp only [intOf, e, Int.toNat_natCast]
          exact HM.out
theorem i64_and1 (n : Int) : bits .and .i64 n 1 = n % 2 := by
  have h1 : (BitVec.ofInt 64 1).toNat = 2 ^ 1 - 1 := by decide
  have key : (BitVec.ofInt 64 n &&& BitVec.ofInt 64 1).toNat = (n % ((2 ^ 64 : Nat) : Int)).toNat % 2 ^ 1 := by
    rw [BitVec.toNat_and, BitVec.toNat_ofInt, h1, Nat.and_two_pow_sub_one_eq_mod]
  show IntKind.i64.wrap ((BitVec.ofInt 64 n &&& BitVec.ofInt 64 1).toNat : Nat) = n % 2
  rw [key, IntKind.wrap_i64]
  omega
theorem byteOn_it : itN (8 * 2 ^ 0) 2147483648 = 8388608 := by decide
set_option maxRecDepth 100000 in
set_option maxHeartbeats 1600000 in
theorem combine_any (a b : Nat) (n : Int) (w : World) (ha : a < 4294967296) (hb : b < 4294967296) (h0 : 0 ≤ n) (h1 : n ≤ 1048576) :
    Calls Tryd.prog 8 #[.int .u32 (a : Int), .int .u32 (b : Int), .int .i64 n] w fun e w' => e = .returned (.tuple #[.int .u32 (itN (8 * n.toNat) a ^^^ b : Nat), .int .i64 0]) ∧ w' = w := by
  obtain ⟨m, rfl⟩ : ∃ m : Nat, n = (m : Int) := ⟨n.toNat, by omega⟩
  go_enter Tryd.func8, Tryd.ntmps8
  go_wp2
  go_loop [0, 2, 8] (fun x y z => ∃ k N A : Nat, A < 4294967296 ∧ N ≤ 1048576 ∧ itN (8 * 2 ^ k * N) A = itN (8 * m) a ∧ x = .int .u32 (A : Int) ∧ y = .int .i64 (N : Int) ∧ z = .int .u32 (itN (8 * 2 ^ k) 2147483648 : Nat)) (fun _ y _ => (intOf y).toNat)
  case atStart => exact ⟨0, m, a, ha, by omega, by simp, rfl, rfl, by rw [byteOn_it]; rfl⟩
  case round =>
    obtain ⟨k, N, A, hA, hN, hI, rfl, rfl, rfl⟩ := hrel
    have HI : Hid (itN (8 * 2 ^ k * N) A = itN (8 * m) a) := hI
    clear hI
    have hP := itN_lt (8 * 2 ^ k) 2147483648 (by omega)
    by_cases hz : N = 0
    · subst hz
      have HI2 : Hid (A = itN (8 * m) a) := by show _ = _; have := HI.out; simpa [itN] using this
      have hx : bits .xor .u32 (A : Int) (b : Int) = ((A ^^^ b : Nat) : Int) := u32_xor_nat _ _ hA hb
      go_wp2
      go_ret2
      exact ⟨by rw [← HI2.out]; rfl, rfl⟩
    · have hpos : (0 : Int) < (N : Int) := by omega
      have HS : Hid (tsum 32 (itN (8 * 2 ^ k) 2147483648) (itN (8 * 2 ^ k) 2147483648) = itN (8 * 2 ^ (k + 1)) 2147483648) := by
        show _ = _
        rw [tsum_power _ _ hP, ← itN_add]
        congr 1
        rw [Nat.pow_succ]; omega
      have HQ : Hid (tsum 32 A (itN (8 * 2 ^ k) 2147483648) = itN (8 * 2 ^ k) A) := tsum_power _ _ hA
      have hand : bits .and .i64 (N : Int) 1 = (N : Int) % 2 := i64_and1 N
      have hA2 := itN_lt (8 * 2 ^ k) A hA
      by_cases hodd : N % 2 = 1
      · have h2 : ((N : Int) % 2 == 1) = true := by simp; omega
        have HI3 : Hid (itN (8 * 2 ^ (k + 1) * (N / 2)) (itN (8 * 2 ^ k) A) = itN (8 * m) a) := by
          show _ = _
          rw [← HI.out, ← itN_add]
          congr 1
          have e : N = 2 * (N / 2) + 1 := by omega
          conv => rhs; rw [e]
          rw [Nat.pow_succ, Nat.mul_add, Nat.mul_one, Nat.add_comm]
          congr 1
          rw [Nat.mul_assoc, Nat.mul_assoc, Nat.mul_assoc]
        generalize itN (8 * 2 ^ k) 2147483648 = P at *
        go_wp2_with (first | (go_at_call_of 14 (Value.int IntKind.u32 (A : Int)); refine (times_any A P _ hA hP).mono ?_; rintro e w' ⟨rfl, rfl⟩) | (go_at_call 14; refine (times_any P P _ hP hP).mono ?_; rintro e w' ⟨rfl, rfl⟩))
        go_round
        case rel => exact ⟨k + 1, N / 2, itN (8 * 2 ^ k) A, hA2, by omega, HI3.out, by rw [HQ.out], by rw [show ((N / 2 : Nat) : Int) = (N : Int) / 2 by omega], by rw [HS.out]⟩
        case measure => simp only [intOf]; omega
      · have h2 : ((N : Int) % 2 == 1) = false := by simp; omega
        have HI3 : Hid (itN (8 * 2 ^ (k + 1) * (N / 2)) A = itN (8 * m) a) := by
          show _ = _
          rw [← HI.out]
          congr 1
          have e : N = 2 * (N / 2) := by omega
          conv => rhs; rw [e]
          rw [Nat.pow_succ, Nat.mul_assoc, Nat.mul_assoc, Nat.mul_assoc]
        generalize itN (8 * 2 ^ k) 2147483648 = P at *
        go_wp2_with (first | (go_at_call 14; refine (times_any P P _ hP hP).mono ?_; rintro e w' ⟨rfl, rfl⟩))
        go_round
        case rel => exact ⟨k + 1, N / 2, A, hA, by omega, HI3.out, rfl, by rw [show ((N / 2 : Nat) : Int) = (N : Int) / 2 by omega], by rw [HS.out]⟩
        case measure => simp only [intOf]; omega
end Go.Proofs.YtjkipbjphdfemaaDoor
