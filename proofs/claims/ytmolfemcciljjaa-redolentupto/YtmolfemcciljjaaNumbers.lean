import Derived.Test.YtmolfemcciljjaaOwnB
namespace Go.Proofs.Ytmolfemcciljjaa
open Go.ChangeShapes Go.WideShapes Go.ChangeAt Go.RowKit

/-- The number without a sign that stands for a number with one. -/
def svV (i : Int) : Int := if 0 ≤ i then 2 * i else -2 * i - 1
theorem svV_bounds (i : Int) (h0 : -9223372036854775808 ≤ i) (h1 : i ≤ 9223372036854775807) : 0 ≤ svV i ∧ svV i ≤ 18446744073709551615 := by
  unfold svV; split <;> omega
theorem xor_sign (i : Int) (h0 : -9223372036854775808 ≤ i) (h1 : i ≤ 9223372036854775807) :
    bits .xor .u64 ((i % 18446744073709551616 * 2) % 18446744073709551616) ((i / 9223372036854775808) % 18446744073709551616) = svV i := by
  rw [u64_xor _ _ (by omega) (by omega) (by omega) (by omega)]
  unfold svV
  by_cases h : 0 ≤ i
  · rw [if_pos h, show i / 9223372036854775808 = 0 from by omega]
    simp only [show ((0 : Int) % 18446744073709551616).toNat = 0 from by decide, Nat.xor_zero]
    omega
  · rw [if_neg h, show i / 9223372036854775808 = -1 from by omega]
    have e : ((-1 : Int) % 18446744073709551616).toNat = 2 ^ 64 - 1 := by decide
    rw [e]
    have hx : (i % 18446744073709551616 * 2 % 18446744073709551616).toNat < 2 ^ 64 := by omega
    rw [show (i % 18446744073709551616 * 2 % 18446744073709551616).toNat ^^^ (2 ^ 64 - 1) = 2 ^ 64 - 1 - (i % 18446744073709551616 * 2 % 18446744073709551616).toNat from ?_]
    · omega
    · apply Nat.eq_of_testBit_eq
      intro j
      rw [Nat.testBit_xor, Nat.testBit_two_pow_sub_one, show 2 ^ 64 - 1 - (i % 18446744073709551616 * 2 % 18446744073709551616).toNat = 2 ^ 64 - ((i % 18446744073709551616 * 2 % 18446744073709551616).toNat + 1) from by omega, Nat.testBit_two_pow_sub_succ hx]
      by_cases hj : j < 64
      · simp [hj]
      · have : Nat.testBit (i % 18446744073709551616 * 2 % 18446744073709551616).toNat j = false := Nat.testBit_lt_two_pow (Nat.lt_of_lt_of_le hx (Nat.pow_le_pow_right (by omega) (by omega)))
        simp [hj, this]

/-- The n lowest bytes of v, the lowest first. -/
def fxB : Nat → Int → List Int
  | 0, _ => []
  | n + 1, v => v % 256 :: fxB n (v / 256)
theorem fxB_len : ∀ (n : Nat) (v : Int), (fxB n v).length = n
  | 0, _ => rfl
  | n + 1, v => by simp [fxB, fxB_len n]
theorem fxB_get : ∀ (n k : Nat) (v : Int), k < n → (fxB n v)[k]? = some (v / 256 ^ k % 256)
  | 0, k, _, h => by omega
  | n + 1, 0, v, _ => by simp [fxB]
  | n + 1, k + 1, v, h => by
    simp only [fxB, List.getElem?_cons_succ]
    rw [fxB_get n k _ (by omega), Int.ediv_ediv_of_nonneg (by omega), Int.pow_succ, Int.mul_comm]

end Go.Proofs.Ytmolfemcciljjaa
