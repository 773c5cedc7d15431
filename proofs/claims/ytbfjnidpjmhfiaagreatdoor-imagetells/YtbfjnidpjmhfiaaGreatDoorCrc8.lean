import Derived.Test.YtbfjnidpjmhfiaaGreatDoorCrc7
namespace Go.Proofs.YtbfjnidpjmhfiaaGreatDoor
open Go.ChangeShapes Go.WideShapes Go.ChangeAt Go.RowKit Go.MuLone
set_option linter.unusedVariables false

/-- How often a number must be doubled till nothing is left of it. -/
def dbl : Nat → Nat → Nat
  | 0, _ => 0
  | f + 1, a => if a % 4294967296 = 0 then 0 else 1 + dbl f (a * 2 % 4294967296)
theorem dbl_more : ∀ (f a : Nat), a < 4294967296 → a * 2 ^ f % 4294967296 = 0 → dbl (f + 1) a = dbl f a
  | 0, a, h0, h => by
    simp only [Nat.pow_zero, Nat.mul_one] at h
    simp [dbl, h]
  | f + 1, a, h0, h => by
    show (if a % 4294967296 = 0 then 0 else 1 + dbl (f + 1) (a * 2 % 4294967296)) = (if a % 4294967296 = 0 then 0 else 1 + dbl f (a * 2 % 4294967296))
    rw [dbl_more f (a * 2 % 4294967296) (Nat.mod_lt _ (by omega)) (by rw [Nat.mod_mul_mod, Nat.mul_assoc, Nat.mul_comm 2, ← Nat.pow_succ]; exact h)]
theorem dbl_less (a : Nat) (h0 : a < 4294967296) (h : a ≠ 0) : dbl 32 (a * 2 % 4294967296) < dbl 32 a := by
  have e : dbl (32 + 1) a = 1 + dbl 32 (a * 2 % 4294967296) := by
    show (if a % 4294967296 = 0 then 0 else 1 + dbl 32 (a * 2 % 4294967296)) = _
    rw [if_neg (by omega)]
  have e2 := dbl_more 32 a h0 (by rw [show (2 : Nat) ^ 32 = 4294967296 by decide, Nat.mul_mod_left])
  omega
theorem i64_and1 (n : Int) : bits .and .i64 n 1 = n % 2 := by
  have h1 : (BitVec.ofInt 64 1).toNat = 2 ^ 1 - 1 := by decide
  have key : (BitVec.ofInt 64 n &&& BitVec.ofInt 64 1).toNat = (n % ((2 ^ 64 : Nat) : Int)).toNat % 2 ^ 1 := by
    rw [BitVec.toNat_and, BitVec.toNat_ofInt, h1, Nat.and_two_pow_sub_one_eq_mod]
  show IntKind.i64.wrap ((BitVec.ofInt 64 n &&& BitVec.ofInt 64 1).toNat : Nat) = n % 2
  rw [key, IntKind.wrap_i64]
  omega
theorem byteOn_it : itN (8 * 2 ^ 0) 2147483648 = 8388608 := by decide
end Go.Proofs.YtbfjnidpjmhfiaaGreatDoor
