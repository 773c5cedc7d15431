import Derived.Test.YtbfjnidpjmhfiaaGreatDoorReadB
namespace Go.Proofs.YtbfjnidpjmhfiaaGreatDoor
open Go.ChangeShapes Go.WideShapes Go.ChangeAt Go.RowKit
set_option linter.unusedVariables false

theorem ruF_bound (s : ByteArray) (p : Nat) : ∀ f n acc, f + n = 10 → acc < 128 ^ n → (ruF s p f n acc).1 < 18446744073709551616 ∧ (ruF s p f n acc).2.1 ≤ 10 ∧ 0 ≤ (ruF s p f n acc).2.2 ∧ (ruF s p f n acc).2.2 ≤ 19 ∧ ((ruF s p f n acc).2.2 = 0 → p + (ruF s p f n acc).2.1 ≤ s.size)
  | 0, n, acc, _, _ => by simp [ruF]
  | f + 1, n, acc, hf, ha => by
    by_cases h : p + n < s.size
    · by_cases h9 : n = 9 ∧ 1 < s[p + n].toNat
      · rw [ruF_far s p f n acc h h9.1 h9.2]; simp
      · by_cases hb : 128 ≤ s[p + n].toNat
        · have h2 : s[p + n].toNat % 128 * 128 ^ n ≤ 127 * 128 ^ n := Nat.mul_le_mul (by omega) (Nat.le_refl _)
          rw [ruF_more s p f n acc h (fun e => h9 ⟨e, by omega⟩) hb]
          exact ruF_bound s p f (n + 1) _ (by omega) (by rw [Nat.pow_succ]; omega)
        · by_cases hc : s[p + n].toNat = 0 ∧ 0 < n
          · rw [ruF_canon s p f n acc h hc.2 hc.1]; simp
          · rw [ruF_done s p f n acc h (by omega) (by omega) (by omega)]
            have hw := worth_lt (s[p + n].toNat) n (by omega) (by omega) (by omega)
            refine ⟨?_, by simp; omega, by simp, by simp, fun _ => by simp; omega⟩
            simp only
            have hd : 128 ^ n ∣ 18446744073709551616 := by
              rcases Nat.lt_or_ge n 10 with h10 | h10
              · exact ⟨2 ^ (64 - 7 * n), by
                  have : n = 0 ∨ n = 1 ∨ n = 2 ∨ n = 3 ∨ n = 4 ∨ n = 5 ∨ n = 6 ∨ n = 7 ∨ n = 8 ∨ n = 9 := by omega
                  rcases this with rfl | rfl | rfl | rfl | rfl | rfl | rfl | rfl | rfl | rfl <;> rfl⟩
              · omega
            obtain ⟨q, hq⟩ := hd
            have h3 : s[p + n].toNat < q := by
              apply Nat.lt_of_mul_lt_mul_left (a := 128 ^ n)
              rw [← hq, Nat.mul_comm]; exact hw
            have h4 : (s[p + n].toNat + 1) * 128 ^ n ≤ q * 128 ^ n := Nat.mul_le_mul (by omega) (Nat.le_refl _)
            rw [Nat.add_mul, Nat.mul_comm q] at h4
            omega
    · rw [ruF_short s p f n acc h]; simp
theorem ruV_bound (s : ByteArray) (p : Nat) : (ruV s p).1 < 18446744073709551616 ∧ (ruV s p).2.1 ≤ 10 ∧ 0 ≤ (ruV s p).2.2 ∧ (ruV s p).2.2 ≤ 19 ∧ ((ruV s p).2.2 = 0 → p + (ruV s p).2.1 ≤ s.size) := ruF_bound s p 10 0 0 rfl (by simp)

/-- The number with a sign that stands for one without. -/
def sdec (u : Nat) : Int := if u % 2 = 0 then ((u / 2 : Nat) : Int) else -1 - ((u / 2 : Nat) : Int)
theorem sdec_xor (u : Nat) (h : u < 18446744073709551616) : bits .xor .i64 ((u : Int) / 2) (-((u : Int) % 2)) = sdec u := by
  unfold sdec
  have hq : u / 2 < 9223372036854775808 := by omega
  by_cases e : u % 2 = 0
  · rw [if_pos e, show ((u : Int) % 2) = 0 from by omega, show (u : Int) / 2 = ((u / 2 : Nat) : Int) from by omega]
    generalize u / 2 = q at *
    show IntKind.i64.wrap ((BitVec.ofInt 64 (q : Int) ^^^ BitVec.ofInt 64 (-0)).toNat : Int) = _
    rw [show BitVec.ofInt 64 (-0) = 0#64 from rfl, BitVec.xor_zero, ofInt_u64 q (by omega), IntKind.wrap_i64]
    omega
  · rw [if_neg e, show ((u : Int) % 2) = 1 from by omega, show (u : Int) / 2 = ((u / 2 : Nat) : Int) from by omega]
    generalize u / 2 = q at *
    show IntKind.i64.wrap ((BitVec.ofInt 64 (q : Int) ^^^ BitVec.ofInt 64 (-1)).toNat : Int) = _
    rw [show BitVec.ofInt 64 (-1) = BitVec.allOnes 64 from rfl, BitVec.xor_allOnes, BitVec.toNat_not, ofInt_u64 q (by omega), IntKind.wrap_i64]
    omega

/-- n bytes from p on, the lowest first. -/
def fxV (s : ByteArray) (p : Nat) : Nat → Nat
  | 0 => 0
  | n + 1 => fxV s p n + (if h : p + n < s.size then s[p + n].toNat else 0) * 256 ^ n
theorem fxV_succ (s : ByteArray) (p n : Nat) (h : p + n < s.size) : fxV s p (n + 1) = fxV s p n + s[p + n].toNat * 256 ^ n := by simp [fxV, h]
theorem fxV_lt (s : ByteArray) (p : Nat) : ∀ n, fxV s p n < 256 ^ n
  | 0 => by simp [fxV]
  | n + 1 => by
    have h1 := fxV_lt s p n
    unfold fxV
    split
    · rename_i h
      have hb : s[p + n].toNat ≤ 255 := by have := s[p + n].toNat_lt; omega
      have h2 : s[p + n].toNat * 256 ^ n ≤ 255 * 256 ^ n := Nat.mul_le_mul hb (Nat.le_refl _)
      rw [Nat.pow_succ]; omega
    · rw [Nat.pow_succ]; omega
theorem or_shift8 (A b n : Nat) (ha : A < 256 ^ n) (hb : b < 256) (hn : n ≤ 7) :
    bits .or .u64 (A : Int) (IntKind.u64.wrap ((b : Int) * 2 ^ (8 * n))) = ((A + b * 256 ^ n : Nat) : Int) := by
  have h3 : (256 : Nat) ^ n ≤ 256 ^ 7 := Nat.pow_le_pow_right (by omega) hn
  have h4 : b * 256 ^ n ≤ 255 * 256 ^ 7 := Nat.mul_le_mul (by omega) h3
  have h5 : 255 * 256 ^ 7 < 18446744073709551616 := by decide
  have h6 : (256 : Nat) ^ 7 < 18446744073709551616 := by decide
  have e2 : (b : Int) * 2 ^ (8 * n) = ((b * 256 ^ n : Nat) : Int) := by rw [Int.pow_mul]; simp
  rw [IntKind.wrap_u64, e2, Int.emod_eq_of_lt (by omega) (by omega), u64_or_nat _ _ (by omega) (by omega)]
  have := nat_join (8 * n) (b * 256 ^ n) A (by rw [show (256 : Nat) ^ n = 2 ^ (8 * n) from by rw [Nat.pow_mul]]; simp) (by rw [Nat.pow_mul, show 2 ^ 8 = 256 from rfl]; omega)
  rw [Nat.or_comm, this, Nat.add_comm]
end Go.Proofs.YtbfjnidpjmhfiaaGreatDoor
