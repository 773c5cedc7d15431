import Derived.Test.YtfabgoanammaiaaRdRow4
namespace Go.Proofs.Ytfabgoanammaiaa
set_option linter.unusedVariables false

/-- The bytes of a number, the highest first, read again. -/
theorem magV_hi (s : ByteArray) (p u : Nat) : ∀ n m, (∀ j, j < n → ∃ h : p + j < s.size, s[p + j].toNat = u / 256 ^ (m + n - 1 - j) % 256) → magV s p 0 n = u / 256 ^ m % 256 ^ n
  | 0, m, _ => by simp [magV, Nat.mod_one]
  | n + 1, m, h => by
    obtain ⟨hl, he⟩ := h n (Nat.lt_succ_self n)
    have ih := magV_hi s p u n (m + 1) (fun j hj => by
      obtain ⟨h1, h2⟩ := h j (by omega)
      exact ⟨h1, by rw [h2, show m + (n + 1) - 1 - j = m + 1 + n - 1 - j by omega]⟩)
    rw [magV_succ s p 0 n hl, ih, Nat.xor_zero, he, show m + (n + 1) - 1 - n = m by omega]
    rw [Nat.pow_succ 256 m, ← Nat.div_div_eq_div_mul]
    rw [Nat.pow_succ 256 n, Nat.mul_comm (256 ^ n) 256, Nat.mod_mul]
    omega
/-- The same with every bit turned. -/
theorem magV_lo (s : ByteArray) (p u : Nat) : ∀ n m, (∀ j, j < n → ∃ h : p + j < s.size, s[p + j].toNat = 255 - u / 256 ^ (m + n - 1 - j) % 256) → magV s p 255 n = u / 256 ^ m % 256 ^ n
  | 0, m, _ => by simp [magV, Nat.mod_one]
  | n + 1, m, h => by
    obtain ⟨hl, he⟩ := h n (Nat.lt_succ_self n)
    have ih := magV_lo s p u n (m + 1) (fun j hj => by
      obtain ⟨h1, h2⟩ := h j (by omega)
      exact ⟨h1, by rw [h2, show m + (n + 1) - 1 - j = m + 1 + n - 1 - j by omega]⟩)
    have turn : ∀ x : Fin 256, (255 - x.val) ^^^ 255 = x.val := by decide +kernel
    rw [magV_succ s p 255 n hl, ih, he, show m + (n + 1) - 1 - n = m by omega, turn ⟨u / 256 ^ m % 256, Nat.mod_lt _ (by decide)⟩]
    simp only
    rw [Nat.pow_succ 256 m, ← Nat.div_div_eq_div_mul]
    rw [Nat.pow_succ 256 n, Nat.mul_comm (256 ^ n) 256, Nat.mod_mul]
    omega
end Go.Proofs.Ytfabgoanammaiaa
