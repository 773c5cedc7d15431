import Derived.Test.YtfabgoanammaiaaRdPlain2
namespace Go.Proofs.Ytfabgoanammaiaa
set_option linter.unusedVariables false

theorem hiB_get : ∀ (n : Nat) (v : Int) (j : Nat) (h : j < (hiB n v).length), (hiB n v)[j] = v / 2 ^ (8 * (n - 1 - j)) % 256
  | 0, v, j, h => by simp [hiB] at h
  | n + 1, v, 0, h => by simp [hiB]
  | n + 1, v, j + 1, h => by
    have := hiB_get n v j (by simp [hiB] at h; exact h)
    simp only [hiB, List.getElem_cons_succ]
    rw [this, show n + 1 - 1 - (j + 1) = n - 1 - j by omega]
theorem szF_fit : ∀ (f u : Nat), u < 256 ^ f → u < 256 ^ szF f u
  | 0, u, h => by simpa [szF] using h
  | f + 1, u, h => by
    unfold szF
    split
    · rename_i e; rw [e]; exact Nat.pow_pos (by decide)
    · have ih := szF_fit f (u / 256) (by rw [Nat.pow_succ] at h; exact (Nat.div_lt_iff_lt_mul (by decide)).2 h)
      rw [Nat.pow_succ]
      exact (Nat.div_lt_iff_lt_mul (by decide)).1 ih
theorem szB_fit (u : Nat) (h : u < 18446744073709551616) : u < 256 ^ szB u := szF_fit 8 u (by rw [show (256 : Nat) ^ 8 = 18446744073709551616 by decide]; exact h)
theorem pow28 (e : Nat) : (2 : Int) ^ (8 * e) = ((256 ^ e : Nat) : Int) := by rw [Int.pow_mul]; simp
theorem turn_byte (u e : Nat) (hu : u < 18446744073709551616) (he : e < 8) : (18446744073709551615 - u) / 256 ^ e % 256 = 255 - u / 256 ^ e % 256 := by
  match e, he with
  | 0, _ => simp only [Nat.pow_zero, Nat.div_one]; omega
  | 1, _ => simp only [show (256 : Nat) ^ 1 = 256 by decide]; omega
  | 2, _ => simp only [show (256 : Nat) ^ 2 = 65536 by decide]; omega
  | 3, _ => simp only [show (256 : Nat) ^ 3 = 16777216 by decide]; omega
  | 4, _ => simp only [show (256 : Nat) ^ 4 = 4294967296 by decide]; omega
  | 5, _ => simp only [show (256 : Nat) ^ 5 = 1099511627776 by decide]; omega
  | 6, _ => simp only [show (256 : Nat) ^ 6 = 281474976710656 by decide]; omega
  | 7, _ => simp only [show (256 : Nat) ^ 7 = 72057594037927936 by decide]; omega
theorem mag_pos (s : ByteArray) (p u : Nat) (hp : p ≤ s.size) (hu : u < 9223372036854775808) (h : Lies s p (hiB (szB u) (u : Int))) : magV s p 0 (szB u) = u ∧ magE s p 0 (szB u) = 0 := by
  have hv : magV s p 0 (szB u) = u := by
    rw [magV_hi s p u (szB u) 0 (fun j hj => ?_)]
    · rw [Nat.pow_zero, Nat.div_one]; exact Nat.mod_eq_of_lt (szB_fit u (by omega))
    · obtain ⟨h1, h2⟩ := h j (by rw [hiB_len]; exact hj)
      refine ⟨h1, ?_⟩
      rw [hiB_get, pow28] at h2
      rw [Nat.zero_add]
      have : ((s[p + j].toNat : Nat) : Int) = ((u / 256 ^ (szB u - 1 - j) % 256 : Nat) : Int) := by rw [h2]; simp
      exact Int.ofNat.inj this
  refine ⟨hv, ?_⟩
  have hin : ¬ s.size < p + szB u := by
    intro hx
    obtain ⟨h1, _⟩ := h (szB u - 1) (by rw [hiB_len]; omega)
    omega
  unfold magE
  rw [if_neg hin, hv, if_neg (by omega), if_neg (by omega)]
theorem mag_neg (s : ByteArray) (p u : Nat) (hp : p ≤ s.size) (hu : u < 9223372036854775808) (h : Lies s p (hiB (szB u) (18446744073709551615 - (u : Int)))) : magV s p 255 (szB u) = u ∧ magE s p 255 (szB u) = 0 := by
  have hz := szB_le u
  have hv : magV s p 255 (szB u) = u := by
    rw [magV_lo s p u (szB u) 0 (fun j hj => ?_)]
    · rw [Nat.pow_zero, Nat.div_one]; exact Nat.mod_eq_of_lt (szB_fit u (by omega))
    · obtain ⟨h1, h2⟩ := h j (by rw [hiB_len]; exact hj)
      refine ⟨h1, ?_⟩
      rw [hiB_get, pow28] at h2
      rw [Nat.zero_add, ← turn_byte u _ (by omega) (by omega)]
      have : ((s[p + j].toNat : Nat) : Int) = (((18446744073709551615 - u) / 256 ^ (szB u - 1 - j) % 256 : Nat) : Int) := by
        rw [h2, show (18446744073709551615 : Int) - (u : Int) = ((18446744073709551615 - u : Nat) : Int) by omega]; simp
      exact Int.ofNat.inj this
  refine ⟨hv, ?_⟩
  have hin : ¬ s.size < p + szB u := by
    intro hx
    obtain ⟨h1, _⟩ := h (szB u - 1) (by rw [hiB_len]; omega)
    omega
  unfold magE
  rw [if_neg hin, hv, if_neg (by omega), if_neg (by omega)]
end Go.Proofs.Ytfabgoanammaiaa
