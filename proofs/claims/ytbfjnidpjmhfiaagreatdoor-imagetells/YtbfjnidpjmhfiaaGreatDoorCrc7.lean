import Derived.Test.YtbfjnidpjmhfiaaGreatDoorCrc5
namespace Go.Proofs.YtbfjnidpjmhfiaaGreatDoor
set_option linter.unusedVariables false

/-- A register moved on by one bit. -/
def nN (r : Nat) : Nat := if r % 2 = 1 then (r / 2) ^^^ 2197175160 else r / 2
def pN (i : Nat) : Nat := if i = 1 then 2197175160 else 0
theorem nN_eq (r : Nat) : nN r = pN (r % 2) ^^^ (r / 2) := by
  unfold nN pN
  split
  · rw [Nat.xor_comm]
  · rw [Nat.zero_xor]
theorem pN_lin : ∀ a b : Fin 2, pN (a.val ^^^ b.val) = pN a.val ^^^ pN b.val := by decide
theorem nN_lin (a b : Nat) : nN (a ^^^ b) = nN a ^^^ nN b := by
  rw [nN_eq, nN_eq, nN_eq]
  have h1 : (a ^^^ b) % 2 = (a % 2) ^^^ (b % 2) := Nat.xor_mod_two_pow (n := 1)
  have h2 : (a ^^^ b) / 2 = (a / 2) ^^^ (b / 2) := Nat.xor_div_two_pow (n := 1)
  have h3 := pN_lin ⟨a % 2, by omega⟩ ⟨b % 2, by omega⟩
  simp only at h3
  rw [h1, h2, h3, xor4]
theorem nN_lt (r : Nat) (h : r < 4294967296) : nN r < 4294967296 := by
  unfold nN
  split
  · exact Nat.xor_lt_two_pow (n := 32) (by omega) (by omega)
  · omega
def itN : Nat → Nat → Nat
  | 0, r => r
  | m + 1, r => itN m (nN r)
theorem itN_lin : ∀ (m a b : Nat), itN m (a ^^^ b) = itN m a ^^^ itN m b
  | 0, _, _ => rfl
  | m + 1, a, b => by rw [itN, itN, itN, nN_lin, itN_lin m]
theorem itN_add : ∀ (m k r : Nat), itN (m + k) r = itN k (itN m r)
  | 0, k, r => by rw [Nat.zero_add]; rfl
  | m + 1, k, r => by rw [Nat.succ_add, itN, itN, itN_add m k]
theorem itN_lt : ∀ (m r : Nat), r < 4294967296 → itN m r < 4294967296
  | 0, _, h => h
  | m + 1, r, h => itN_lt m _ (nN_lt r h)
theorem itN_zero : ∀ m, itN m 0 = 0
  | 0 => rfl
  | m + 1 => by rw [itN, show nN 0 = 0 by decide, itN_zero m]
theorem itN_four : ∀ i : Fin 16, itN 4 i.val = crT_of i.val := by decide
theorem nN_even (q : Nat) : nN (2 * q) = q := by
  unfold nN
  rw [if_neg (by omega)]
  omega
theorem low_half (r : Nat) : r = (16 * (r / 16)) ^^^ (r % 16) := by
  have h1 : (r ^^^ (16 * (r / 16))) / 16 = (r / 16) ^^^ (16 * (r / 16) / 16) := Nat.xor_div_two_pow (n := 4)
  have h2 : (r ^^^ (16 * (r / 16))) % 16 = (r % 16) ^^^ (16 * (r / 16) % 16) := Nat.xor_mod_two_pow (n := 4)
  rw [Nat.mul_div_cancel_left _ (by omega), Nat.xor_self] at h1
  rw [Nat.mul_mod_right, Nat.xor_zero] at h2
  have h3 : r ^^^ (16 * (r / 16)) = r % 16 := by omega
  rw [← h3, Nat.xor_comm r, ← Nat.xor_assoc, Nat.xor_self, Nat.zero_xor]
theorem hN_it (r : Nat) : hN r = itN 4 r := by
  have e := itN_four ⟨r % 16, by omega⟩
  simp only at e
  have h16 : itN 4 (16 * (r / 16)) = r / 16 := by
    rw [show 16 * (r / 16) = 2 * (2 * (2 * (2 * (r / 16)))) by omega]
    simp only [itN, nN_even]
  conv => rhs; rw [low_half r, itN_lin, e, h16]
  unfold hN
  rw [Nat.xor_comm]
theorem mN_it (r : Nat) : mN r = itN 8 r := by
  unfold mN
  rw [hN_it, hN_it, ← itN_add]
/-- Behind n bytes the register is the moved one, turned by what the bytes alone give. -/
theorem ovN_split : ∀ (l : List UInt8) (r : Nat), ovN r l = itN (8 * l.length) r ^^^ ovN 0 l
  | [], r => by simp [ovN, itN]
  | c :: l, r => by
    have e : ∀ q, ovN q (c :: l) = ovN (stN q c) l := fun _ => rfl
    rw [e, e, ovN_split l (stN r c), ovN_split l (stN 0 c)]
    have h1 : stN r c = mN r ^^^ stN 0 c := by
      unfold stN
      rw [mN_lin, Nat.zero_xor]
    rw [h1, itN_lin, mN_it, ← itN_add, List.length_cons, show 8 + 8 * l.length = 8 * (l.length + 1) by omega, Nat.xor_assoc]
theorem compl_xor (q : Nat) (h : q < 4294967296) : 4294967295 - q = 4294967295 ^^^ q := by
  have h1 : (BitVec.allOnes 32 ^^^ BitVec.ofNat 32 q).toNat = 4294967295 ^^^ q := by
    rw [BitVec.toNat_xor, BitVec.toNat_allOnes, BitVec.toNat_ofNat, Nat.mod_eq_of_lt (by omega)]
  rw [← h1, BitVec.allOnes_xor, BitVec.toNat_not, BitVec.toNat_ofNat, Nat.mod_eq_of_lt (by omega)]
theorem crN_lt (l : List UInt8) : crN l < 4294967296 := by unfold crN; omega
theorem crN_join (y z : List UInt8) : crN (y ++ z) = itN (8 * z.length) (crN y) ^^^ crN z := by
  have l1 := ovN_lt y 4294967295 (by omega)
  have l2 := ovN_lt z 4294967295 (by omega)
  have l3 := ovN_lt (y ++ z) 4294967295 (by omega)
  unfold crN
  rw [compl_xor _ l1, compl_xor _ l2, compl_xor _ l3, ovN_app, ovN_split z (ovN 4294967295 y), ovN_split z 4294967295, itN_lin]
  generalize itN (8 * z.length) 4294967295 = p
  generalize itN (8 * z.length) (ovN 4294967295 y) = q
  generalize ovN 0 z = u
  generalize (4294967295 : Nat) = m
  rw [xor4 p q m (p ^^^ u), Nat.xor_comm p m, xor4 m p q (p ^^^ u)]
  have : p ^^^ (p ^^^ u) = u := by rw [← Nat.xor_assoc, Nat.xor_self, Nat.zero_xor]
  rw [this, Nat.xor_assoc]
/-- The product, f bits of it. -/
def tsum : Nat → Nat → Nat → Nat
  | 0, _, _ => 0
  | f + 1, a, b => (if a / 2147483648 % 2 = 1 then b else 0) ^^^ tsum f (a * 2 % 4294967296) (nN b)
theorem tsum_zero : ∀ (f b : Nat), tsum f 0 b = 0
  | 0, _ => rfl
  | f + 1, b => by simp [tsum, tsum_zero f]
theorem nN_zero : nN 0 = 0 := by decide
theorem tsum_it : ∀ (f a b : Nat), tsum f a (nN b) = nN (tsum f a b)
  | 0, _, _ => nN_zero.symm
  | f + 1, a, b => by
    rw [tsum, tsum, nN_lin, tsum_it f]
    congr 1
    split
    · rfl
    · exact nN_zero.symm
theorem tsum_itN : ∀ (m f a b : Nat), tsum f a (itN m b) = itN m (tsum f a b)
  | 0, _, _, _ => rfl
  | m + 1, f, a, b => by rw [itN, itN, tsum_itN m, tsum_it]
theorem top_join (f c : Nat) (h : c / 2 ^ f % 2 = 1) : 2 ^ f ^^^ (c % 2 ^ f) = c % 2 ^ (f + 1) := by
  have hp : 0 < 2 ^ f := Nat.pow_pos (by omega)
  have e : c % 2 ^ (f + 1) = 2 ^ f + c % 2 ^ f := by
    rw [Nat.pow_succ, Nat.mod_mul, h]
    omega
  have h1 : ((2 ^ f + c % 2 ^ f) ^^^ 2 ^ f) / 2 ^ f = ((2 ^ f + c % 2 ^ f) / 2 ^ f) ^^^ (2 ^ f / 2 ^ f) := Nat.xor_div_two_pow
  have h2 : ((2 ^ f + c % 2 ^ f) ^^^ 2 ^ f) % 2 ^ f = ((2 ^ f + c % 2 ^ f) % 2 ^ f) ^^^ (2 ^ f % 2 ^ f) := Nat.xor_mod_two_pow
  have hm : c % 2 ^ f < 2 ^ f := Nat.mod_lt _ hp
  rw [Nat.div_self hp, Nat.add_div_left _ hp, Nat.div_eq_of_lt hm] at h1
  rw [Nat.mod_self, Nat.xor_zero, Nat.add_mod_left, Nat.mod_mod] at h2
  have h3 : (2 ^ f + c % 2 ^ f) ^^^ 2 ^ f = c % 2 ^ f := by
    have := Nat.div_add_mod ((2 ^ f + c % 2 ^ f) ^^^ 2 ^ f) (2 ^ f)
    rw [h1, h2] at this
    simpa using this.symm
  have h4 := congrArg (2 ^ f ^^^ ·) h3
  simp only [Nat.xor_comm _ (2 ^ f), ← Nat.xor_assoc, Nat.xor_self, Nat.zero_xor] at h4
  rw [e]
  exact h4.symm
theorem tsum_one : ∀ (f a : Nat), f ≤ 32 → tsum f (a * 2 ^ (32 - f) % 4294967296) (2 ^ (f - 1)) = a % 2 ^ f
  | 0, a, _ => by simp [tsum, Nat.mod_one]
  | f + 1, a, h => by
    have e32 : (4294967296 : Nat) = 2 ^ (31 - f) * 2 ^ (f + 1) := by rw [← Nat.pow_add, show 31 - f + (f + 1) = 32 by omega]
    have e31 : (2147483648 : Nat) = 2 ^ (31 - f) * 2 ^ f := by rw [← Nat.pow_add, show 31 - f + f = 31 by omega]
    have hp : 0 < 2 ^ (31 - f) := Nat.pow_pos (by omega)
    have ha : a * 2 ^ (32 - (f + 1)) % 4294967296 = 2 ^ (31 - f) * (a % 2 ^ (f + 1)) := by
      rw [show 32 - (f + 1) = 31 - f by omega, e32, Nat.mul_comm a, Nat.mul_mod_mul_left]
    have ht : a * 2 ^ (32 - (f + 1)) % 4294967296 / 2147483648 % 2 = a / 2 ^ f % 2 := by
      rw [ha, e31, Nat.mul_div_mul_left _ _ hp, Nat.pow_succ, Nat.mod_mul_right_div_self, Nat.mod_mod]
    have hn : a * 2 ^ (32 - (f + 1)) % 4294967296 * 2 % 4294967296 = a * 2 ^ (32 - f) % 4294967296 := by
      rw [Nat.mod_mul_mod, Nat.mul_assoc, ← Nat.pow_succ, show (32 - (f + 1)).succ = 32 - f by omega]
    rw [tsum, ht, hn, show f + 1 - 1 = f by omega]
    have hb : tsum f (a * 2 ^ (32 - f) % 4294967296) (nN (2 ^ f)) = a % 2 ^ f := by
      match f, h with
      | 0, _ => simp [tsum, Nat.mod_one]
      | f + 1, h =>
        rw [show nN (2 ^ (f + 1)) = 2 ^ (f + 1 - 1) by rw [Nat.pow_succ, Nat.mul_comm, nN_even]; rfl]
        exact tsum_one (f + 1) a (by omega)
    rw [hb]
    have h2 : a / 2 ^ f % 2 = 0 ∨ a / 2 ^ f % 2 = 1 := by omega
    rcases h2 with h2 | h2
    · rw [if_neg (by omega), Nat.zero_xor, Nat.pow_succ, Nat.mod_mul, h2]
      omega
    · rw [if_pos h2, top_join f a h2]
/-- A product with a power of x is a move. -/
theorem tsum_power (m a : Nat) (ha : a < 4294967296) : tsum 32 a (itN m 2147483648) = itN m a := by
  rw [tsum_itN]
  have h := tsum_one 32 a (by omega)
  simp only [Nat.sub_self, Nat.pow_zero, Nat.mul_one] at h
  rw [Nat.mod_eq_of_lt ha] at h
  rw [show (2147483648 : Nat) = 2 ^ (32 - 1) by decide, h]
end Go.Proofs.YtbfjnidpjmhfiaaGreatDoor
