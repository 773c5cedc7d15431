import Derived.Lib.Strings
namespace Go.Proofs.YtbfjnidpjmhfiaaGreatDoor
set_option linter.unusedVariables false

/-- What becomes of a register that holds its index, moved on by four bits. -/
def crT : List Nat := [0, 274646895, 549293790, 820201905, 1098587580, 1361435347, 1640403810, 1905808397, 2197175160, 2460548119, 2722870694, 2987750089, 3280807620, 3553878443, 3811616794, 4084100981]
def crT_of (i : Nat) : Nat := crT.getD i 0
def hN (r : Nat) : Nat := crT_of (r % 16) ^^^ (r / 16)
def mN (r : Nat) : Nat := hN (hN r)
def stN (r : Nat) (c : UInt8) : Nat := mN (r ^^^ c.toNat)
/-- The register behind the bytes l. -/
def ovN (r : Nat) (l : List UInt8) : Nat := l.foldl stN r
theorem crT_lt : ∀ i : Fin 16, crT_of i.val < 4294967296 := by decide
theorem crT_lin : ∀ a b : Fin 16, crT_of (a.val ^^^ b.val) = crT_of a.val ^^^ crT_of b.val := by decide
theorem crT_top : ∀ i : Fin 16, crT_of i.val / 268435456 = 0 → i.val = 0 := by decide
theorem hN_lt (r : Nat) (h : r < 4294967296) : hN r < 4294967296 := by
  unfold hN
  have h1 := crT_lt ⟨r % 16, by omega⟩
  exact Nat.xor_lt_two_pow (n := 32) h1 (by omega)
theorem hN_lin (a b : Nat) : hN (a ^^^ b) = hN a ^^^ hN b := by
  unfold hN
  have h1 : (a ^^^ b) % 16 = (a % 16) ^^^ (b % 16) := Nat.xor_mod_two_pow (n := 4)
  have h2 : (a ^^^ b) / 16 = (a / 16) ^^^ (b / 16) := Nat.xor_div_two_pow (n := 4)
  have h3 := crT_lin ⟨a % 16, by omega⟩ ⟨b % 16, by omega⟩
  simp only at h3
  rw [h1, h2, h3]
  generalize crT_of (a % 16) = p
  generalize crT_of (b % 16) = q
  generalize a / 16 = x
  generalize b / 16 = y
  rw [Nat.xor_assoc, Nat.xor_assoc]
  congr 1
  rw [← Nat.xor_assoc, ← Nat.xor_assoc, Nat.xor_comm q x]
theorem hN_top (x : Nat) (hx : x < 4294967296) (h : hN x < 268435456) : x % 16 = 0 ∧ hN x = x / 16 := by
  have e : hN x / 268435456 = (crT_of (x % 16) / 268435456) ^^^ (x / 16 / 268435456) := Nat.xor_div_two_pow (n := 28)
  have e2 : x / 16 / 268435456 = 0 := by omega
  have e3 : hN x / 268435456 = 0 := by omega
  rw [e2, Nat.xor_zero] at e
  have h1 := crT_top ⟨x % 16, by omega⟩ (by simp only; omega)
  simp only at h1
  refine ⟨h1, ?_⟩
  unfold hN
  rw [h1]
  simp [crT_of, crT]
theorem mN_lt (r : Nat) (h : r < 4294967296) : mN r < 4294967296 := hN_lt _ (hN_lt r h)
theorem mN_lin (a b : Nat) : mN (a ^^^ b) = mN a ^^^ mN b := by unfold mN; rw [hN_lin, hN_lin]
theorem mN_top (x : Nat) (hx : x < 4294967296) (h : mN x < 16777216) : x = 256 * mN x := by
  unfold mN at h ⊢
  have h1 := hN_top (hN x) (hN_lt x hx) (by omega)
  have h2 := hN_top x hx (by omega)
  omega
theorem xor_zero_eq {a b : Nat} (h : a ^^^ b = 0) : a = b := by
  have h2 := congrArg (a ^^^ ·) h
  simp only [← Nat.xor_assoc, Nat.xor_self, Nat.zero_xor, Nat.xor_zero] at h2
  exact h2.symm
theorem mN_inj {x y : Nat} (hx : x < 4294967296) (hy : y < 4294967296) (h : mN x = mN y) : x = y := by
  have h1 : mN (x ^^^ y) = 0 := by rw [mN_lin, h, Nat.xor_self]
  have h2 := mN_top (x ^^^ y) (Nat.xor_lt_two_pow (n := 32) hx hy) (by omega)
  exact xor_zero_eq (by omega)
theorem byte_lt (c : UInt8) : c.toNat < 4294967296 := by have := c.toNat_lt; omega
theorem stN_lt (r : Nat) (c : UInt8) (h : r < 4294967296) : stN r c < 4294967296 := mN_lt _ (Nat.xor_lt_two_pow (n := 32) h (byte_lt c))
theorem ovN_lt : ∀ (l : List UInt8) (r : Nat), r < 4294967296 → ovN r l < 4294967296
  | [], r, h => h
  | c :: l, r, h => ovN_lt l (stN r c) (stN_lt r c h)
theorem stN_inj {r q : Nat} (c : UInt8) (hr : r < 4294967296) (hq : q < 4294967296) (h : stN r c = stN q c) : r = q := by
  have h1 := mN_inj (Nat.xor_lt_two_pow (n := 32) hr (byte_lt c)) (Nat.xor_lt_two_pow (n := 32) hq (byte_lt c)) h
  have h2 := congrArg (· ^^^ c.toNat) h1
  simpa [Nat.xor_assoc] using h2
theorem ovN_inj : ∀ (l : List UInt8) (r q : Nat), r < 4294967296 → q < 4294967296 → ovN r l = ovN q l → r = q
  | [], r, q, _, _, h => h
  | c :: l, r, q, hr, hq, h => stN_inj c hr hq (ovN_inj l _ _ (stN_lt r c hr) (stN_lt q c hq) h)
theorem ovN_app (r : Nat) (a b : List UInt8) : ovN r (a ++ b) = ovN (ovN r a) b := by simp [ovN]
theorem xor4 (a b c d : Nat) : (a ^^^ b) ^^^ (c ^^^ d) = (a ^^^ c) ^^^ (b ^^^ d) := by
  rw [Nat.xor_assoc, Nat.xor_assoc]
  congr 1
  rw [← Nat.xor_assoc, ← Nat.xor_assoc, Nat.xor_comm b c]
theorem stN_diff (r q : Nat) (a c : UInt8) : stN r a ^^^ stN q c = mN ((r ^^^ q) ^^^ (a.toNat ^^^ c.toNat)) := by
  unfold stN
  rw [← mN_lin, xor4]
theorem four_inj (r : Nat) (hr : r < 4294967296) (a0 a1 a2 a3 c0 c1 c2 c3 : UInt8) (h : ovN r [a0, a1, a2, a3] = ovN r [c0, c1, c2, c3]) : a0 = c0 ∧ a1 = c1 ∧ a2 = c2 ∧ a3 = c3 := by
  have hb : ∀ a c : UInt8, a.toNat ^^^ c.toNat < 256 := fun a c => Nat.xor_lt_two_pow (n := 8) a.toNat_lt c.toNat_lt
  have hz : ∀ a c : UInt8, a.toNat ^^^ c.toNat = 0 → a = c := fun a c h => UInt8.toNat_inj.1 (xor_zero_eq h)
  simp only [ovN, List.foldl_cons, List.foldl_nil] at h
  have e1 := stN_diff r r a0 c0
  have e2 := stN_diff (stN r a0) (stN r c0) a1 c1
  have e3 := stN_diff (stN (stN r a0) a1) (stN (stN r c0) c1) a2 c2
  have e4 := stN_diff (stN (stN (stN r a0) a1) a2) (stN (stN (stN r c0) c1) c2) a3 c3
  rw [h, Nat.xor_self] at e4
  rw [Nat.xor_self, Nat.zero_xor] at e1
  have l1 : stN r a0 ^^^ stN r c0 < 4294967296 := Nat.xor_lt_two_pow (n := 32) (stN_lt _ _ hr) (stN_lt _ _ hr)
  have l2 : stN (stN r a0) a1 ^^^ stN (stN r c0) c1 < 4294967296 := Nat.xor_lt_two_pow (n := 32) (stN_lt _ _ (stN_lt _ _ hr)) (stN_lt _ _ (stN_lt _ _ hr))
  have l3 : stN (stN (stN r a0) a1) a2 ^^^ stN (stN (stN r c0) c1) c2 < 4294967296 := Nat.xor_lt_two_pow (n := 32) (stN_lt _ _ (stN_lt _ _ (stN_lt _ _ hr))) (stN_lt _ _ (stN_lt _ _ (stN_lt _ _ hr)))
  generalize stN r a0 ^^^ stN r c0 = D1 at *
  generalize stN (stN r a0) a1 ^^^ stN (stN r c0) c1 = D2 at *
  generalize stN (stN (stN r a0) a1) a2 ^^^ stN (stN (stN r c0) c1) c2 = D3 at *
  have b0 := hb a0 c0
  have b1 := hb a1 c1
  have b2 := hb a2 c2
  have b3 := hb a3 c3
  have k0 := hz a0 c0
  have k1 := hz a1 c1
  have k2 := hz a2 c2
  have k3 := hz a3 c3
  generalize a0.toNat ^^^ c0.toNat = d0 at *
  generalize a1.toNat ^^^ c1.toNat = d1 at *
  generalize a2.toNat ^^^ c2.toNat = d2 at *
  generalize a3.toNat ^^^ c3.toNat = d3 at *
  have w3 := mN_top (D3 ^^^ d3) (Nat.xor_lt_two_pow (n := 32) l3 (by omega)) (by omega)
  have g3 : D3 = d3 := xor_zero_eq (by omega)
  have w2 := mN_top (D2 ^^^ d2) (Nat.xor_lt_two_pow (n := 32) l2 (by omega)) (by omega)
  have g2 : D2 = 256 * d3 ^^^ d2 := by
    have := congrArg (· ^^^ d2) w2
    simp only [Nat.xor_assoc, Nat.xor_self, Nat.xor_zero] at this
    rw [this, ← e3, g3]
  have m2 : D2 < 65536 := by rw [g2]; exact Nat.xor_lt_two_pow (n := 16) (by omega) (by omega)
  have w1 := mN_top (D1 ^^^ d1) (Nat.xor_lt_two_pow (n := 32) l1 (by omega)) (by omega)
  have g1 : D1 = 256 * D2 ^^^ d1 := by
    have := congrArg (· ^^^ d1) w1
    simp only [Nat.xor_assoc, Nat.xor_self, Nat.xor_zero] at this
    rw [this, ← e2]
  have m1 : D1 < 16777216 := by rw [g1]; exact Nat.xor_lt_two_pow (n := 24) (by omega) (by omega)
  have w0 := mN_top d0 (by omega) (by omega)
  have z1 : D1 = 0 := by omega
  have y1 : 256 * D2 = d1 := xor_zero_eq (by omega)
  have z2 : D2 = 0 := by omega
  have y2 : 256 * d3 = d2 := xor_zero_eq (by omega)
  exact ⟨k0 (by omega), k1 (by omega), k2 (by omega), k3 (by omega)⟩
end Go.Proofs.YtbfjnidpjmhfiaaGreatDoor
