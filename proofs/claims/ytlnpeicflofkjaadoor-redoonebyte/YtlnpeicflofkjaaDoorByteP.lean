import Derived.Test.YtlnpeicflofkjaaDoorFrmE
import Derived.Test.YtlnpeicflofkjaaDoorFrmD
namespace Go.Proofs.YtlnpeicflofkjaaDoor
open Go.ChangeShapes Go.WideShapes Go.ChangeAt Go.RowKit
set_option linter.unusedVariables false
set_option maxRecDepth 100000
theorem app_tail (a t : ByteArray) : (a ++ t).extract a.size (a ++ t).size = t := ByteArray.extract_append_eq_right rfl (by simp)
theorem dc_app (a t : ByteArray) : dcV (a ++ t) a.size = if dfE t = 0 then (frV t, (a.size : Int) + 24 + (fxV t 4 4 : Nat), 0) else (zeroF, (a.size : Int), dfE t) := by
  rw [dcV_in (by simp), app_tail]
theorem frV_back (k l : Int) (b : ByteArray) (h : mayFr k l b.size = true) : frV (frT k l b) = .agg #[.int .i64 k, .int .u64 l, .string b] ∧ fxV (frT k l b) 4 4 = b.size := by
  obtain ⟨k1, k2, l1, l2, n1, n2⟩ := mayFr_kind h
  obtain ⟨m, rfl⟩ := Int.eq_ofNat_of_zero_le (by omega : 0 ≤ l)
  have hk := frT_kind k m b (by omega) (by omega)
  have hn := frT_len k m b (by omega)
  refine ⟨?_, hn⟩
  unfold frV
  rw [hn, frT_lsn k m b (by omega), frT_body, hk.1]
/-- One byte turned. -/
theorem turned (t : ByteArray) (a x : Nat) (ha : a < t.size) (hx : x < 256) (hx0 : x ≠ 0) : (t.extract 0 a ++ strOfNums [((t[a].toNat ^^^ x : Nat) : Int)] ++ t.extract (a + 1) t.size).size = t.size ∧ (∀ i, i < t.size → i ≠ a → bAt (t.extract 0 a ++ strOfNums [((t[a].toNat ^^^ x : Nat) : Int)] ++ t.extract (a + 1) t.size) i = bAt t i) ∧ bAt (t.extract 0 a ++ strOfNums [((t[a].toNat ^^^ x : Nat) : Int)] ++ t.extract (a + 1) t.size) a ≠ bAt t a := by
  have hc : t[a].toNat < 256 := t[a].toNat_lt
  have hxl : t[a].toNat ^^^ x < 256 := Nat.xor_lt_two_pow (n := 8) hc hx
  have z1 : (t.extract 0 a).size = a := by rw [ByteArray.size_extract]; omega
  have z2 : (strOfNums [((t[a].toNat ^^^ x : Nat) : Int)]).size = 1 := by rw [strOfNums_size]; rfl
  have z3 : (t.extract (a + 1) t.size).size = t.size - (a + 1) := by rw [ByteArray.size_extract]; omega
  have z12 : (t.extract 0 a ++ strOfNums [((t[a].toNat ^^^ x : Nat) : Int)]).size = a + 1 := by rw [ByteArray.size_append, z1, z2]
  refine ⟨by rw [ByteArray.size_append, z12, z3]; omega, fun i hi hne => ?_, ?_⟩
  · rcases Nat.lt_or_ge i a with h | h
    · rw [bAt_app_l _ _ i (by omega), bAt_app_l _ _ i (by omega), bAt_ext t 0 a i (by omega) (by omega), Nat.zero_add]
    · have e : i = (t.extract 0 a ++ strOfNums [((t[a].toNat ^^^ x : Nat) : Int)]).size + (i - (a + 1)) := by rw [z12]; omega
      conv => lhs; rw [e]
      rw [bAt_app_r, bAt_ext t (a + 1) t.size _ (Nat.le_refl _) (by omega)]
      congr 1
      omega
  · have h1 : bAt (t.extract 0 a ++ strOfNums [((t[a].toNat ^^^ x : Nat) : Int)] ++ t.extract (a + 1) t.size) a = t[a].toNat ^^^ x := by
      rw [bAt_app_l _ _ a (by omega)]
      have e : a = (t.extract 0 a).size + 0 := by rw [z1]; rfl
      conv => lhs; rw [show bAt (t.extract 0 a ++ strOfNums [((t[a].toNat ^^^ x : Nat) : Int)]) a = bAt (t.extract 0 a ++ strOfNums [((t[a].toNat ^^^ x : Nat) : Int)]) ((t.extract 0 a).size + 0) from by rw [← e]]
      rw [bAt_app_r]
      obtain ⟨g, hg⟩ := nums_get [((t[a].toNat ^^^ x : Nat) : Int)] (by simp; omega) 0 (by simp)
      rw [bAt_of _ _ g]
      simp at hg
      omega
    rw [h1, bAt_of _ _ ha]
    intro e
    apply hx0
    have : t[a].toNat ^^^ (t[a].toNat ^^^ x) = t[a].toNat ^^^ t[a].toNat := by rw [e]
    rw [← Nat.xor_assoc, Nat.xor_self, Nat.zero_xor] at this
    exact this
end Go.Proofs.YtlnpeicflofkjaaDoor
