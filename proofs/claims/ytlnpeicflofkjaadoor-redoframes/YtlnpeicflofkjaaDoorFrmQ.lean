import Derived.Test.YtlnpeicflofkjaaDoorFrmP1
namespace Go.Proofs.YtlnpeicflofkjaaDoor
open Go.ChangeShapes Go.WideShapes Go.ChangeAt Go.RowKit
set_option linter.unusedVariables false
set_option maxRecDepth 100000
theorem fxV_congr (s t : ByteArray) (p : Nat) : ∀ n, (∀ i, i < n → bAt s (p + i) = bAt t (p + i)) → fxV s p n = fxV t p n
  | 0, _ => rfl
  | n + 1, h => by
    have h1 := fxV_congr s t p n (fun i hi => h i (by omega))
    have h2 := h n (by omega)
    unfold bAt at h2
    unfold fxV
    rw [h1, h2]
theorem has_bAt {s : ByteArray} {p : Nat} {xs : List Int} (h : HasAt s p xs) (i : Nat) (hi : i < xs.length) : (bAt s (p + i) : Int) = xs[i] := by
  obtain ⟨a, b⟩ := h i hi
  rw [bAt_of _ _ a, b]
theorem bAt_app_l (a b : ByteArray) (i : Nat) (h : i < a.size) : bAt (a ++ b) i = bAt a i := by
  rw [bAt_of _ _ (by simp; omega), bAt_of _ _ h, ByteArray.getElem_append_left h]
theorem bAt_app_r (a b : ByteArray) (i : Nat) : bAt (a ++ b) (a.size + i) = bAt b i := by
  unfold bAt
  by_cases h : i < b.size
  · rw [dif_pos h, dif_pos (by simp; omega), ByteArray.getElem_append_right (by omega)]
    congr 2
    omega
  · rw [dif_neg h, dif_neg (by simp; omega)]
theorem bAt_ext (s : ByteArray) (a b i : Nat) (h : b ≤ s.size) (hi : a + i < b) : bAt (s.extract a b) i = bAt s (a + i) := by
  rw [bAt_of _ _ (by rw [ByteArray.size_extract]; omega), bAt_of _ _ (by omega), ByteArray.getElem_extract]
theorem ext_bAt (s t : ByteArray) (a b : Nat) (hs : b ≤ s.size) (ht : b ≤ t.size) (h : ∀ i, a ≤ i → i < b → bAt s i = bAt t i) : s.extract a b = t.extract a b := by
  apply ByteArray.ext_getElem
  · rw [ByteArray.size_extract, ByteArray.size_extract]; omega
  · intro i h1 h2
    have hi : a + i < b := by rw [ByteArray.size_extract] at h1; omega
    have := h (a + i) (by omega) hi
    rw [← bAt_ext s a b i hs hi, ← bAt_ext t a b i ht hi, bAt_of _ _ h1, bAt_of _ _ h2] at this
    exact UInt8.toNat_inj.1 this
theorem crN_one (p q : List UInt8) (a c : UInt8) (h : crN (p ++ a :: q) = crN (p ++ c :: q)) : a = c := by
  have l1 := ovN_lt (p ++ a :: q) 4294967295 (by omega)
  have l2 := ovN_lt (p ++ c :: q) 4294967295 (by omega)
  have h2 : ovN 4294967295 (p ++ a :: q) = ovN 4294967295 (p ++ c :: q) := by unfold crN at h; omega
  rw [ovN_app, ovN_app] at h2
  have lp := ovN_lt p 4294967295 (by omega)
  generalize ovN 4294967295 p = r at *
  have e1 : ∀ x : UInt8, ovN r (x :: q) = ovN (stN r x) q := fun x => rfl
  rw [e1, e1] at h2
  have h3 := ovN_inj q _ _ (stN_lt _ _ lp) (stN_lt _ _ lp) h2
  have h4 := mN_inj (Nat.xor_lt_two_pow (n := 32) lp (byte_lt a)) (Nat.xor_lt_two_pow (n := 32) lp (byte_lt c)) h3
  have h5 : (r ^^^ r) ^^^ a.toNat = (r ^^^ r) ^^^ c.toNat := by rw [Nat.xor_assoc, h4, Nat.xor_assoc]
  rw [Nat.xor_self, Nat.zero_xor, Nat.zero_xor] at h5
  exact UInt8.toNat_inj.1 h5
theorem toList_bAt (s : ByteArray) (i : Nat) (h : i < s.data.toList.length) : s.data.toList[i].toNat = bAt s i := by
  have h' : i < s.size := by rw [Array.length_toList] at h; exact h
  rw [bAt_of _ _ h']
  rfl
/-- Texts that part in one byte have not one sum. -/
theorem crN_turn (s t : ByteArray) (a : Nat) (hl : s.size = t.size) (ha : a < s.size) (h : ∀ i, i < s.size → i ≠ a → bAt s i = bAt t i) (hn : bAt s a ≠ bAt t a) : crN s.data.toList ≠ crN t.data.toList := by
  intro e
  have ls : s.data.toList.length = s.size := by rw [Array.length_toList]; rfl
  have lt : t.data.toList.length = t.size := by rw [Array.length_toList]; rfl
  have hget : ∀ i (h1 : i < s.data.toList.length) (h2 : i < t.data.toList.length), i ≠ a → s.data.toList[i] = t.data.toList[i] := fun i h1 h2 hi => by
    apply UInt8.toNat_inj.1
    rw [toList_bAt, toList_bAt]
    exact h i (by omega) hi
  have es : s.data.toList = s.data.toList.take a ++ s.data.toList[a]'(by omega) :: s.data.toList.drop (a + 1) := by
    rw [← List.drop_eq_getElem_cons (by omega), List.take_append_drop]
  have et : t.data.toList = s.data.toList.take a ++ t.data.toList[a]'(by omega) :: s.data.toList.drop (a + 1) := by
    conv => lhs; rw [← List.take_append_drop a t.data.toList, List.drop_eq_getElem_cons (by omega : a < t.data.toList.length)]
    congr 1
    · apply List.ext_getElem
      · simp; omega
      · intro i h1 h2
        rw [List.getElem_take, List.getElem_take]
        exact (hget i (by simp at h2; omega) (by simp at h1; omega) (by simp at h1; omega)).symm
    · congr 1
      apply List.ext_getElem
      · simp; omega
      · intro i h1 h2
        rw [List.getElem_drop, List.getElem_drop]
        exact (hget _ (by simp at h2; omega) (by simp at h1; omega) (by omega)).symm
  rw [es, et] at e
  have := crN_one _ _ _ _ e
  apply hn
  rw [← toList_bAt s a (by omega), ← toList_bAt t a (by omega), this]
/-- A number that parts in one byte. -/
theorem fxV_turn (s t : ByteArray) (p n a : Nat) (hs : p + n ≤ s.size) (ht : p + n ≤ t.size) (ha : p ≤ a) (hb : a < p + n) (hn : bAt s a ≠ bAt t a) : fxV s p n ≠ fxV t p n := by
  intro e
  have h1 := fxV_byte s p n (a - p) (by omega) hs
  have h2 := fxV_byte t p n (a - p) (by omega) ht
  rw [e, h2] at h1
  apply hn
  rw [bAt_of _ _ (by omega), bAt_of _ _ (by omega)]
  have e2 : p + (a - p) = a := by omega
  simp only [e2] at h1
  exact h1.symm
end Go.Proofs.YtlnpeicflofkjaaDoor
