import Derived.Test.YtbfjnidpjmhfiaaGreatDoorBack1
namespace Go.Proofs.YtbfjnidpjmhfiaaGreatDoor
open Go.ChangeShapes Go.WideShapes Go.ChangeAt Go.RowKit
set_option linter.unusedVariables false
set_option maxRecDepth 100000
theorem HasAt.cons {s : ByteArray} {p : Nat} {x : Int} {L : List Int} (hp : p < s.size) (hx : (s[p].toNat : Int) = x) (h : HasAt s (p + 1) L) : HasAt s p (x :: L) := by
  intro j hj
  cases j with
  | zero => exact ⟨hp, by simpa using hx⟩
  | succ j =>
    obtain ⟨h1, h2⟩ := h j (by simpa using hj)
    refine ⟨by omega, ?_⟩
    rw [List.getElem_cons_succ, ← h2]
    congr 3
    omega
theorem HasAt.nil (s : ByteArray) (p : Nat) : HasAt s p [] := fun j hj => absurd hj (by simp)
theorem HasAt.append {s : ByteArray} {p : Nat} : ∀ {L M : List Int}, HasAt s p L → HasAt s (p + L.length) M → HasAt s p (L ++ M)
  | [], M, h, g => by simpa using g
  | x :: L, M, h, g => by
    obtain ⟨h1, h2⟩ := h.head
    exact HasAt.cons h1 h2 (HasAt.append h.tail (by rw [List.length_cons] at g; rw [show p + 1 + L.length = p + (L.length + 1) by omega]; exact g))
theorem has_whole (s : ByteArray) (L : List Int) (h : HasAt s 0 L) (hl : L.length = s.size) : s = strOfNums L := by
  have hz := strOfNums_size L
  apply ByteArray.ext
  apply Array.ext
  · show s.size = (strOfNums L).size
    omega
  · intro i h1 h2
    have hi : i < s.size := h1
    obtain ⟨g1, g2⟩ := h i (by omega)
    have e : (strOfNums L).data[i] = UInt8.ofNat (L[i]'(by omega)).toNat := by simp [strOfNums]
    rw [e, ← g2]
    have e2 : s[0 + i] = s.data[i] := by simp only [Nat.zero_add]; rfl
    rw [e2]
    simp
theorem ru_formH (s : ByteArray) (p : Nat) (f : Nat) : ∀ (n acc u m : Nat), f + n = 9 → ruF s p (f + 1) n acc = (u, m, 0) → ∃ v : Nat, u = acc + v * 128 ^ n ∧ (0 < v ∨ n = 0) ∧ HasAt s (p + n) (uvF f v) ∧ m = n + (uvF f v).length := by
  induction f with
  | zero =>
    intro n acc u m hf h
    have hn : n = 9 := by omega
    subst hn
    by_cases hl : p + 9 < s.size
    · by_cases h1 : 1 < s[p + 9].toNat
      · rw [ruF_far s p 0 9 acc hl rfl h1] at h; simp at h
      · by_cases h0 : s[p + 9].toNat = 0
        · rw [ruF_canon s p 0 9 acc hl (by omega) h0] at h; simp at h
        · rw [ruF_done s p 0 9 acc hl (by omega) (by omega) (.inl h0)] at h
          simp only [Prod.mk.injEq, and_true] at h
          refine ⟨s[p + 9].toNat, h.1.symm, .inl (by omega), HasAt.cons hl rfl (HasAt.nil _ _), ?_⟩
          simp only [uvF, List.length_singleton]; exact h.2.symm
    · rw [ruF_short s p 0 9 acc hl] at h; simp at h
  | succ f ih =>
    intro n acc u m hf h
    by_cases hl : p + n < s.size
    · by_cases hb : 128 ≤ s[p + n].toNat
      · rw [ruF_more s p (f + 1) n acc hl (by omega) hb] at h
        obtain ⟨v, h1, h2, h3, h4⟩ := ih (n + 1) _ u m (by omega) h
        have hlt := s[p + n].toNat_lt
        have h2' : 0 < v := by omega
        have e : uvF (f + 1) ((v * 128 + s[p + n].toNat % 128 : Nat) : Int) = ((s[p + n].toNat : Nat) : Int) :: uvF f (v : Int) := by
          rw [uvF_great f _ (by omega)]
          congr 1
          · omega
          · congr 1; omega
        refine ⟨v * 128 + s[p + n].toNat % 128, ?_, .inl (by omega), ?_, ?_⟩
        · rw [h1, Nat.add_mul, Nat.pow_succ, Nat.mul_assoc v 128, Nat.mul_comm 128 (128 ^ n)]; omega
        · rw [e]
          exact HasAt.cons hl rfl (by rw [show p + n + 1 = p + (n + 1) by omega]; exact h3)
        · rw [e, h4, List.length_cons]; omega
      · by_cases h0 : s[p + n].toNat = 0 ∧ 0 < n
        · rw [ruF_canon s p (f + 1) n acc hl h0.2 h0.1] at h; simp at h
        · rw [ruF_done s p (f + 1) n acc hl (by omega) (by omega) (by omega)] at h
          simp only [Prod.mk.injEq, and_true] at h
          have e : uvF (f + 1) ((s[p + n].toNat : Nat) : Int) = [((s[p + n].toNat : Nat) : Int)] := uvF_small _ _ (by omega)
          refine ⟨s[p + n].toNat, h.1.symm, by omega, by rw [e]; exact HasAt.cons hl rfl (HasAt.nil _ _), ?_⟩
          rw [e, List.length_singleton]; exact h.2.symm
    · rw [ruF_short s p (f + 1) n acc hl] at h; simp at h
theorem ru_form0H (s : ByteArray) (p u m : Nat) (h : ruV s p = (u, m, 0)) : HasAt s p (uvB u) ∧ m = (uvB u).length := by
  obtain ⟨v, h1, h2, h3, h4⟩ := ru_formH s p 9 0 0 u m rfl h
  simp only [Nat.pow_zero, Nat.mul_one, Nat.zero_add] at h1
  subst h1
  exact ⟨h3, by rw [h4, Nat.zero_add]; rfl⟩
theorem HasAt.left {s : ByteArray} {p : Nat} {L M : List Int} (h : HasAt s p (L ++ M)) : HasAt s p L := by
  intro j hj
  obtain ⟨h1, h2⟩ := h j (by rw [List.length_append]; omega)
  refine ⟨h1, ?_⟩
  rw [h2, List.getElem_append_left hj]
theorem HasAt.right {s : ByteArray} {p : Nat} {L M : List Int} (h : HasAt s p (L ++ M)) : HasAt s (p + L.length) M := by
  intro j hj
  obtain ⟨h1, h2⟩ := h (L.length + j) (by rw [List.length_append]; omega)
  refine ⟨by omega, ?_⟩
  rw [List.getElem_append_right (by omega)] at h2
  simp only [Nat.add_sub_cancel_left] at h2
  rw [← h2]
  congr 3
  omega
theorem HasAt.size {s : ByteArray} {p : Nat} {L : List Int} (h : HasAt s p L) (hp : p ≤ s.size) : p + L.length ≤ s.size := by
  rcases Nat.eq_zero_or_pos L.length with e | e
  · omega
  · obtain ⟨h1, _⟩ := h (L.length - 1) (by omega)
    omega
theorem fxV_get (s : ByteArray) (p : Nat) : ∀ (n k : Nat) (hk : k < n) (hn : p + n ≤ s.size), fxV s p n / 256 ^ k % 256 = (s[p + k]'(by omega)).toNat
  | n + 1, k, hk, hn => by
    rw [fxV_succ s p n (by omega)]
    have hA := fxV_lt s p n
    have hb := s[p + n].toNat_lt
    rcases Nat.lt_or_ge k n with h | h
    · have ih := fxV_get s p n k h (by omega)
      have e : s[p + n].toNat * 256 ^ n = 256 ^ k * (256 * (s[p + n].toNat * 256 ^ (n - k - 1))) := by
        have : n = k + (1 + (n - k - 1)) := by omega
        rw [show (256 : Nat) ^ n = 256 ^ (k + (1 + (n - k - 1))) by rw [← this], Nat.pow_add, Nat.pow_add, Nat.pow_one]
        simp [Nat.mul_comm, Nat.mul_left_comm, Nat.mul_assoc]
      rw [e, Nat.add_mul_div_left _ _ (Nat.pow_pos (by omega)), Nat.add_mul_mod_self_left]
      exact ih
    · have hkn : k = n := by omega
      subst hkn
      rw [Nat.add_mul_div_right _ _ (Nat.pow_pos (by omega)), Nat.div_eq_of_lt hA, Nat.zero_add, Nat.mod_eq_of_lt hb]
theorem fx_form (s : ByteArray) (p n : Nat) (hn : p + n ≤ s.size) : HasAt s p (fxB n (fxV s p n : Nat)) := by
  intro k hk
  rw [fxB_len] at hk
  refine ⟨by omega, ?_⟩
  have h1 := fxB_get n k (fxV s p n : Nat) hk
  rw [List.getElem?_eq_getElem (by rw [fxB_len]; exact hk)] at h1
  rw [Option.some.inj h1, ← fxV_get s p n k hk hn]
  have : ((256 : Int) ^ k) = ((256 ^ k : Nat) : Int) := by simp
  rw [this]
  omega
end Go.Proofs.YtbfjnidpjmhfiaaGreatDoor
