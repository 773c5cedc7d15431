import Derived.Test.YtfabgoanammaiaaRdPlain1
namespace Go.Proofs.Ytfabgoanammaiaa
set_option linter.unusedVariables false

/-- The bytes L lie in s from p on. -/
def Lies (s : ByteArray) (p : Nat) (L : List Int) : Prop := ∀ j (hj : j < L.length), ∃ h : p + j < s.size, (s[p + j].toNat : Int) = L[j]
theorem Lies.left {s : ByteArray} {p : Nat} {L M : List Int} (h : Lies s p (L ++ M)) : Lies s p L := by
  intro j hj
  obtain ⟨h1, h2⟩ := h j (by rw [List.length_append]; omega)
  exact ⟨h1, by rw [h2, List.getElem_append_left hj]⟩
theorem Lies.right {s : ByteArray} {p : Nat} {L M : List Int} (h : Lies s p (L ++ M)) : Lies s (p + L.length) M := by
  intro j hj
  obtain ⟨h1, h2⟩ := h (L.length + j) (by rw [List.length_append]; omega)
  refine ⟨by omega, ?_⟩
  have e : (L ++ M)[L.length + j]'(by rw [List.length_append]; omega) = M[j] := by
    rw [List.getElem_append_right (by omega)]; simp
  rw [e] at h2
  rw [← h2]
  congr 3
  omega
theorem Lies.head {s : ByteArray} {p : Nat} {x : Int} {L : List Int} (h : Lies s p (x :: L)) : ∃ h : p < s.size, (s[p].toNat : Int) = x := by
  obtain ⟨h1, h2⟩ := h 0 (by simp)
  exact ⟨by omega, h2⟩
theorem Lies.tail {s : ByteArray} {p : Nat} {x : Int} {L : List Int} (h : Lies s p (x :: L)) : Lies s (p + 1) L := by
  have := Lies.right (L := [x]) (M := L) h
  simpa using this
theorem etE_of {s : ByteArray} {p : Nat} {x : Int} {L : List Int} (h : Lies s p (x :: L)) (hx : x = 1 ∨ x = 255) : etE s p = 0 ∧ etV s p = decide (x = 1) := by
  obtain ⟨h1, h2⟩ := h.head
  unfold etE etV
  rw [dif_pos h1, dif_pos h1]
  refine ⟨if_pos (by omega), ?_⟩
  rcases hx with e | e
  · have : s[p].toNat = 1 := by omega
    rw [this, e]; rfl
  · have : s[p].toNat = 255 := by omega
    rw [this, e]; rfl
theorem rtF_esc (s : ByteArray) (p : Nat) : ∀ (l : List UInt8) (f n : Nat) (acc : List Int), Lies s (p + n) (escL l ++ [0, 1]) → acc.length + l.length ≤ 4096 → l.length < f → rtF s p f n acc = (acc ++ l.map (fun x => (x.toNat : Int)), n + (escL l).length + 2, 0)
  | [], f, n, acc, h, hl, hf => by
    obtain ⟨f, rfl⟩ : ∃ f', f = f' + 1 := ⟨f - 1, by simp at hf; omega⟩
    have h : Lies s (p + n) [0, 1] := h
    obtain ⟨h1, h2⟩ := h.head
    have h3 := etE_of h.tail (.inl rfl)
    rw [rtF_end s p f n acc h1 (by omega) h3.1 h3.2]
    simp [escL]
  | x :: r, f, n, acc, h, hl, hf => by
    obtain ⟨f, rfl⟩ : ∃ f', f = f' + 1 := ⟨f - 1, by simp at hf; omega⟩
    simp only [List.length_cons] at hl hf
    by_cases hx : x = 0
    · have e : escL (x :: r) = 0 :: 255 :: escL r := by simp [escL, hx]
      rw [e] at h ⊢
      have h : Lies s (p + n) (0 :: 255 :: (escL r ++ [0, 1])) := h
      obtain ⟨h1, h2⟩ := h.head
      have h3 := etE_of h.tail (.inr rfl)
      rw [rtF_zero s p f n acc h1 (by omega) h3.1 h3.2, if_neg (by omega)]
      rw [rtF_esc s p r f (n + 2) (acc ++ [0]) (by have := h.tail.tail; rw [show p + n + 1 + 1 = p + (n + 2) by omega] at this; exact this) (by simp; omega) (by omega)]
      rw [hx]
      simp only [List.map_cons, List.length_cons, List.append_assoc, List.singleton_append]
      refine Prod.ext rfl (Prod.ext ?_ rfl)
      simp only
      omega
    · have e : escL (x :: r) = (x.toNat : Int) :: escL r := by simp [escL, hx]
      rw [e] at h ⊢
      have h : Lies s (p + n) ((x.toNat : Int) :: (escL r ++ [0, 1])) := h
      obtain ⟨h1, h2⟩ := h.head
      have hx0 : x.toNat ≠ 0 := fun h => hx (UInt8.toNat_inj.1 (by rw [h]; rfl))
      rw [rtF_byte s p f n acc h1 (by omega), if_neg (by omega), h2]
      rw [rtF_esc s p r f (n + 1) (acc ++ [(x.toNat : Int)]) (by have := h.tail; rw [show p + n + 1 = p + (n + 1) by omega] at this; exact this) (by simp; omega) (by omega)]
      simp only [List.map_cons, List.length_cons, List.append_assoc, List.singleton_append]
      refine Prod.ext rfl (Prod.ext ?_ rfl)
      simp only
      omega
end Go.Proofs.Ytfabgoanammaiaa
