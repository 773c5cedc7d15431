import Derived.Test.YtbfjnidpjmhfiaaGreatDoorMf4
import Derived.Test.YtbfjnidpjmhfiaaGreatDoorMfP
namespace Go.Proofs.YtbfjnidpjmhfiaaGreatDoor
open Go.ChangeShapes Go.WideShapes Go.ChangeAt Go.RowKit
set_option linter.unusedVariables false
set_option maxRecDepth 100000
theorem txtN_lenB (t : ByteArray) : (txtN t).length = t.size := by unfold txtN; rw [List.length_map, Array.length_toList]; rfl
/-- A text's own bytes. -/
theorem has_text {s t : ByteArray} {p : Nat} (h : HasAt s p (txtN t)) (hp : p + t.size ≤ s.size) : s.extract p (p + t.size) = t := by
  apply ByteArray.ext_getElem
  · rw [ext_size s p t.size hp]
  · intro i h1 h2
    obtain ⟨g1, g2⟩ := h i (by rw [txtN_lenB]; exact h2)
    rw [ext_get s p t.size i hp h2 h1 g1]
    apply UInt8.toNat_inj.1
    have : (txtN t)[i]'(by rw [txtN_lenB]; exact h2) = (t[i].toNat : Int) := by unfold txtN; rw [List.getElem_map]; rfl
    rw [this] at g2
    omega
theorem text_has (s : ByteArray) (p n : Nat) (hp : p + n ≤ s.size) : HasAt s p (txtN (s.extract p (p + n))) := by
  intro i hi
  have hz := ext_size s p n hp
  rw [txtN_lenB, hz] at hi
  refine ⟨by omega, ?_⟩
  have : (txtN (s.extract p (p + n)))[i]'(by rw [txtN_lenB, hz]; exact hi) = ((s.extract p (p + n))[i]'(by omega)).toNat := by unfold txtN; rw [List.getElem_map]; rfl
  rw [this, ext_get s p n i hp hi (by omega) (by omega)]
/-- A text with its length ahead. -/
def blB (t : ByteArray) : List Int := uvB t.size ++ txtN t
theorem rb_back (s t : ByteArray) (p m : Nat) (hp : p ≤ s.size) (ht : t.size ≤ m) (hm : m ≤ 1048576) (h : HasAt s p (blB t)) : rbV s p m = (t, (blB t).length, 0) := by
  unfold blB at h ⊢
  have h1 := ru_back0 s p t.size h.left (by omega)
  have h2 := h.right
  have h3 := h.size hp
  rw [List.length_append, txtN_lenB] at h3
  unfold rbV
  rw [h1]
  simp only [if_true]
  rw [if_neg (by omega), if_pos (by omega), has_text h2 (by omega), List.length_append, txtN_lenB]
theorem rb_form (s : ByteArray) (p m : Nat) (hc : (rbV s p m).2.2 = 0) : HasAt s p (blB (rbV s p m).1) ∧ (rbV s p m).2.1 = (blB (rbV s p m).1).length ∧ (rbV s p m).1.size ≤ m ∧ p + (rbV s p m).2.1 ≤ s.size := by
  unfold blB
  rw [List.length_append, txtN_lenB]
  unfold rbV at hc ⊢
  split at hc
  · rename_i c0
    split at hc
    · cases hc
    · rename_i c1
      split at hc
      · rename_i c2
        rw [if_pos c0, if_neg c1, if_pos c2]
        simp only
        obtain ⟨f1, f2⟩ := ru_form0H s p (ruV s p).1 (ruV s p).2.1 (by rw [← c0])
        have hz := ext_size s (p + (ruV s p).2.1) (ruV s p).1 c2
        rw [hz]
        refine ⟨HasAt.append f1 ?_, by omega, by omega, by omega⟩
        rw [← f2]
        exact text_has s _ _ c2
      · cases hc
  · rename_i c0
    exact absurd hc c0
/-- A text is read. -/
def rdB (s : ByteArray) (p : Nat) : Option (ByteArray × Nat) := if (rbV s p 1048576).2.2 = 0 then some ((rbV s p 1048576).1, p + (rbV s p 1048576).2.1) else none
theorem rdB_back {s t : ByteArray} {p : Nat} (hp : p ≤ s.size) (ht : t.size ≤ 1048576) (h : HasAt s p (blB t)) : rdB s p = some (t, p + (blB t).length) := by
  unfold rdB
  rw [rb_back s t p 1048576 hp ht (Nat.le_refl _) h]
  rfl
theorem rdB_form {s t : ByteArray} {p q : Nat} (h : rdB s p = some (t, q)) : HasAt s p (blB t) ∧ q = p + (blB t).length ∧ q ≤ s.size ∧ t.size ≤ 1048576 := by
  unfold rdB at h
  split at h
  · rename_i hc
    injection h with h
    injection h with h1 h2
    obtain ⟨f1, f2, f3, f4⟩ := rb_form s p 1048576 hc
    rw [← h1, ← h2]
    exact ⟨f1, by omega, f4, f3⟩
  · cases h
theorem blB_bytes (t : ByteArray) (h : t.size ≤ 1048576) : ∀ x ∈ blB t, 0 ≤ x ∧ x < 256 := fun x hx => by
  rcases List.mem_append.1 hx with h1 | h1
  · exact uvB_bytes _ (by omega) (by omega) x h1
  · unfold txtN at h1
    obtain ⟨y, _, e⟩ := List.mem_map.1 h1
    have := y.toNat_lt
    omega
end Go.Proofs.YtbfjnidpjmhfiaaGreatDoor
