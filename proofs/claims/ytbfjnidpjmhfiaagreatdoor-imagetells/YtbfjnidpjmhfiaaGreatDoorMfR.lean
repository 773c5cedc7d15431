import Derived.Test.YtbfjnidpjmhfiaaGreatDoorMd2
import Derived.Test.YtbfjnidpjmhfiaaGreatDoorMf4
namespace Go.Proofs.YtbfjnidpjmhfiaaGreatDoor
open Go.ChangeShapes Go.WideShapes Go.ChangeAt Go.RowKit
set_option linter.unusedVariables false
set_option maxRecDepth 100000
theorem has_ext {s : ByteArray} {p : Nat} {l : List Int} (hl : ∀ x ∈ l, 0 ≤ x ∧ x < 256) (hp : p ≤ s.size) (h : HasAt s p l) : s.extract p (p + l.length) = strOfNums l := by
  have hz := h.size hp
  apply ByteArray.ext_getElem
  · rw [ext_size s p _ hz, strOfNums_size]
  · intro i h1 h2
    have hi : i < l.length := by rw [strOfNums_size] at h2; exact h2
    obtain ⟨g, hg⟩ := nums_get l hl i hi
    obtain ⟨g2, hg2⟩ := h i hi
    rw [ext_get s p _ i hz hi h1 g2]
    apply UInt8.toNat.inj
    omega
theorem ext_has {s : ByteArray} {p : Nat} {l : List Int} (hl : ∀ x ∈ l, 0 ≤ x ∧ x < 256) (hz : p + l.length ≤ s.size) (e : s.extract p (p + l.length) = strOfNums l) : HasAt s p l := by
  intro i hi
  obtain ⟨g, hg⟩ := nums_get l hl i hi
  refine ⟨by omega, ?_⟩
  rw [← hg]
  have hx : i < (s.extract p (p + l.length)).size := by rw [e]; exact g
  have : (s.extract p (p + l.length))[i]'hx = (strOfNums l)[i]'g := by congr 1
  rw [← this, ext_get s p _ i hz hi hx (by omega)]
theorem fx4_iff (b : ByteArray) (p c : Nat) (hp : p + 4 = b.size) (hc : c ≤ 4294967295) : c = fxV b p 4 ↔ strOfNums (fxB 4 (c : Nat)) = b.extract p b.size := by
  constructor
  · intro e
    subst e
    have := has_ext (fxB_bytes 4 _) (by omega) (fx_form b p 4 (by omega))
    rw [fxB_len, hp] at this
    exact this.symm
  · intro e
    have := fx_back b p 4 c (ext_has (fxB_bytes 4 _) (by rw [fxB_len]; omega) (by rw [fxB_len, hp]; exact e.symm))
    rw [this, Nat.mod_eq_of_lt (by omega)]
theorem fx4_str (b : ByteArray) (p c : Nat) (hp : p + 4 = b.size) (hc : c ≤ 4294967295) : decide (c = fxV b p 4) = decide (strOfNums (fxB 4 (c : Nat)) = b.extract p b.size) := by
  rw [decide_eq_decide]
  exact fx4_iff b p c hp hc
theorem bytes_app {l m : List Int} (h1 : ∀ x ∈ l, 0 ≤ x ∧ x < 256) (h2 : ∀ x ∈ m, 0 ≤ x ∧ x < 256) : ∀ x ∈ l ++ m, 0 ≤ x ∧ x < 256 := fun x h => (List.mem_append.1 h).elim (h1 x) (h2 x)
theorem opE_parts {b mg : ByteArray} (h : opE b mg = 0) : 12 ≤ b.size ∧ b.extract 0 8 = mg ∧ crN (b.extract 0 (b.size - 4)).data.toList = fxV b (b.size - 4) 4 := by
  unfold opE at h
  split at h
  · cases h
  · split at h
    · cases h
    · split at h
      · cases h
      · rename_i h1 h2 h3
        exact ⟨by omega, Decidable.not_not.1 h2, Decidable.not_not.1 h3⟩
theorem split_at (b : ByteArray) (n : Nat) (h : n ≤ b.size) : b = b.extract 0 n ++ b.extract n b.size := by
  rw [ByteArray.extract_append_extract, show min 0 n = 0 from by omega, show max n b.size = b.size from by omega, ByteArray.extract_zero_size]
theorem has_shift {b : ByteArray} {n : Nat} {l : List Int} {p : Nat} (hn : n ≤ b.size) (h : HasAt (b.extract 0 n) (8 + p) l) (h8 : 8 ≤ n) : HasAt (b.extract 8 n) p l := by
  intro i hi
  obtain ⟨g, hg⟩ := h i hi
  have g1 := g
  rw [ByteArray.size_extract] at g1
  refine ⟨by rw [ByteArray.size_extract]; omega, ?_⟩
  rw [← hg]
  simp only [ByteArray.getElem_extract]
  congr 3
  omega
end Go.Proofs.YtbfjnidpjmhfiaaGreatDoor
