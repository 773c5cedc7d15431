import Derived.Test.YtfabgoanammaiaaRows4
namespace Go.Proofs.Ytfabgoanammaiaa
open Go.ChangeShapes Go.WideShapes Go.ChangeAt Go.RowKit
set_option linter.unusedVariables false

/-- A byte of four kinds: the kinds from the place m on. -/
def kind4 (vs : List (Int × Int × ByteArray)) (m : Nat) : Int := (vs[m]?.map (·.1)).getD 0
/-- The byte j of the kinds, those ahead of k alone. -/
def kbyte (vs : List (Int × Int × ByteArray)) (k j : Nat) : Int :=
  kind4 (vs.take k) (4 * j) + 4 * kind4 (vs.take k) (4 * j + 1) + 16 * kind4 (vs.take k) (4 * j + 2) + 64 * kind4 (vs.take k) (4 * j + 3)
def kbytes (vs : List (Int × Int × ByteArray)) (k nb : Nat) : List Int := (List.range nb).map (kbyte vs k)
theorem kind4_take (vs : List (Int × Int × ByteArray)) (k m : Nat) : kind4 (vs.take k) m = if m < k then kind4 vs m else 0 := by
  unfold kind4
  rw [List.getElem?_take]
  split <;> rfl
theorem kbytes_len (vs : List (Int × Int × ByteArray)) (k nb : Nat) : (kbytes vs k nb).length = nb := by simp [kbytes]
theorem kbytes_zero (vs : List (Int × Int × ByteArray)) (nb : Nat) : kbytes vs 0 nb = List.replicate nb 0 := by
  unfold kbytes
  have : kbyte vs 0 = fun _ => 0 := by
    funext j
    unfold kbyte
    simp only [kind4_take, Nat.not_lt_zero, if_false]
    rfl
  rw [this, List.map_const', List.length_range]
theorem kbyte_same (vs : List (Int × Int × ByteArray)) (k j : Nat) (h : j ≠ k / 4) : kbyte vs (k + 1) j = kbyte vs k j := by
  unfold kbyte
  simp only [kind4_take]
  have e : ∀ m, m < 4 → ((4 * j + m < k + 1) ↔ (4 * j + m < k)) := by intro m hm; omega
  have e0 := e 0 (by omega)
  have e1 := e 1 (by omega)
  have e2 := e 2 (by omega)
  have e3 := e 3 (by omega)
  simp only [Nat.add_zero] at e0
  simp only [e0, e1, e2, e3]
theorem kbyte_next (vs : List (Int × Int × ByteArray)) (k : Nat) : kbyte vs (k + 1) (k / 4) = kbyte vs k (k / 4) + 4 ^ (k % 4) * kind4 vs k := by
  unfold kbyte
  simp only [kind4_take]
  have hk : k = 4 * (k / 4) + k % 4 := by omega
  generalize k / 4 = j at *
  have hm : k % 4 = 0 ∨ k % 4 = 1 ∨ k % 4 = 2 ∨ k % 4 = 3 := by omega
  rcases hm with e | e | e | e <;> (rw [e] at hk ⊢; subst hk; simp; try omega)
theorem kbytes_next (vs : List (Int × Int × ByteArray)) (k nb : Nat) (h : k / 4 < nb) : (kbytes vs k nb).set (k / 4) (kbyte vs k (k / 4) + 4 ^ (k % 4) * kind4 vs k) = kbytes vs (k + 1) nb := by
  apply List.ext_getElem
  · simp [kbytes]
  · intro j h1 h2
    rw [List.getElem_set]
    have hj : j < nb := by simpa [kbytes] using h2
    split
    · rename_i e; subst e; simp [kbytes, kbyte_next]
    · rename_i e; simp [kbytes, kbyte_same vs k j (fun x => e x.symm)]
end Go.Proofs.Ytfabgoanammaiaa
