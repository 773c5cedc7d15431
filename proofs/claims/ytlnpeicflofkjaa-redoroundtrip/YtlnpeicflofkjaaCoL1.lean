import Derived.Test.YtlnpeicflofkjaaCoD5
namespace Go.Proofs.Ytlnpeicflofkjaa
open Go.ChangeShapes Go.WideShapes Go.ChangeAt Go.RowKit
set_option linter.unusedVariables false
set_option maxRecDepth 100000
theorem txtN_bytes (t : ByteArray) : ∀ x ∈ txtN t, 0 ≤ x ∧ x < 256 := by
  intro x hx
  simp only [txtN, List.mem_map] at hx
  obtain ⟨y, _, rfl⟩ := hx
  have := y.toNat_lt
  omega
theorem encWr_bytes (p : W3) (hp : mayW p = true) : ∀ x ∈ encWr p, 0 ≤ x ∧ x < 256 := by
  have hs : p.2.1.size ≤ 160 ∧ p.2.2.size ≤ 512 := by
    simp only [mayW, Bool.and_eq_true, Bool.or_eq_true, decide_eq_true_eq] at hp
    omega
  intro x hx
  simp only [encWr, List.mem_append, List.mem_cons, List.not_mem_nil, or_false] at hx
  rcases hx with (h | h | h) | h
  · omega
  · exact uvB_bytes _ (by omega) (by omega) x h
  · exact txtN_bytes _ x h
  · split at h
    · rcases List.mem_append.1 h with h | h
      · exact uvB_bytes _ (by omega) (by omega) x h
      · exact txtN_bytes _ x h
    · cases h
theorem encCo_bytes (s : Int) (vs : List W3) (hm : mayC s vs = true) : ∀ x ∈ encCo s vs, 0 ≤ x ∧ x < 256 := by
  have ha := mayC_all hm
  have hs : (1 ≤ s ∧ s ≤ 4611686018427387903) ∧ (1 ≤ vs.length ∧ vs.length ≤ 128) := by
    simp only [mayC, Bool.and_eq_true, decide_eq_true_eq] at hm
    exact hm.1
  intro x hx
  simp only [encCo, List.mem_append, List.mem_flatMap] at hx
  rcases hx with (h | h) | ⟨p, hp, h⟩
  · exact uvB_bytes _ (by omega) (by omega) x h
  · exact uvB_bytes _ (by omega) (by omega) x h
  · exact encWr_bytes p (ha p hp) x h
theorem encCo_len (s : Int) (vs : List W3) (hm : mayC s vs = true) : 1 ≤ (encCo s vs).length ∧ (encCo s vs).length ≤ 100000 := by
  have ha := encs_len vs (mayC_all hm)
  have h1 := uvB_len s
  have h2 := uvB_len vs.length
  have hs : (1 ≤ s ∧ s ≤ 4611686018427387903) ∧ (1 ≤ vs.length ∧ vs.length ≤ 128) := by
    simp only [mayC, Bool.and_eq_true, decide_eq_true_eq] at hm
    exact hm.1
  simp only [encCo, List.length_append]
  omega
theorem nums_size (xs : List Int) : (strOfNums xs).size = xs.length := by
  simp [strOfNums, ByteArray.size]
theorem nums_has (xs : List Int) (h : ∀ x ∈ xs, 0 ≤ x ∧ x < 256) : HasAt (strOfNums xs) 0 xs := by
  intro i hi
  obtain ⟨hh, he⟩ := nums_get xs h i hi
  refine ⟨by omega, ?_⟩
  simpa using he
theorem HasAt.more {s : ByteArray} {L : List Int} (h : HasAt s 0 L) (t : ByteArray) : HasAt (s ++ t) 0 L := by
  intro i hi
  obtain ⟨h1, h2⟩ := h i hi
  refine ⟨by rw [ByteArray.size_append]; omega, ?_⟩
  rw [← h2, ByteArray.getElem_append_left]
theorem HasAt.ofLess {s : ByteArray} {L : List Int} {n : Nat} (h : HasAt (s.extract 0 n) 0 L) : HasAt s 0 L := by
  intro i hi
  obtain ⟨h1, h2⟩ := h i hi
  have h3 : 0 + i < s.size := by
    rw [ByteArray.size_extract] at h1
    omega
  refine ⟨h3, ?_⟩
  rw [← h2, ByteArray.getElem_extract]
  simp
theorem rt_back (s : Int) (vs : List W3) (hm : mayC s vs = true) : rdCo (strOfNums (encCo s vs)) = some (s, vs) := by
  rw [rdCo_back _ s vs hm (nums_has _ (encCo_bytes s vs hm)), if_pos (nums_size _).symm]
theorem rt_more (s : Int) (vs : List W3) (hm : mayC s vs = true) (t : ByteArray) (ht : t.size = 1) : rdCo (strOfNums (encCo s vs) ++ t) = none := by
  rw [rdCo_back _ s vs hm ((nums_has _ (encCo_bytes s vs hm)).more t), if_neg]
  rw [ByteArray.size_append, nums_size]
  omega
theorem rt_less (s : Int) (vs : List W3) (hm : mayC s vs = true) (n : Nat) (hn : n < (encCo s vs).length) : rdCo ((strOfNums (encCo s vs)).extract 0 n) = none := by
  cases hr : rdCo ((strOfNums (encCo s vs)).extract 0 n) with
  | none => rfl
  | some y =>
    obtain ⟨st, us⟩ := y
    obtain ⟨h1, h2⟩ := rdCo_form _ _ _ hr
    have h3 : HasAt ((strOfNums (encCo s vs)).extract 0 n) 0 (encCo st us) := by
      rw [h1]
      exact nums_has _ (encCo_bytes _ _ h2)
    have h4 := rdCo_back _ _ _ h2 h3.ofLess
    have h5 : (encCo st us).length = n := by
      have := congrArg ByteArray.size h1
      rw [nums_size, ByteArray.size_extract, nums_size] at this
      omega
    rw [rt_back s vs hm, if_neg (by rw [nums_size]; omega)] at h4
    cases h4
end Go.Proofs.Ytlnpeicflofkjaa
