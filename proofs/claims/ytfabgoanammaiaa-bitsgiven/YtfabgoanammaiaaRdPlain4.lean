import Derived.Test.YtfabgoanammaiaaRdPlain3
namespace Go.Proofs.Ytfabgoanammaiaa
set_option linter.unusedVariables false

/-- A value that may stand in a key. -/
def canV (v : Int × Int × ByteArray) : Prop := v = (0, 0, ⟨#[]⟩) ∨ (∃ i, v = (1, i, ⟨#[]⟩) ∧ 0 ≤ i ∧ i ≤ 1) ∨ (∃ i, v = (2, i, ⟨#[]⟩) ∧ -9223372036854775808 ≤ i ∧ i ≤ 9223372036854775807) ∨ (∃ t, v = (3, 0, t) ∧ t.size ≤ 4096)
theorem strOf_bytes (t : ByteArray) : strOfNums (t.data.toList.map fun x => (x.toNat : Int)) = t := by
  obtain ⟨⟨l⟩⟩ := t
  unfold strOfNums
  congr 1
  simp only [List.map_map]
  have : ((fun n : Int => UInt8.ofNat n.toNat) ∘ fun x : UInt8 => (x.toNat : Int)) = id := by
    funext x; simp
  rw [this, List.map_id]
theorem Lies.in {s : ByteArray} {p : Nat} {L : List Int} (h : Lies s p L) (hp : p ≤ s.size) : p + L.length ≤ s.size := by
  rcases Nat.eq_zero_or_pos L.length with e | e
  · omega
  · obtain ⟨h1, _⟩ := h (L.length - 1) (by omega)
    omega
theorem escL_ge : ∀ l, l.length ≤ (escL l).length
  | [] => by simp [escL]
  | x :: r => by
    have := escL_ge r
    by_cases h : x = 0
    · simp [escL, h]; omega
    · simp [escL, h]; omega
theorem keyV_pos (v : Int × Int × ByteArray) : (keyV v).length ≠ 0 := by
  unfold keyV
  split
  · simp
  · split
    · simp
    · split
      · unfold keyI; split <;> simp
      · simp
theorem rkV_key (s : ByteArray) (p : Nat) (v : Int × Int × ByteArray) (hc : canV v) (h : Lies s p (keyV v)) : ∃ h : p < s.size, rkV s (p + 1) (s[p].toNat : Int) = (v, (keyV v).length - 1, 0) := by
  rcases hc with rfl | ⟨i, rfl, h0, h1⟩ | ⟨i, rfl, h0, h1⟩ | ⟨t, rfl, h0⟩
  · have h : Lies s p [16] := h
    obtain ⟨g1, g2⟩ := h.head
    refine ⟨g1, ?_⟩
    rw [g2]
    rfl
  · have h : Lies s p [32 + i] := h
    obtain ⟨g1, g2⟩ := h.head
    refine ⟨g1, ?_⟩
    rw [g2]
    unfold rkV
    rw [if_neg (by omega), if_pos (by omega), show 32 + i - 32 = i by omega]
    rfl
  · have e : keyV (2, i, ⟨#[]⟩) = keyI i := rfl
    rw [e] at h ⊢
    by_cases hi : 0 ≤ i
    · obtain ⟨u, rfl⟩ : ∃ u : Nat, i = (u : Int) := ⟨i.toNat, by omega⟩
      have e2 : keyI (u : Int) = (56 + (szB u : Int)) :: hiB (szB u) (u : Int) := by
        unfold keyI
        rw [if_pos hi, Int.toNat_natCast, show IntKind.u64.wrap (u : Int) = (u : Int) by rw [IntKind.wrap_u64]; omega]
      rw [e2] at h ⊢
      obtain ⟨g1, g2⟩ := h.head
      have hz := szB_le u
      obtain ⟨m1, m2⟩ := mag_pos s (p + 1) u (by omega) (by omega) h.tail
      refine ⟨g1, ?_⟩
      rw [g2]
      have n1 : tagN (56 + (szB u : Int)) = szB u := by unfold tagN; rw [if_pos (by omega)]; omega
      unfold rkV
      rw [if_neg (by omega), if_neg (by omega), if_pos (by omega)]
      unfold tagV tagT
      rw [if_pos (by omega), if_pos (by omega), n1, m1, m2]
      simp [hiB_len]
    · obtain ⟨u, hu⟩ : ∃ u : Nat, (u : Int) = -1 - i := ⟨(-1 - i).toNat, by omega⟩
      have e2 : keyI i = (55 - (szB u : Int)) :: hiB (szB u) (18446744073709551615 - (u : Int)) := by
        unfold keyI
        rw [if_neg hi, show (-1 - i).toNat = u by omega, show IntKind.u64.wrap i = 18446744073709551615 - (u : Int) by rw [IntKind.wrap_u64]; omega]
      rw [e2] at h ⊢
      obtain ⟨g1, g2⟩ := h.head
      have hz := szB_le u
      obtain ⟨m1, m2⟩ := mag_neg s (p + 1) u (by omega) (by omega) h.tail
      refine ⟨g1, ?_⟩
      rw [g2]
      have n1 : tagN (55 - (szB u : Int)) = szB u := by unfold tagN; rw [if_neg (by omega)]; omega
      unfold rkV
      rw [if_neg (by omega), if_neg (by omega), if_pos (by omega)]
      unfold tagV tagT
      rw [if_neg (by omega), if_neg (by omega), n1, m1, m2, show -1 - (u : Int) = i by omega]
      simp [hiB_len]
  · have e : keyV (3, 0, t) = 80 :: (escL t.data.toList ++ [0, 1]) := rfl
    rw [e] at h ⊢
    obtain ⟨g1, g2⟩ := h.head
    refine ⟨g1, ?_⟩
    rw [g2]
    have ht : t.data.toList.length = t.size := by rw [Array.length_toList]; rfl
    have hin := h.tail.in (by omega)
    rw [List.length_append] at hin
    have hle : t.data.toList.length ≤ (escL t.data.toList).length := escL_ge _
    have hr : rtV s (p + 1) = (t.data.toList.map (fun x => (x.toNat : Int)), (escL t.data.toList).length + 2, 0) := by
      unfold rtV
      rw [rtF_esc s (p + 1) t.data.toList (s.size + 1) 0 [] h.tail (by simp only [List.length_nil]; omega) (by omega)]
      simp
    unfold rkV
    rw [if_neg (by omega), if_neg (by omega), if_neg (by omega), if_pos rfl, hr]
    simp only
    rw [strOf_bytes]
    simp
/-- A key, read: its values. -/
theorem rkF_key (s : ByteArray) (p : Nat) : ∀ (vs : List (Int × Int × ByteArray)) (f n : Nat) (acc : List (Int × Int × ByteArray)), (∀ v ∈ vs, canV v) → Lies s (p + n) (keyL vs) → p + n + (keyL vs).length = s.size → acc.length + vs.length ≤ 16 → vs.length < f → rkF s p f n acc = (acc ++ vs, n + (keyL vs).length, 0)
  | [], f, n, acc, hc, h, he, hl, hf => by
    obtain ⟨f, rfl⟩ : ∃ f', f = f' + 1 := ⟨f - 1, by simp at hf; omega⟩
    have e : (keyL ([] : List (Int × Int × ByteArray))).length = 0 := rfl
    rw [rkF_end s p f n acc (by omega), e]
    simp
  | v :: r, f, n, acc, hc, h, he, hl, hf => by
    obtain ⟨f, rfl⟩ : ∃ f', f = f' + 1 := ⟨f - 1, by simp at hf; omega⟩
    simp only [List.length_cons] at hl hf
    have e : keyL (v :: r) = keyV v ++ keyL r := by unfold keyL; rw [List.flatMap_cons]
    rw [e] at h he ⊢
    rw [List.length_append] at he
    obtain ⟨g1, g2⟩ := rkV_key s (p + n) v (hc v (by simp)) h.left
    have hk : 1 ≤ (keyV v).length := by
      rcases Nat.eq_zero_or_pos (keyV v).length with z | z
      · exact absurd z (keyV_pos v)
      · exact z
    rw [rkF_step s p f n acc g1 (by omega), g2, if_pos rfl]
    simp only
    rw [show n + 1 + ((keyV v).length - 1) = n + (keyV v).length by omega]
    rw [rkF_key s p r f (n + (keyV v).length) (acc ++ [v]) (fun x hx => hc x (by simp [hx])) (by have := h.right; rw [show p + n + (keyV v).length = p + (n + (keyV v).length) by omega] at this; exact this) (by omega) (by simp; omega) (by omega)]
    simp only [List.append_assoc, List.singleton_append, List.length_append]
    refine Prod.ext rfl (Prod.ext ?_ rfl)
    simp only
    omega
end Go.Proofs.Ytfabgoanammaiaa
